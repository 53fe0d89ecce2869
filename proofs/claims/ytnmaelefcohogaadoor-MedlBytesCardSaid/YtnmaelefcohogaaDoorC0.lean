/-
  Plain facts about the remainder of 24 bits, over no program: it is linear; one that comes out 0 of at most 24 bits came of zeros; what is left behind the sum itself is 0. No condition but those that each theorem names.
-/
import Derived.Test.YtnmaelefcohogaaDoorQC
namespace Go.Proofs.YtnmaelefcohogaaDoor

/-- The remainder behind one bit more; p: the polynomial without its highest bit. -/
def crc1 (p r : Nat) (b : Bool) : Nat := if r.testBit 23 != b then (2 * r % 2 ^ 24) ^^^ p else 2 * r % 2 ^ 24
/-- .. behind some bits more. -/
def crcOver (p r : Nat) (l : List Bool) : Nat := l.foldl (crc1 p) r

theorem crcOver_nil (p r : Nat) : crcOver p r [] = r := rfl
theorem crcOver_cons (p r : Nat) (b : Bool) (l : List Bool) : crcOver p r (b :: l) = crcOver p (crc1 p r b) l := rfl
theorem crcOver_append (p r : Nat) (l m : List Bool) : crcOver p r (l ++ m) = crcOver p (crcOver p r l) m := List.foldl_append

theorem xor_lt24 {a b : Nat} (ha : a < 2 ^ 24) (hb : b < 2 ^ 24) : a ^^^ b < 2 ^ 24 := Nat.xor_lt_two_pow ha hb
theorem crc1_lt {p : Nat} (hp : p < 2 ^ 24) (r : Nat) (b : Bool) : crc1 p r b < 2 ^ 24 := by
  have h : 2 * r % 2 ^ 24 < 2 ^ 24 := Nat.mod_lt _ (by decide)
  unfold crc1
  split
  · exact xor_lt24 h hp
  · exact h
theorem crcOver_lt {p : Nat} (hp : p < 2 ^ 24) : ∀ (l : List Bool) (r : Nat), r < 2 ^ 24 → crcOver p r l < 2 ^ 24
  | [], _, h => h
  | b :: l, r, _ => crcOver_lt hp l _ (crc1_lt hp r b)

theorem dbl_bit (r i : Nat) : (2 * r).testBit (i + 1) = r.testBit i := by
  rw [Nat.testBit_succ]; congr 1; omega
theorem dbl_xor (r s : Nat) : 2 * (r ^^^ s) % 2 ^ 24 = (2 * r % 2 ^ 24) ^^^ (2 * s % 2 ^ 24) := by
  apply Nat.eq_of_testBit_eq
  intro i
  rw [Nat.testBit_xor, Nat.testBit_mod_two_pow, Nat.testBit_mod_two_pow, Nat.testBit_mod_two_pow]
  by_cases hi : i < 24
  · simp only [hi, decide_true, Bool.true_and]
    cases i with
    | zero => simp [Nat.testBit_zero]
    | succ i => rw [dbl_bit, dbl_bit, dbl_bit, Nat.testBit_xor]
  · simp [hi]
theorem crc1_xor (p r s : Nat) (a b : Bool) : crc1 p (r ^^^ s) (a ^^ b) = crc1 p r a ^^^ crc1 p s b := by
  have key : ((r ^^^ s).testBit 23 != (a ^^ b)) = ((r.testBit 23 != a) ^^ (s.testBit 23 != b)) := by
    rw [Nat.testBit_xor]
    cases r.testBit 23 <;> cases s.testBit 23 <;> cases a <;> cases b <;> rfl
  unfold crc1
  rw [key, dbl_xor]
  generalize 2 * r % 2 ^ 24 = x
  generalize 2 * s % 2 ^ 24 = y
  cases (r.testBit 23 != a) <;> cases (s.testBit 23 != b)
  · rfl
  · show x ^^^ y ^^^ p = x ^^^ (y ^^^ p); rw [Nat.xor_assoc]
  · show x ^^^ y ^^^ p = x ^^^ p ^^^ y; rw [Nat.xor_assoc, Nat.xor_comm y p, ← Nat.xor_assoc]
  · show x ^^^ y = (x ^^^ p) ^^^ (y ^^^ p)
    rw [Nat.xor_assoc, Nat.xor_comm y p, ← Nat.xor_assoc p p y, Nat.xor_self, Nat.zero_xor]
/-- The sum of the xor is the xor of the sums. -/
theorem crcOver_xor (p : Nat) : ∀ (l m : List Bool) (r s : Nat), l.length = m.length → crcOver p (r ^^^ s) (List.zipWith (· ^^ ·) l m) = crcOver p r l ^^^ crcOver p s m
  | [], [], r, s, _ => rfl
  | a :: l, b :: m, r, s, h => by
    rw [List.zipWith_cons_cons, crcOver_cons, crcOver_cons, crcOver_cons, crc1_xor]
    exact crcOver_xor p l m _ _ (by simpa using h)
  | [], _ :: _, _, _, h => by simp at h
  | _ :: _, [], _, _, h => by simp at h

/-- What comes out as 0 behind k bits had its 24 - k lowest bits 0. -/
theorem crcOver_zero {p : Nat} (hp : p % 2 = 1) : ∀ (l : List Bool) (r : Nat), l.length ≤ 24 → crcOver p r l = 0 → r % 2 ^ (24 - l.length) = 0
  | [], r, _, h => by rw [crcOver_nil] at h; subst h; simp
  | b :: l, r, hl, h => by
    have hl' : l.length ≤ 23 := by simpa using hl
    have ih := crcOver_zero hp l (crc1 p r b) (by omega) h
    have hq : 24 - l.length = (23 - l.length) + 1 := by omega
    have hlen : 24 - (b :: l).length = 23 - l.length := by simp
    rw [hlen]
    rw [hq] at ih
    have even : crc1 p r b % 2 = 0 := by
      have : crc1 p r b % 2 ^ (23 - l.length + 1) % 2 = crc1 p r b % 2 := Nat.mod_mod_of_dvd _ ⟨2 ^ (23 - l.length), by rw [Nat.pow_succ, Nat.mul_comm]⟩
      rw [ih] at this; omega
    have hno : crc1 p r b = 2 * r % 2 ^ 24 := by
      unfold crc1 at even ⊢
      split at even
      · exfalso
        have h1 : (2 * r % 2 ^ 24) % 2 = 0 := by omega
        have h2 := Nat.testBit_zero ((2 * r % 2 ^ 24) ^^^ p)
        rw [Nat.testBit_xor, Nat.testBit_zero, Nat.testBit_zero, h1, hp, even] at h2
        simp at h2
      · rename_i hc; rw [if_neg hc]
    rw [hno] at ih
    have h3 : 2 * r % 2 ^ 24 % 2 ^ (23 - l.length + 1) = 2 * r % 2 ^ (23 - l.length + 1) :=
      Nat.mod_mod_of_dvd _ (Nat.pow_dvd_pow 2 (by omega))
    rw [h3, Nat.pow_succ, Nat.mul_comm _ 2, Nat.mul_mod_mul_left] at ih
    omega
/-- At most 24 bits whose sum is 0 are all 0. -/
theorem crcOver_zeros {p : Nat} (hp : p % 2 = 1) (hp2 : p < 2 ^ 24) : ∀ (l : List Bool), l.length ≤ 24 → crcOver p 0 l = 0 → ∀ b ∈ l, b = false
  | [], _, _, b, hb => by cases hb
  | true :: l, hl, h, _, _ => by
    exfalso
    have hl' : l.length ≤ 23 := by simpa using hl
    have h1 := crcOver_zero hp l (crc1 p 0 true) (by omega) h
    have h2 : crc1 p 0 true = p := by simp [crc1]
    rw [h2, show 24 - l.length = (23 - l.length) + 1 by omega] at h1
    have : p % 2 ^ (23 - l.length + 1) % 2 = p % 2 := Nat.mod_mod_of_dvd _ ⟨2 ^ (23 - l.length), by rw [Nat.pow_succ, Nat.mul_comm]⟩
    rw [h1] at this; omega
  | false :: l, hl, h, b, hb => by
    have h2 : crc1 p 0 false = 0 := by simp [crc1]
    rw [crcOver_cons, h2] at h
    rcases List.mem_cons.1 hb with rfl | hb
    · rfl
    · exact crcOver_zeros hp hp2 l (by simp at hl; omega) h b hb
/-- Zeros behind it don't make it 0. -/
theorem crc1_back {p r : Nat} (hp : p % 2 = 1) (hr : r < 2 ^ 24) (h : crc1 p r false = 0) : r = 0 := by
  have h1 := crcOver_zero hp [false] r (by simp) h
  have h2 : 24 - [false].length = 23 := rfl
  rw [h2] at h1
  unfold crc1 at h
  split at h
  · rename_i hc
    exfalso
    have e : 2 * r % 2 ^ 24 % 2 = 0 := by omega
    have h3 : ((2 * r % 2 ^ 24) ^^^ p).testBit 0 = false := by rw [h]; rfl
    rw [Nat.testBit_xor, Nat.testBit_zero, Nat.testBit_zero, e, hp] at h3
    simp at h3
  · rename_i hc
    rw [Nat.testBit_eq_decide_div_mod_eq] at hc
    have : ¬ r / 2 ^ 23 % 2 = 1 := by simpa using hc
    omega
theorem crcOver_back {p : Nat} (hp : p % 2 = 1) (hp2 : p < 2 ^ 24) : ∀ (k r : Nat), r < 2 ^ 24 → crcOver p r (List.replicate k false) = 0 → r = 0
  | 0, _, _, h => h
  | k + 1, r, hr, h => crc1_back hp hr (crcOver_back hp hp2 k _ (crc1_lt hp2 r false) h)
theorem crcOver_none (p : Nat) : ∀ k, crcOver p 0 (List.replicate k false) = 0
  | 0 => rfl
  | k + 1 => by rw [List.replicate_succ, crcOver_cons, show crc1 p 0 false = 0 by simp [crc1]]; exact crcOver_none p k
/-- Bits that lie within 24, with zeros ahead and behind: their sum is 0 only if all are 0. -/
theorem crcOver_burst {p : Nat} (hp : p % 2 = 1) (hp2 : p < 2 ^ 24) (a c : Nat) (l : List Bool) (hl : l.length ≤ 24) (h : crcOver p 0 (List.replicate a false ++ l ++ List.replicate c false) = 0) : ∀ b ∈ l, b = false := by
  rw [crcOver_append, crcOver_append, crcOver_none] at h
  exact crcOver_zeros hp hp2 l hl (crcOver_back hp hp2 c _ (crcOver_lt hp2 l 0 (by decide)) h)

/-- Behind its own bits the remainder is 0. -/
theorem crcOver_own (p : Nat) : ∀ (k r : Nat), k ≤ 24 → r < 2 ^ 24 → r % 2 ^ (24 - k) = 0 → crcOver p r (numBits (r / 2 ^ (24 - k)) k) = 0
  | 0, r, _, hr, h => by rw [Nat.mod_eq_of_lt hr] at h; subst h; rfl
  | k + 1, r, hk, hr, h => by
    have ht : (r / 2 ^ (24 - (k + 1))).testBit k = r.testBit 23 := by rw [Nat.testBit_div_two_pow]; congr 1; omega
    rw [numBits_succ, crcOver_cons, ht]
    have h1 : crc1 p r (r.testBit 23) = 2 * r % 2 ^ 24 := by unfold crc1; simp
    rw [h1]
    have hq : 24 - k = (24 - (k + 1)) + 1 := by omega
    have h2 : (2 * r % 2 ^ 24) % 2 ^ (24 - k) = 0 := by
      rw [Nat.mod_mod_of_dvd _ (Nat.pow_dvd_pow 2 (by omega)), hq, Nat.pow_succ, Nat.mul_comm _ 2, Nat.mul_mod_mul_left, h]
    have ih := crcOver_own p k (2 * r % 2 ^ 24) (by omega) (Nat.mod_lt _ (by decide)) h2
    have h3 : numBits (2 * r % 2 ^ 24 / 2 ^ (24 - k)) k = numBits (r / 2 ^ (24 - (k + 1))) k := by
      unfold numBits
      apply List.map_congr_left
      intro i hi
      have hi' : i < k := List.mem_range.1 hi
      rw [Nat.testBit_div_two_pow, Nat.testBit_div_two_pow, Nat.testBit_mod_two_pow, hq]
      rw [show k - 1 - i + (24 - (k + 1) + 1) = (k - 1 - i + (24 - (k + 1))) + 1 by omega, dbl_bit]
      simp
      omega
    rw [h3] at ih
    exact ih
theorem numBits_xor (u v k : Nat) : numBits (u ^^^ v) k = List.zipWith (· ^^ ·) (numBits u k) (numBits v k) := by
  unfold numBits
  rw [List.zipWith_map, List.zipWith_self]
  apply List.map_congr_left
  intro i _
  exact Nat.testBit_xor ..
/-- The sum behind some bits: 0 just where they are the remainder itself. -/
theorem crcOver_sealed {p : Nat} (hp : p % 2 = 1) (hp2 : p < 2 ^ 24) (r v : Nat) (hr : r < 2 ^ 24) (hv : v < 2 ^ 24) : crcOver p r (numBits v 24) = 0 ↔ r = v := by
  have own : ∀ x, x < 2 ^ 24 → crcOver p x (numBits x 24) = 0 := fun x hx => by
    have := crcOver_own p 24 x (Nat.le_refl _) hx (by simp [Nat.mod_one])
    simpa using this
  constructor
  · intro h
    have h2 := crcOver_xor p (numBits r 24) (numBits v 24) r r (by simp [numBits])
    rw [own r hr, h, ← numBits_xor, Nat.xor_self, Nat.xor_self] at h2
    have h3 := crcOver_zeros hp hp2 _ (by simp [numBits]) h2
    have hx := xor_lt24 hr hv
    have h4 : r ^^^ v = 0 := by
      apply Nat.eq_of_testBit_eq
      intro i
      rw [Nat.zero_testBit]
      by_cases hi : i < 24
      · refine h3 _ ?_
        unfold numBits
        exact List.mem_map.2 ⟨23 - i, List.mem_range.2 (by omega), by rw [show 24 - 1 - (23 - i) = i by omega]⟩
      · exact Nat.testBit_lt_two_pow (Nat.lt_of_lt_of_le hx (Nat.pow_le_pow_right (by decide) (by omega)))
    have h5 : r ^^^ (r ^^^ v) = r ^^^ 0 := by rw [h4]
    rw [← Nat.xor_assoc, Nat.xor_self, Nat.zero_xor, Nat.xor_zero] at h5
    exact h5.symm
  · rintro rfl; exact own r hr

theorem all_false (l : List Bool) (h : ∀ b ∈ l, b = false) : l = List.replicate l.length false := List.eq_replicate_iff.2 ⟨rfl, h⟩
theorem xor_false (a b : Bool) (h : (a ^^ b) = false) : a = b := by cases a <;> cases b <;> first | rfl | cases h
/-- Two strings that differ within 24 bits alone can't both have the sum 0. -/
theorem crc_apart {p : Nat} (hp : p % 2 = 1) (hp2 : p < 2 ^ 24) (x y : List Bool) (a : Nat) (hlen : x.length = y.length) (hsame : ∀ i, i < a ∨ a + 24 ≤ i → x[i]? = y[i]?) (hx : crcOver p 0 x = 0) (hy : crcOver p 0 y = 0) : x = y := by
  have h0 := crcOver_xor p x y 0 0 hlen
  rw [hx, hy, Nat.xor_self] at h0
  generalize he : List.zipWith (· ^^ ·) x y = e at h0
  have hel : e.length = x.length := by rw [← he]; simp; omega
  have heg : ∀ i u v, x[i]? = some u → y[i]? = some v → e[i]? = some (u ^^ v) := fun i u v h1 h2 => by
    rw [← he, List.getElem?_zipWith, h1, h2]
  have hout : ∀ i b, (i < a ∨ a + 24 ≤ i) → e[i]? = some b → b = false := fun i b hi hb => by
    have hil : i < e.length := (List.getElem?_eq_some_iff.1 hb).1
    have h1 : x[i]? = some (x[i]'(by omega)) := List.getElem?_eq_getElem _
    have h2 := heg i _ _ h1 ((hsame i hi).symm.trans h1)
    rw [hb] at h2
    injection h2 with h2
    rw [h2, Bool.xor_self]
  have e1 : e.take a = List.replicate (e.take a).length false := all_false _ fun b hb => by
    obtain ⟨i, hi, rfl⟩ := List.mem_iff_getElem.1 hb
    have hi' : i < a := by rw [List.length_take] at hi; omega
    exact hout i _ (.inl hi') (by rw [List.getElem_take, List.getElem?_eq_getElem])
  have e3 : e.drop (a + 24) = List.replicate (e.drop (a + 24)).length false := all_false _ fun b hb => by
    obtain ⟨i, hi, rfl⟩ := List.mem_iff_getElem.1 hb
    exact hout (a + 24 + i) _ (.inr (by omega)) (by rw [List.getElem_drop, List.getElem?_eq_getElem])
  have hcut : e = e.take a ++ (e.drop a).take 24 ++ e.drop (a + 24) := by
    rw [List.append_assoc, ← List.drop_drop, List.take_append_drop, List.take_append_drop]
  have hmid := crcOver_burst hp hp2 (e.take a).length (e.drop (a + 24)).length ((e.drop a).take 24) (List.length_take_le _ _) (by rw [← e1, ← e3, ← hcut]; exact h0)
  have hall : ∀ i b, e[i]? = some b → b = false := fun i b hb => by
    by_cases hi : i < a ∨ a + 24 ≤ i
    · exact hout i b hi hb
    · refine hmid b (List.mem_of_getElem? (i := i - a) ?_)
      rw [List.getElem?_take_of_lt (by omega), List.getElem?_drop, show a + (i - a) = i by omega]
      exact hb
  apply List.ext_getElem? 
  intro i
  by_cases hi : i < x.length
  · have h1 : x[i]? = some (x[i]'hi) := List.getElem?_eq_getElem _
    have h2 : y[i]? = some (y[i]'(by omega)) := List.getElem?_eq_getElem _
    rw [h1, h2, xor_false _ _ (hall i _ (heg i _ _ h1 h2))]
  · rw [List.getElem?_eq_none (by omega), List.getElem?_eq_none (by omega)]
theorem numBits_numOf (l : List Bool) : numBits (numOf l) l.length = l := by
  have key : ∀ (l : List Bool) (acc : Nat), (List.foldl (fun a b => 2 * a + b.toNat) acc l) = acc * 2 ^ l.length + numOf l ∧ numOf l < 2 ^ l.length := by
    intro l
    induction l with
    | nil => intro acc; simp [numOf]
    | cons b l ih =>
      intro acc
      have h1 := (ih (2 * acc + b.toNat)).1
      have h2 := (ih (2 * 0 + b.toNat)).1
      have h3 := (ih 0).2
      have hb : b.toNat ≤ 1 := by cases b <;> decide
      have hn : numOf (b :: l) = (2 * 0 + b.toNat) * 2 ^ l.length + numOf l := h2
      refine ⟨?_, ?_⟩
      · rw [List.foldl_cons, h1, hn, List.length_cons, Nat.pow_succ]
        rw [Nat.add_mul, Nat.add_mul, Nat.mul_comm (2 ^ l.length) 2, ← Nat.mul_assoc, Nat.mul_comm acc 2]
        omega
      · rw [hn, List.length_cons, Nat.pow_succ]
        have : b.toNat * 2 ^ l.length ≤ 1 * 2 ^ l.length := Nat.mul_le_mul_right _ hb
        rw [Nat.mul_zero, Nat.zero_add]
        omega
  induction l with
  | nil => rfl
  | cons b l ih =>
    have h2 := (key l (2 * 0 + b.toNat)).1
    have hlt := (key l 0).2
    have hn : numOf (b :: l) = b.toNat * 2 ^ l.length + numOf l := by have : numOf (b :: l) = _ := h2; rw [this]; simp
    rw [List.length_cons, numBits_succ]
    congr 1
    · rw [hn, Nat.testBit_eq_decide_div_mod_eq, Nat.mul_comm, Nat.mul_add_div (Nat.pos_of_ne_zero (by simp)), Nat.div_eq_of_lt hlt]
      cases b <;> rfl
    · conv => rhs; rw [← ih]
      unfold numBits
      apply List.map_congr_left
      intro i hi
      have hi' : i < l.length := List.mem_range.1 hi
      rw [hn]
      have e1 : (b.toNat * 2 ^ l.length + numOf l).testBit (l.length - 1 - i) = ((b.toNat * 2 ^ l.length + numOf l) % 2 ^ l.length).testBit (l.length - 1 - i) := by
        rw [Nat.testBit_mod_two_pow]; simp; omega
      rw [e1, Nat.mul_comm, Nat.mul_add_mod, Nat.mod_eq_of_lt hlt]
/-- A string whose last 24 bits are its sum, and no other, has the sum 0. -/
theorem crc_opens {p : Nat} (hp : p % 2 = 1) (hp2 : p < 2 ^ 24) (u f t : List Bool) (ht : t.length = 24) : crcOver p 0 (u ++ (f ++ t)) = 0 ↔ crcOver p 0 (u ++ f) = numOf t := by
  have h := numBits_numOf t
  rw [ht] at h
  have hlt := numOf_lt t
  rw [ht] at hlt
  rw [← List.append_assoc, crcOver_append]
  conv => lhs; rw [← h]
  exact crcOver_sealed hp hp2 _ _ (crcOver_lt hp2 _ 0 (by decide)) hlt
end Go.Proofs.YtnmaelefcohogaaDoor
