/-
  Plain facts about the remainder of 24 bits, over no program: it is linear; one that comes out 0 of at most 24 bits came of zeros; what is left behind the sum itself is 0. No condition but those that each theorem names.
  The remainder bit by bit and four bits at once: plain facts, and the contracts of behindBit and behindFour of package crc. Conditions: a remainder of 24 bits, and that the table holds what the program's text lays.
  behind of package crc: the remainder behind bits that may be. Conditions: a remainder of 24 bits, bits that may be and can be read, and that the table holds what the program's text lays.
  Sum of package crc answers as the document says, for all lists of bits. Conditions: that the lists and the bytes can be read, and that the table holds what the program's text lays.
  The document itself: the remainder behind bits, and Sum. No condition but that the lists and the bytes can be read.
  Seal of package crc, and the document's: both answer as the document says, for all bits. Conditions: that the bytes can be read, and (package crc) that the table holds what the program's text lays.
  What the statements of package crc begin with: the sum of one bit, and of nothing; how many strings are few. Condition: that the table holds what the program's text lays.
  The law of sums: for all lists of bits the program's sum is the document's. Conditions: that the lists and the bytes can be read, and that the table holds what the program's text lays.
  Open of package crc, and the document's: both answer as the document says, for all bits. Conditions: that the bytes can be read, and (package crc) that the table holds what the program's text lays.
  The document itself: Open. No condition but that the bytes can be read.
  Burst of package crc, and the document's: both answer as the document says, for all bits, places and patterns. No condition but that the bytes can be read.
  Plain facts about what is sealed, opened, turned, over no program: what was sealed has the sum 0, and so has what is opened; a burst, or other bits that are not sent, and the sum is another. Conditions: those that each theorem names.
  The document itself: Burst. No condition but that the bytes can be read.
  The law of seals: for all bits, places and patterns Seal, Open and Burst answer as the document says. Conditions: that the bytes can be read, and that the table holds what the program's text lays.
  The law of sealed bits: what was sealed is opened as it was. Conditions: that the bytes can be read, and that the table holds what the program's text lays.
  The law of bursts: if some bits of what was sealed are turned, all within 24 bits one behind the other, that is told. Conditions: that the bytes can be read, and that the table holds what the program's text lays.
  The law of what is not sent: if up to 24 bits that are not sent are others, that is told. Conditions: that the bytes can be read, and that the table holds what the program's text lays.
  Plain facts of a state and its bits: there and back, and unlike ones have unlike bits. No condition.
-/
import Derived.Test.YtcfbeelljhjnoaaDoorQC
import Derived.Laws.BitsAllLaws
import Derived.Test.YtcfbeelljhjnoaaDoorQD
namespace Go.Proofs.YtcfbeelljhjnoaaDoor

/-- The remainder behind one bit more; p: the polynomial without its highest bit. -/
def crc1 (p r : Nat) (b : Bool) : Nat := if r.testBit 23 != b then (2 * r % 2 ^ 24) ^^^ p else 2 * r % 2 ^ 24
/-- .. behind some bits more. -/
def crcOver (p r : Nat) (l : List Bool) : Nat := l.foldl (crc1 p) r

theorem crcOver_nil (p r : Nat) : crcOver p r [] = r := rfl
theorem crcOver_cons (p r : Nat) (b : Bool) (l : List Bool) : crcOver p r (b :: l) = crcOver p (crc1 p r b) l := rfl
theorem crcOver_append (p r : Nat) (l m : List Bool) : crcOver p r (l ++ m) = crcOver p (crcOver p r l) m := List.foldl_append

theorem xor_lt24 {a b : Nat} (ha : a < 2 ^ 24) (hb : b < 2 ^ 24) : a ^^^ b < 2 ^ 24 := Nat.xor_lt_two_pow ha hb
theorem crc1_lt {p : Nat} (hp : p < 2 ^ 24) (r : Nat) (b : Bool) : crc1 p r b < 2 ^ 24 := by
  have h : 2 * r % 2 ^ 24 < 2 ^ 24 := Nat.mod_lt _ (by decide)
  unfold crc1
  split
  · exact xor_lt24 h hp
  · exact h
theorem crcOver_lt {p : Nat} (hp : p < 2 ^ 24) : ∀ (l : List Bool) (r : Nat), r < 2 ^ 24 → crcOver p r l < 2 ^ 24
  | [], _, h => h
  | b :: l, r, _ => crcOver_lt hp l _ (crc1_lt hp r b)

theorem dbl_bit (r i : Nat) : (2 * r).testBit (i + 1) = r.testBit i := by
  rw [Nat.testBit_succ]; congr 1; omega
theorem dbl_xor (r s : Nat) : 2 * (r ^^^ s) % 2 ^ 24 = (2 * r % 2 ^ 24) ^^^ (2 * s % 2 ^ 24) := by
  apply Nat.eq_of_testBit_eq
  intro i
  rw [Nat.testBit_xor, Nat.testBit_mod_two_pow, Nat.testBit_mod_two_pow, Nat.testBit_mod_two_pow]
  by_cases hi : i < 24
  · simp only [hi, decide_true, Bool.true_and]
    cases i with
    | zero => simp [Nat.testBit_zero]
    | succ i => rw [dbl_bit, dbl_bit, dbl_bit, Nat.testBit_xor]
  · simp [hi]
theorem crc1_xor (p r s : Nat) (a b : Bool) : crc1 p (r ^^^ s) (a ^^ b) = crc1 p r a ^^^ crc1 p s b := by
  have key : ((r ^^^ s).testBit 23 != (a ^^ b)) = ((r.testBit 23 != a) ^^ (s.testBit 23 != b)) := by
    rw [Nat.testBit_xor]
    cases r.testBit 23 <;> cases s.testBit 23 <;> cases a <;> cases b <;> rfl
  unfold crc1
  rw [key, dbl_xor]
  generalize 2 * r % 2 ^ 24 = x
  generalize 2 * s % 2 ^ 24 = y
  cases (r.testBit 23 != a) <;> cases (s.testBit 23 != b)
  · rfl
  · show x ^^^ y ^^^ p = x ^^^ (y ^^^ p); rw [Nat.xor_assoc]
  · show x ^^^ y ^^^ p = x ^^^ p ^^^ y; rw [Nat.xor_assoc, Nat.xor_comm y p, ← Nat.xor_assoc]
  · show x ^^^ y = (x ^^^ p) ^^^ (y ^^^ p)
    rw [Nat.xor_assoc, Nat.xor_comm y p, ← Nat.xor_assoc p p y, Nat.xor_self, Nat.zero_xor]
/-- The sum of the xor is the xor of the sums. -/
theorem crcOver_xor (p : Nat) : ∀ (l m : List Bool) (r s : Nat), l.length = m.length → crcOver p (r ^^^ s) (List.zipWith (· ^^ ·) l m) = crcOver p r l ^^^ crcOver p s m
  | [], [], r, s, _ => rfl
  | a :: l, b :: m, r, s, h => by
    rw [List.zipWith_cons_cons, crcOver_cons, crcOver_cons, crcOver_cons, crc1_xor]
    exact crcOver_xor p l m _ _ (by simpa using h)
  | [], _ :: _, _, _, h => by simp at h
  | _ :: _, [], _, _, h => by simp at h

/-- What comes out as 0 behind k bits had its 24 - k lowest bits 0. -/
theorem crcOver_zero {p : Nat} (hp : p % 2 = 1) : ∀ (l : List Bool) (r : Nat), l.length ≤ 24 → crcOver p r l = 0 → r % 2 ^ (24 - l.length) = 0
  | [], r, _, h => by rw [crcOver_nil] at h; subst h; simp
  | b :: l, r, hl, h => by
    have hl' : l.length ≤ 23 := by simpa using hl
    have ih := crcOver_zero hp l (crc1 p r b) (by omega) h
    have hq : 24 - l.length = (23 - l.length) + 1 := by omega
    have hlen : 24 - (b :: l).length = 23 - l.length := by simp
    rw [hlen]
    rw [hq] at ih
    have even : crc1 p r b % 2 = 0 := by
      have : crc1 p r b % 2 ^ (23 - l.length + 1) % 2 = crc1 p r b % 2 := Nat.mod_mod_of_dvd _ ⟨2 ^ (23 - l.length), by rw [Nat.pow_succ, Nat.mul_comm]⟩
      rw [ih] at this; omega
    have hno : crc1 p r b = 2 * r % 2 ^ 24 := by
      unfold crc1 at even ⊢
      split at even
      · exfalso
        have h1 : (2 * r % 2 ^ 24) % 2 = 0 := by omega
        have h2 := Nat.testBit_zero ((2 * r % 2 ^ 24) ^^^ p)
        rw [Nat.testBit_xor, Nat.testBit_zero, Nat.testBit_zero, h1, hp, even] at h2
        simp at h2
      · rename_i hc; rw [if_neg hc]
    rw [hno] at ih
    have h3 : 2 * r % 2 ^ 24 % 2 ^ (23 - l.length + 1) = 2 * r % 2 ^ (23 - l.length + 1) :=
      Nat.mod_mod_of_dvd _ (Nat.pow_dvd_pow 2 (by omega))
    rw [h3, Nat.pow_succ, Nat.mul_comm _ 2, Nat.mul_mod_mul_left] at ih
    omega
/-- At most 24 bits whose sum is 0 are all 0. -/
theorem crcOver_zeros {p : Nat} (hp : p % 2 = 1) (hp2 : p < 2 ^ 24) : ∀ (l : List Bool), l.length ≤ 24 → crcOver p 0 l = 0 → ∀ b ∈ l, b = false
  | [], _, _, b, hb => by cases hb
  | true :: l, hl, h, _, _ => by
    exfalso
    have hl' : l.length ≤ 23 := by simpa using hl
    have h1 := crcOver_zero hp l (crc1 p 0 true) (by omega) h
    have h2 : crc1 p 0 true = p := by simp [crc1]
    rw [h2, show 24 - l.length = (23 - l.length) + 1 by omega] at h1
    have : p % 2 ^ (23 - l.length + 1) % 2 = p % 2 := Nat.mod_mod_of_dvd _ ⟨2 ^ (23 - l.length), by rw [Nat.pow_succ, Nat.mul_comm]⟩
    rw [h1] at this; omega
  | false :: l, hl, h, b, hb => by
    have h2 : crc1 p 0 false = 0 := by simp [crc1]
    rw [crcOver_cons, h2] at h
    rcases List.mem_cons.1 hb with rfl | hb
    · rfl
    · exact crcOver_zeros hp hp2 l (by simp at hl; omega) h b hb
/-- Zeros behind it don't make it 0. -/
theorem crc1_back {p r : Nat} (hp : p % 2 = 1) (hr : r < 2 ^ 24) (h : crc1 p r false = 0) : r = 0 := by
  have h1 := crcOver_zero hp [false] r (by simp) h
  have h2 : 24 - [false].length = 23 := rfl
  rw [h2] at h1
  unfold crc1 at h
  split at h
  · rename_i hc
    exfalso
    have e : 2 * r % 2 ^ 24 % 2 = 0 := by omega
    have h3 : ((2 * r % 2 ^ 24) ^^^ p).testBit 0 = false := by rw [h]; rfl
    rw [Nat.testBit_xor, Nat.testBit_zero, Nat.testBit_zero, e, hp] at h3
    simp at h3
  · rename_i hc
    rw [Nat.testBit_eq_decide_div_mod_eq] at hc
    have : ¬ r / 2 ^ 23 % 2 = 1 := by simpa using hc
    omega
theorem crcOver_back {p : Nat} (hp : p % 2 = 1) (hp2 : p < 2 ^ 24) : ∀ (k r : Nat), r < 2 ^ 24 → crcOver p r (List.replicate k false) = 0 → r = 0
  | 0, _, _, h => h
  | k + 1, r, hr, h => crc1_back hp hr (crcOver_back hp hp2 k _ (crc1_lt hp2 r false) h)
theorem crcOver_none (p : Nat) : ∀ k, crcOver p 0 (List.replicate k false) = 0
  | 0 => rfl
  | k + 1 => by rw [List.replicate_succ, crcOver_cons, show crc1 p 0 false = 0 by simp [crc1]]; exact crcOver_none p k
/-- Bits that lie within 24, with zeros ahead and behind: their sum is 0 only if all are 0. -/
theorem crcOver_burst {p : Nat} (hp : p % 2 = 1) (hp2 : p < 2 ^ 24) (a c : Nat) (l : List Bool) (hl : l.length ≤ 24) (h : crcOver p 0 (List.replicate a false ++ l ++ List.replicate c false) = 0) : ∀ b ∈ l, b = false := by
  rw [crcOver_append, crcOver_append, crcOver_none] at h
  exact crcOver_zeros hp hp2 l hl (crcOver_back hp hp2 c _ (crcOver_lt hp2 l 0 (by decide)) h)

/-- Behind its own bits the remainder is 0. -/
theorem crcOver_own (p : Nat) : ∀ (k r : Nat), k ≤ 24 → r < 2 ^ 24 → r % 2 ^ (24 - k) = 0 → crcOver p r (numBits (r / 2 ^ (24 - k)) k) = 0
  | 0, r, _, hr, h => by rw [Nat.mod_eq_of_lt hr] at h; subst h; rfl
  | k + 1, r, hk, hr, h => by
    have ht : (r / 2 ^ (24 - (k + 1))).testBit k = r.testBit 23 := by rw [Nat.testBit_div_two_pow]; congr 1; omega
    rw [numBits_succ, crcOver_cons, ht]
    have h1 : crc1 p r (r.testBit 23) = 2 * r % 2 ^ 24 := by unfold crc1; simp
    rw [h1]
    have hq : 24 - k = (24 - (k + 1)) + 1 := by omega
    have h2 : (2 * r % 2 ^ 24) % 2 ^ (24 - k) = 0 := by
      rw [Nat.mod_mod_of_dvd _ (Nat.pow_dvd_pow 2 (by omega)), hq, Nat.pow_succ, Nat.mul_comm _ 2, Nat.mul_mod_mul_left, h]
    have ih := crcOver_own p k (2 * r % 2 ^ 24) (by omega) (Nat.mod_lt _ (by decide)) h2
    have h3 : numBits (2 * r % 2 ^ 24 / 2 ^ (24 - k)) k = numBits (r / 2 ^ (24 - (k + 1))) k := by
      unfold numBits
      apply List.map_congr_left
      intro i hi
      have hi' : i < k := List.mem_range.1 hi
      rw [Nat.testBit_div_two_pow, Nat.testBit_div_two_pow, Nat.testBit_mod_two_pow, hq]
      rw [show k - 1 - i + (24 - (k + 1) + 1) = (k - 1 - i + (24 - (k + 1))) + 1 by omega, dbl_bit]
      simp
      omega
    rw [h3] at ih
    exact ih
theorem numBits_xor (u v k : Nat) : numBits (u ^^^ v) k = List.zipWith (· ^^ ·) (numBits u k) (numBits v k) := by
  unfold numBits
  rw [List.zipWith_map, List.zipWith_self]
  apply List.map_congr_left
  intro i _
  exact Nat.testBit_xor ..
/-- The sum behind some bits: 0 just where they are the remainder itself. -/
theorem crcOver_sealed {p : Nat} (hp : p % 2 = 1) (hp2 : p < 2 ^ 24) (r v : Nat) (hr : r < 2 ^ 24) (hv : v < 2 ^ 24) : crcOver p r (numBits v 24) = 0 ↔ r = v := by
  have own : ∀ x, x < 2 ^ 24 → crcOver p x (numBits x 24) = 0 := fun x hx => by
    have := crcOver_own p 24 x (Nat.le_refl _) hx (by simp [Nat.mod_one])
    simpa using this
  constructor
  · intro h
    have h2 := crcOver_xor p (numBits r 24) (numBits v 24) r r (by simp [numBits])
    rw [own r hr, h, ← numBits_xor, Nat.xor_self, Nat.xor_self] at h2
    have h3 := crcOver_zeros hp hp2 _ (by simp [numBits]) h2
    have hx := xor_lt24 hr hv
    have h4 : r ^^^ v = 0 := by
      apply Nat.eq_of_testBit_eq
      intro i
      rw [Nat.zero_testBit]
      by_cases hi : i < 24
      · refine h3 _ ?_
        unfold numBits
        exact List.mem_map.2 ⟨23 - i, List.mem_range.2 (by omega), by rw [show 24 - 1 - (23 - i) = i by omega]⟩
      · exact Nat.testBit_lt_two_pow (Nat.lt_of_lt_of_le hx (Nat.pow_le_pow_right (by decide) (by omega)))
    have h5 : r ^^^ (r ^^^ v) = r ^^^ 0 := by rw [h4]
    rw [← Nat.xor_assoc, Nat.xor_self, Nat.zero_xor, Nat.xor_zero] at h5
    exact h5.symm
  · rintro rfl; exact own r hr

theorem all_false (l : List Bool) (h : ∀ b ∈ l, b = false) : l = List.replicate l.length false := List.eq_replicate_iff.2 ⟨rfl, h⟩
theorem xor_false (a b : Bool) (h : (a ^^ b) = false) : a = b := by cases a <;> cases b <;> first | rfl | cases h
/-- Two strings that differ within 24 bits alone can't both have the sum 0. -/
theorem crc_apart {p : Nat} (hp : p % 2 = 1) (hp2 : p < 2 ^ 24) (x y : List Bool) (a : Nat) (hlen : x.length = y.length) (hsame : ∀ i, i < a ∨ a + 24 ≤ i → x[i]? = y[i]?) (hx : crcOver p 0 x = 0) (hy : crcOver p 0 y = 0) : x = y := by
  have h0 := crcOver_xor p x y 0 0 hlen
  rw [hx, hy, Nat.xor_self] at h0
  generalize he : List.zipWith (· ^^ ·) x y = e at h0
  have hel : e.length = x.length := by rw [← he]; simp; omega
  have heg : ∀ i u v, x[i]? = some u → y[i]? = some v → e[i]? = some (u ^^ v) := fun i u v h1 h2 => by
    rw [← he, List.getElem?_zipWith, h1, h2]
  have hout : ∀ i b, (i < a ∨ a + 24 ≤ i) → e[i]? = some b → b = false := fun i b hi hb => by
    have hil : i < e.length := (List.getElem?_eq_some_iff.1 hb).1
    have h1 : x[i]? = some (x[i]'(by omega)) := List.getElem?_eq_getElem _
    have h2 := heg i _ _ h1 ((hsame i hi).symm.trans h1)
    rw [hb] at h2
    injection h2 with h2
    rw [h2, Bool.xor_self]
  have e1 : e.take a = List.replicate (e.take a).length false := all_false _ fun b hb => by
    obtain ⟨i, hi, rfl⟩ := List.mem_iff_getElem.1 hb
    have hi' : i < a := by rw [List.length_take] at hi; omega
    exact hout i _ (.inl hi') (by rw [List.getElem_take, List.getElem?_eq_getElem])
  have e3 : e.drop (a + 24) = List.replicate (e.drop (a + 24)).length false := all_false _ fun b hb => by
    obtain ⟨i, hi, rfl⟩ := List.mem_iff_getElem.1 hb
    exact hout (a + 24 + i) _ (.inr (by omega)) (by rw [List.getElem_drop, List.getElem?_eq_getElem])
  have hcut : e = e.take a ++ (e.drop a).take 24 ++ e.drop (a + 24) := by
    rw [List.append_assoc, ← List.drop_drop, List.take_append_drop, List.take_append_drop]
  have hmid := crcOver_burst hp hp2 (e.take a).length (e.drop (a + 24)).length ((e.drop a).take 24) (List.length_take_le _ _) (by rw [← e1, ← e3, ← hcut]; exact h0)
  have hall : ∀ i b, e[i]? = some b → b = false := fun i b hb => by
    by_cases hi : i < a ∨ a + 24 ≤ i
    · exact hout i b hi hb
    · refine hmid b (List.mem_of_getElem? (i := i - a) ?_)
      rw [List.getElem?_take_of_lt (by omega), List.getElem?_drop, show a + (i - a) = i by omega]
      exact hb
  apply List.ext_getElem? 
  intro i
  by_cases hi : i < x.length
  · have h1 : x[i]? = some (x[i]'hi) := List.getElem?_eq_getElem _
    have h2 : y[i]? = some (y[i]'(by omega)) := List.getElem?_eq_getElem _
    rw [h1, h2, xor_false _ _ (hall i _ (heg i _ _ h1 h2))]
  · rw [List.getElem?_eq_none (by omega), List.getElem?_eq_none (by omega)]
theorem numBits_numOf (l : List Bool) : numBits (numOf l) l.length = l := by
  have key : ∀ (l : List Bool) (acc : Nat), (List.foldl (fun a b => 2 * a + b.toNat) acc l) = acc * 2 ^ l.length + numOf l ∧ numOf l < 2 ^ l.length := by
    intro l
    induction l with
    | nil => intro acc; simp [numOf]
    | cons b l ih =>
      intro acc
      have h1 := (ih (2 * acc + b.toNat)).1
      have h2 := (ih (2 * 0 + b.toNat)).1
      have h3 := (ih 0).2
      have hb : b.toNat ≤ 1 := by cases b <;> decide
      have hn : numOf (b :: l) = (2 * 0 + b.toNat) * 2 ^ l.length + numOf l := h2
      refine ⟨?_, ?_⟩
      · rw [List.foldl_cons, h1, hn, List.length_cons, Nat.pow_succ]
        rw [Nat.add_mul, Nat.add_mul, Nat.mul_comm (2 ^ l.length) 2, ← Nat.mul_assoc, Nat.mul_comm acc 2]
        omega
      · rw [hn, List.length_cons, Nat.pow_succ]
        have : b.toNat * 2 ^ l.length ≤ 1 * 2 ^ l.length := Nat.mul_le_mul_right _ hb
        rw [Nat.mul_zero, Nat.zero_add]
        omega
  induction l with
  | nil => rfl
  | cons b l ih =>
    have h2 := (key l (2 * 0 + b.toNat)).1
    have hlt := (key l 0).2
    have hn : numOf (b :: l) = b.toNat * 2 ^ l.length + numOf l := by have : numOf (b :: l) = _ := h2; rw [this]; simp
    rw [List.length_cons, numBits_succ]
    congr 1
    · rw [hn, Nat.testBit_eq_decide_div_mod_eq, Nat.mul_comm, Nat.mul_add_div (Nat.pos_of_ne_zero (by simp)), Nat.div_eq_of_lt hlt]
      cases b <;> rfl
    · conv => rhs; rw [← ih]
      unfold numBits
      apply List.map_congr_left
      intro i hi
      have hi' : i < l.length := List.mem_range.1 hi
      rw [hn]
      have e1 : (b.toNat * 2 ^ l.length + numOf l).testBit (l.length - 1 - i) = ((b.toNat * 2 ^ l.length + numOf l) % 2 ^ l.length).testBit (l.length - 1 - i) := by
        rw [Nat.testBit_mod_two_pow]; simp; omega
      rw [e1, Nat.mul_comm, Nat.mul_add_mod, Nat.mod_eq_of_lt hlt]
/-- A string whose last 24 bits are its sum, and no other, has the sum 0. -/
theorem crc_opens {p : Nat} (hp : p % 2 = 1) (hp2 : p < 2 ^ 24) (u f t : List Bool) (ht : t.length = 24) : crcOver p 0 (u ++ (f ++ t)) = 0 ↔ crcOver p 0 (u ++ f) = numOf t := by
  have h := numBits_numOf t
  rw [ht] at h
  have hlt := numOf_lt t
  rw [ht] at hlt
  rw [← List.append_assoc, crcOver_append]
  conv => lhs; rw [← h]
  exact crcOver_sealed hp hp2 _ _ (crcOver_lt hp2 _ 0 (by decide)) hlt
end Go.Proofs.YtcfbeelljhjnoaaDoor

namespace Go.Proofs.YtcfbeelljhjnoaaDoor
open Go.RowKit

/-- The table that the program's text lays. -/
def tabL : List Int := [0, 6122955, 12245910, 15185501, 2677479, 7714604, 9568625, 13593786, 5354958, 841733, 15429208, 11928467, 7958313, 2360034, 12825791, 10410356]
/-- The table's cells hold it. -/
def Tab (w : World) : Prop := 0 < w.heap.size ∧ 1 < w.heap.size ∧ ∀ i, i < 16 → w.cell? ⟨1, i, none⟩ = some (.int .u32 (tabL.getD i 0))
theorem Tab.below {B : Nat} {w w' : World} (h : Tab w) (hb : Below B w w') (hB : w.heap.size ≤ B ∨ 1 < B) : Tab w' :=
  have hlt : 1 < B := by
    rcases hB with h1 | h1
    · exact Nat.lt_of_lt_of_le h.2.1 h1
    · exact h1
  have hs : 1 < w'.heap.size := Nat.lt_of_lt_of_le h.2.1 hb.size
  ⟨by omega, hs, fun i hi => (hb.cell (p := ⟨1, i, none⟩) hlt).trans (h.2.2 i hi)⟩

/-- The remainder behind bits, at first r. -/
abbrev rem (r : Nat) (l : List Bool) : Nat := crcOver 6122955 r l
theorem poly_odd : 6122955 % 2 = 1 := by decide
theorem poly_lt : 6122955 < 2 ^ 24 := by decide
theorem rem_lt (l : List Bool) (r : Nat) (h : r < 2 ^ 24) : rem r l < 2 ^ 24 := crcOver_lt poly_lt l r h

theorem low_four (s : Nat) (h : s < 2 ^ 20) : rem s [false, false, false, false] = 16 * s := by
  have one : ∀ x : Nat, x < 2 ^ 23 → crc1 6122955 x false = 2 * x := fun x hx => by
    unfold crc1
    rw [Nat.testBit_lt_two_pow hx]
    simp
    omega
  unfold rem
  rw [crcOver_cons, crcOver_cons, crcOver_cons, crcOver_cons, crcOver_nil, one s (by omega), one (2 * s) (by omega), one (2 * (2 * s)) (by omega), one (2 * (2 * (2 * s))) (by omega)]
  omega
theorem high_four : ∀ h : Fin 16, ∀ f : Fin 16, ((rem (h.val * 2 ^ 20) (numBits f.val 4) : Nat) : Int) = tabL.getD (h.val ^^^ f.val) 0 := by decide +kernel
theorem split20 (s : Nat) : s = (s % 2 ^ 20) ^^^ (s / 2 ^ 20 * 2 ^ 20) := by
  apply Nat.eq_of_testBit_eq
  intro i
  rw [Nat.testBit_xor, Nat.testBit_mod_two_pow, Nat.testBit_mul_two_pow, Nat.testBit_div_two_pow]
  by_cases h : i < 20
  · simp [h, Nat.not_le.2 h]
  · have h2 : 20 ≤ i := by omega
    simp [h, h2]
theorem zip_false (l : List Bool) : List.zipWith (· ^^ ·) (List.replicate l.length false) l = l := by
  apply List.ext_getElem
  · simp
  · intro i h1 h2; simp
/-- Four bits at once. -/
theorem four_at_once (s f : Nat) (hs : s < 2 ^ 24) (hf : f < 16) : ∃ t : Nat, tabL.getD (s / 2 ^ 20 ^^^ f) 0 = (t : Int) ∧ t < 2 ^ 24 ∧ rem s (numBits f 4) = (16 * s % 2 ^ 24) ^^^ t := by
  have hh : s / 2 ^ 20 < 16 := by omega
  refine ⟨rem (s / 2 ^ 20 * 2 ^ 20) (numBits f 4), (high_four ⟨s / 2 ^ 20, hh⟩ ⟨f, hf⟩).symm, rem_lt _ _ (by omega), ?_⟩
  have hx := crcOver_xor 6122955 [false, false, false, false] (numBits f 4) (s % 2 ^ 20) (s / 2 ^ 20 * 2 ^ 20) (by rw [numBits_length]; rfl)
  have hz : List.zipWith (· ^^ ·) [false, false, false, false] (numBits f 4) = numBits f 4 := by
    have := zip_false (numBits f 4)
    rw [numBits_length] at this
    exact this
  rw [← split20, hz] at hx
  have hl := low_four (s % 2 ^ 20) (by omega)
  unfold rem at hl ⊢
  rw [hx, hl]
  congr 1
  omega

theorem u32_mask (x : Nat) (h : x < 4294967296) : bits .and .u32 (x : Int) 16777215 = ((x % 2 ^ 24 : Nat) : Int) := by
  rw [show (16777215 : Int) = ((16777215 : Nat) : Int) from rfl, u32_and_nat _ _ h (by omega)]
  congr 1
  exact Nat.and_two_pow_sub_one_eq_mod x 24
theorem bool_nat (b : Bool) : (b.toNat : Nat) < 2 := by cases b <;> decide

set_option maxHeartbeats 400000 in
theorem behindBit_any (s : Nat) (b : Bool) (w : World) (hs : s < 2 ^ 24) :
    Calls Tryd.prog 91 #[.int .u32 s, .int .u32 b.toNat] w fun e w' => e = .returned (.int .u32 (crc1 6122955 s b : Nat)) ∧ w = w' := by
  have hb := bool_nat b
  have hx : bits .xor .u32 ((s : Int) / 8388608) (b.toNat : Int) = ((s / 2 ^ 23 ^^^ b.toNat : Nat) : Int) := by
    rw [show ((s : Int) / 8388608) = ((s / 2 ^ 23 : Nat) : Int) by omega, u32_xor_nat _ _ (by omega) (by omega)]
  have ha : bits .and .u32 ((s : Int) * 2) 16777215 = ((2 * s % 2 ^ 24 : Nat) : Int) := by
    rw [show ((s : Int) * 2) = ((2 * s : Nat) : Int) by omega, u32_mask _ (by omega)]
  have hp : bits .xor .u32 ((2 * s % 2 ^ 24 : Nat) : Int) 6122955 = (((2 * s % 2 ^ 24) ^^^ 6122955 : Nat) : Int) := by
    rw [show (6122955 : Int) = ((6122955 : Nat) : Int) from rfl, u32_xor_nat _ _ (by omega) (by omega)]
  have ht : s.testBit 23 = decide (s / 2 ^ 23 = 1) := by
    rw [Nat.testBit_eq_decide_div_mod_eq, Nat.mod_eq_of_lt (by omega)]
  have hc : (((s / 2 ^ 23 ^^^ b.toNat : Nat) : Int) == 1) = (s.testBit 23 != b) := by
    rw [ht]
    have : s / 2 ^ 23 = 0 ∨ s / 2 ^ 23 = 1 := by omega
    rcases this with h | h <;> rw [h] <;> cases b <;> rfl
  unfold crc1
  rw [← hc, ← hx]
  clear ht hc hx
  generalize 2 * s % 2 ^ 24 ^^^ 6122955 = x at *
  generalize 2 * s % 2 ^ 24 = m at *
  by_cases h : (bits .xor .u32 ((s : Int) / 8388608) (b.toNat : Int) == 1) = true
  · rw [if_pos h]
    go_enter Tryd.func91, Tryd.ntmps91
    go_wp2
    go_ret
    exact ⟨rfl, rfl⟩
  · rw [if_neg h]
    rw [Bool.not_eq_true] at h
    go_enter Tryd.func91, Tryd.ntmps91
    go_wp2
    go_ret
    exact ⟨rfl, rfl⟩

set_option maxHeartbeats 400000 in
theorem behindFour_any (s f : Nat) (w : World) (hs : s < 2 ^ 24) (hf : f < 16) (hT : Tab w) :
    Calls Tryd.prog 90 #[.int .u32 s, .int .u32 f] w fun e w' => e = .returned (.int .u32 (rem s (numBits f 4) : Nat)) ∧ w = w' := by
  have hx : bits .xor .u32 ((s : Int) / 1048576) (f : Int) = ((s / 2 ^ 20 ^^^ f : Nat) : Int) := by
    rw [show ((s : Int) / 1048576) = ((s / 2 ^ 20 : Nat) : Int) by omega, u32_xor_nat _ _ (by omega) (by omega)]
  have ha : bits .and .u32 ((s : Int) * 16) 16777215 = ((16 * s % 2 ^ 24 : Nat) : Int) := by
    rw [show ((s : Int) * 16) = ((16 * s : Nat) : Int) by omega, u32_mask _ (by omega)]
  obtain ⟨t, ht, htl, hr⟩ := four_at_once s f hs hf
  have hlt : s / 2 ^ 20 ^^^ f < 16 := Nat.xor_lt_two_pow (n := 4) (by omega) (by omega)
  have hcell := hT.2.2 _ hlt
  rw [ht] at hcell
  rw [hr]
  clear hr ht hT
  have hp : bits .xor .u32 ((16 * s % 2 ^ 24 : Nat) : Int) (t : Int) = (((16 * s % 2 ^ 24) ^^^ t : Nat) : Int) := u32_xor_nat _ _ (by omega) (by omega)
  generalize s / 2 ^ 20 ^^^ f = k at *
  have h0 : (0 : Int) ≤ (k : Int) := by omega
  have h1 : (k : Int) < 16 := by omega
  have h2 : ((k : Int)).toNat = k := by omega
  generalize ((16 * s % 2 ^ 24) ^^^ t) = res at *
  generalize 16 * s % 2 ^ 24 = m at *
  go_enter Tryd.func90, Tryd.ntmps90
  go_wp2
  go_ret
  exact ⟨rfl, rfl⟩
end Go.Proofs.YtcfbeelljhjnoaaDoor

namespace Go.Proofs.YtcfbeelljhjnoaaDoor
open Go.RowKit

theorem get_four {N : Int} {bs : List UInt8} (hg : goodB N bs = true) (k w : Nat) (hw : w ≤ 64) (h : ((k + w : Nat) : Int) ≤ N) : getS N bs (k : Nat) (w : Nat) = (0, numOf (((listOf N bs).drop k).take w)) := by
  unfold getS
  rw [if_pos hg, if_pos (by omega)]
  simp
theorem take_one (l : List Bool) (j : Nat) (h : j < l.length) : (l.drop j).take 1 = [l[j]?.getD false] := by
  rw [List.drop_eq_getElem_cons h, List.getElem?_eq_getElem h]; rfl
theorem rem_more (r : Nat) (l : List Bool) (k w : Nat) : rem r (l.take (k + w)) = rem (rem r (l.take k)) ((l.drop k).take w) := by
  unfold rem
  rw [← crcOver_append, List.take_add]

set_option maxHeartbeats 1000000 in
theorem behind_any (s : Nat) (N : Int) (A : Option Addr) (n c : Nat) (bs : List UInt8) (w : World) (hs : s < 2 ^ 24) (hgood : goodB N bs = true) (hn : n = bs.length) (hm : n ≤ maxLen) (hA : Byt w.heap.size w A bs) (hT : Tab w) :
    Calls Tryd.prog 83 #[.int .u32 s, .agg #[.int .i64 N, .slice A n c]] w fun e w' => e = .returned (.int .u32 (rem s (listOf N bs) : Nat)) ∧ Below w.heap.size w w' := by
  obtain ⟨hg0, hg1, hg2, hg3⟩ := (good_iff N bs).1 hgood
  clear hg3 hg2
  obtain ⟨M, rfl⟩ := Int.eq_ofNat_of_zero_le hg0
  have hget := fun (w1 : World) (h : Below w.heap.size w w1) (k v : Nat) (hv : v ≤ 64) (hk : k + v ≤ M) => by
    have := get_any (M : Int) (k : Nat) (v : Nat) A n c bs w1 hn hm ((hA.below h).mono h.size)
    rw [get_four hgood k v hv (by omega)] at this
    exact this
  have hll : (listOf (M : Int) bs).length = M := by rw [listOf_length]; omega
  generalize listOf (M : Int) bs = l at *
  have HG := Lib.hid hget; have HT := Lib.hid hT; have HLL := Lib.hid hll
  clear hget hA hT hn hll hgood
  go_enter Tryd.func83, Tryd.ntmps83
  go_wp2
  have k1 : Blk (w.alloc (.cells #[.int .i64 M, .slice A n c] 28)) w.heap.size 28 #[.int .i64 M, .slice A n c] := Blk.new w _ _
  have b1 : Below w.heap.size w (w.alloc (.cells #[.int .i64 M, .slice A n c] 28)) := (Below.refl _ _).alloc (Nat.le_refl _) _
  go_loopw [0, 6] (fun sv i wr => ∃ k : Nat, k % 4 = 0 ∧ k ≤ M ∧ i = .int .i64 (k : Nat) ∧ sv = .int .u32 (rem s (l.take k) : Nat) ∧ Blk wr w.heap.size 28 #[.int .i64 M, .slice A n c] ∧ Below w.heap.size w wr)
    (fun _ i _ => M - (intOf i).toNat)
  case atStart => exact ⟨0, rfl, by omega, rfl, by simp [crcOver_nil], k1, b1⟩
  case round =>
    obtain ⟨k, hk4, hk, rfl, rfl, q1, hBr⟩ := hrel
    obtain ⟨c1, c2, f1, f2⟩ := q1.two
    have hx := rem_lt (l.take k) s hs
    clear k1 b1
    by_cases hlt : k + 4 ≤ M
    · have hd : decide (((k : Nat) : Int) < (M : Int) - (M : Int) % 4) = true := by simp; omega
      have hg := HG.out wr hBr k 4 (by omega) hlt
      have hmore := rem_more s l k 4
      have hf : numOf ((l.drop k).take 4) < 16 := by
        have h1 := numOf_lt ((l.drop k).take 4)
        have h2 : ((l.drop k).take 4).length = 4 := by have := HLL.out; simp; omega
        rw [h2] at h1; omega
      have hnb : numBits (numOf ((l.drop k).take 4)) 4 = (l.drop k).take 4 := by
        have h1 := numBits_numOf ((l.drop k).take 4)
        have h2 : ((l.drop k).take 4).length = 4 := by have := HLL.out; simp; omega
        rw [h2] at h1; exact h1
      rw [← hnb] at hmore
      clear hnb
      generalize rem s (l.take k) = x at *
      generalize numOf ((l.drop k).take 4) = f at *
      have hfour := fun (w1 : World) (h : Below wr.heap.size wr w1) => behindFour_any x f w1 hx hf ((HT.out.below hBr (.inl (Nat.le_refl _))).below h (.inl (Nat.le_refl _)))
      have HF := Lib.hid hfour; have HM := Lib.hid hmore; have HGG := Lib.hid hg
      clear hfour hmore hg
      go_wp2_with (first
        | (go_at_call 74; refine HGG.out.mono ?_; rintro e w3 ⟨rfl, hb3⟩; dsimp only)
        | (go_at_call 90; refine (HF.out _ hb3).mono ?_; rintro e w4 ⟨rfl, rfl⟩))
      go_roundw
      case rel => exact ⟨k + 4, by omega, by omega, by go_num, by rw [HM.out], q1.below hb3 q1.lt, hBr.trans (hb3.mono hBr.size)⟩
      case measure => simp [intOf]; omega
    · have hd : decide (((k : Nat) : Int) < (M : Int) - (M : Int) % 4) = false := by simp; omega
      go_wp2
      go_loopw [0, 9] (fun sv i wr => ∃ j : Nat, j ≤ M ∧ i = .int .i64 (j : Nat) ∧ sv = .int .u32 (rem s (l.take j) : Nat) ∧ Blk wr w.heap.size 28 #[.int .i64 M, .slice A n c] ∧ Below w.heap.size w wr)
        (fun _ i _ => M - (intOf i).toNat)
      case atStart => exact ⟨k, by omega, by congr 1; omega, rfl, q1, hBr⟩
      case round =>
        clear c1 c2 f1 f2 q1 hBr hx hd
        obtain ⟨j, hj, rfl, rfl, q1, hBr⟩ := hrel
        obtain ⟨c1, c2, f1, f2⟩ := q1.two
        have hx := rem_lt (l.take j) s hs
        by_cases hlt : j < M
        · have hg := HG.out wr hBr j 1 (by omega) hlt
          have hmore := rem_more s l j 1
          have h2 := take_one l j (by have := HLL.out; omega)
          rw [h2] at hg hmore
          generalize l[j]?.getD false = b at *
          have h3 : numOf [b] = b.toNat := by cases b <;> rfl
          have h4 : rem (rem s (l.take j)) [b] = crc1 6122955 (rem s (l.take j)) b := rfl
          rw [h3] at hg
          rw [h4] at hmore
          clear h2 h3 h4
          generalize rem s (l.take j) = x at *
          have hfour := fun (w1 : World) => behindBit_any x b w1 hx
          have hbn := bool_nat b
          have HF := Lib.hid hfour; have HM := Lib.hid hmore; have HGG := Lib.hid hg
          clear hfour hmore hg
          generalize b.toNat = bn at *
          generalize crc1 6122955 x b = y at *
          go_wp2_with (first
            | (go_at_call 74; refine HGG.out.mono ?_; rintro e w3 ⟨rfl, hb3⟩; dsimp only)
            | (go_at_call 91; refine (HF.out _).mono ?_; rintro e w4 ⟨rfl, rfl⟩))
          go_roundw
          case rel => exact ⟨j + 1, by omega, by go_num, by rw [HM.out], q1.below hb3 q1.lt, hBr.trans (hb3.mono hBr.size)⟩
          case measure => simp [intOf]; omega
        · have hfin : l.take j = l := List.take_of_length_le (by have := HLL.out; omega)
          rw [hfin] at *
          go_wp2
          go_ret
          exact ⟨rfl, hBr⟩
end Go.Proofs.YtcfbeelljhjnoaaDoor

namespace Go.Proofs.YtcfbeelljhjnoaaDoor
open Go.RowKit

/-- Sum, by the document. -/
def sumS (xs : List BV) : Int × Nat := if allGood xs = true then (0, rem 0 (cat xs)) else (10, 0)
/-- What it answers. -/
def Sm (w : World) (r : Int × Nat) (e : Ending) (w' : World) : Prop := e = .returned (.tuple #[.int .u32 r.2, .int .i64 r.1]) ∧ Below w.heap.size w w'
theorem sumS_lt (xs : List BV) : (sumS xs).2 < 2 ^ 24 := by
  unfold sumS
  split
  · exact rem_lt _ _ (by decide)
  · simp
theorem good_at {xs : List BV} (h : allGood xs = true) {k : Nat} {x : BV} (hx : xs[k]? = some x) : goodB x.N x.bs = true := by
  unfold allGood at h; rw [List.all_eq_true] at h; exact h x (List.mem_of_getElem? hx)
theorem lst_good {N : Int} {bs : List UInt8} (h : goodB N bs = true) : lst N bs = listOf N bs := by simp [lst, h]

set_option maxHeartbeats 1000000 in
theorem sum_any (X : Option Addr) (xn xc : Nat) (xs : List BV) (w : World) (hxn : xn = xs.length) (hxm : xn ≤ maxLen) (hX : BVs w.heap.size w X xs) (hok : ∀ x ∈ xs, BVok w.heap.size w x) (hT : Tab w) :
    Calls Tryd.prog 60 #[.slice X xn xc] w (Sm w (sumS xs)) := by
  unfold maxLen at hxm
  have HXN := Lib.hid hxn; have HX := Lib.hid hX; have HOK := Lib.hid hok; have HT := Lib.hid hT; clear hxn hX hok hT
  obtain ⟨R, hR⟩ : ∃ R, R = sumS xs := ⟨_, rfl⟩
  rw [← hR]
  have HR := Lib.hid hR; clear hR
  go_enter Tryd.func60, Tryd.ntmps60
  go_wp2
  go_loopw [11] (fun i wr => ∃ k : Nat, k ≤ xn ∧ i = .int .i64 k ∧ allGood (xs.take k) = true ∧ Below w.heap.size w wr)
    (fun i _ => xn - (intOf i).toNat)
  case atStart => exact ⟨0, by omega, rfl, rfl, Below.refl _ _⟩
  case round =>
    obtain ⟨k, hk, rfl, hall, hBr⟩ := hrel
    have HALL := Lib.hid hall; clear hall
    by_cases hlt : k < xn
    · obtain ⟨x, hx⟩ : ∃ x, xs[k]? = some x := ⟨_, List.getElem?_eq_getElem (by have := HXN.out; omega)⟩
      obtain ⟨b, off, rfl, hbl, hc0, hc1⟩ := HX.out.at_ hBr hx
      have hgs := good_snoc (xs.take k) x
      rw [← take_snoc_bv xs k x hx] at hgs
      have hgn := good_not xs k x hx
      have hxo := HOK.out x (List.mem_of_getElem? hx)
      have hBa := fun o => hBr.alloc hBr.size o
      have hck := fun (o : Obj) => check_any x.N x.A x.n x.c x.bs (wr.alloc o) hxo.1 hxo.2.1 ((hxo.2.2.below (hBa o)).mono (hBa o).size)
      by_cases hgx : goodB x.N x.bs = true
      · rw [chk_yes hgx] at hck
        rw [hgx, HALL.out] at hgs
        have HCK := Lib.hid hck; have HGS := Lib.hid hgs
        clear hck hgs hgn hgx hx hxo hBa
        go_wp2_with (go_at_call 43; refine (HCK.out _).mono ?_; rintro e w2 ⟨rfl, hB2⟩)
        go_roundw
        case rel => exact ⟨k + 1, by omega, by go_num, HGS.out, (hBr.alloc hBr.size _).trans (hB2.mono (by have := hBr.size; simp; omega))⟩
        case measure => simp [intOf]; omega
      · rw [chk_no (by simpa using hgx)] at hck
        have hr := hgn (by simpa using hgx)
        have HCK := Lib.hid hck; have HG := Lib.hid hr
        clear hck hgs hgn hgx hx hr hxo hBa
        go_wp2_with (go_at_call 43; refine (HCK.out _).mono ?_; rintro e w2 ⟨rfl, hB2⟩)
        go_ret2
        rw [HR.out, show sumS xs = (10, 0) by unfold sumS; rw [HG.out]; rfl]
        exact ⟨rfl, (hBr.alloc hBr.size _).trans (hB2.mono (by have := hBr.size; simp; omega))⟩
    · have hgood := HALL.out
      rw [List.take_of_length_le (by have := HXN.out; omega)] at hgood
      have HGD := Lib.hid hgood; clear hgood
      go_wp2
      go_loopw [6, 21] (fun sv i wr2 => ∃ k : Nat, k ≤ xn ∧ i = .int .i64 k ∧ sv = .int .u32 (rem 0 (cat (xs.take k)) : Nat) ∧ Below w.heap.size w wr2)
        (fun _ i _ => xn - (intOf i).toNat)
      case atStart => exact ⟨0, by omega, rfl, rfl, hBr⟩
      case round =>
        clear hBr HALL hlt hk
        obtain ⟨k2, hk, rfl, rfl, hBr⟩ := hrel
        by_cases hlt : k2 < xn
        · obtain ⟨x, hx⟩ : ∃ x, xs[k2]? = some x := ⟨_, List.getElem?_eq_getElem (by have := HXN.out; omega)⟩
          obtain ⟨b, off, rfl, hbl, hc0, hc1⟩ := HX.out.at_ hBr hx
          have hgx := good_at HGD.out hx
          have hcs := cat_snoc (xs.take k2) x
          rw [← take_snoc_bv xs k2 x hx, lst_good hgx] at hcs
          have hxo := HOK.out x (List.mem_of_getElem? hx)
          have hBa := fun o => hBr.alloc hBr.size o
          have hrl := rem_lt (cat (xs.take k2)) 0 (by decide)
          have hmo : rem 0 (cat (xs.take (k2 + 1))) = rem (rem 0 (cat (xs.take k2))) (listOf x.N x.bs) := by rw [hcs]; exact crcOver_append _ _ _ _
          generalize rem 0 (cat (xs.take k2)) = s at *
          have hbe := fun (o : Obj) => behind_any s x.N x.A x.n x.c x.bs (wr.alloc o) hrl hgx hxo.1 hxo.2.1 ((hxo.2.2.below (hBa o)).mono (hBa o).size) (HT.out.below (hBa o) (.inl (Nat.le_refl _)))
          have HBE := Lib.hid hbe; have HMO := Lib.hid hmo
          clear hbe hmo hgx hcs hx hxo hBa
          generalize rem s (listOf x.N x.bs) = y at *
          go_wp2_with (go_at_call 83; refine (HBE.out _).mono ?_; rintro e w2 ⟨rfl, hB2⟩)
          go_roundw
          case rel => exact ⟨k2 + 1, by omega, by go_num, by rw [HMO.out], (hBr.alloc hBr.size _).trans (hB2.mono (by have := hBr.size; simp; omega))⟩
          case measure => simp [intOf]; omega
        · have htk : xs.take k2 = xs := List.take_of_length_le (by have := HXN.out; omega)
          rw [htk]
          go_wp2
          go_ret2
          rw [HR.out, show sumS xs = (0, rem 0 (cat xs)) by unfold sumS; rw [HGD.out]; rfl]
          exact ⟨rfl, hBr⟩
end Go.Proofs.YtcfbeelljhjnoaaDoor

namespace Go.Proofs.YtcfbeelljhjnoaaDoor
open Go.RowKit

theorem take_snoc_b (l : List Bool) (k : Nat) (h : k < l.length) : l.take (k + 1) = l.take k ++ [l[k]?.getD false] := by
  rw [List.take_add_one, List.getElem?_eq_getElem h]; rfl

theorem top_bit (x : Nat) (b : Bool) : (!(((x : Int) / 8388608 % 2 == 1) == b)) = (x.testBit 23 != b) := by
  have : (((x : Int) / 8388608) % 2 == 1) = x.testBit 23 := by
    rw [Nat.testBit_eq_decide_div_mod_eq, show ((x : Int) / 8388608 % 2) = ((x / 2 ^ 23 % 2 : Nat) : Int) by omega]
    generalize x / 2 ^ 23 % 2 = y
    rw [Bool.eq_iff_iff]; simp; omega
  rw [this]; rfl
theorem crc1_yes {x : Nat} {b : Bool} (h : (!(((x : Int) / 8388608 % 2 == 1) == b)) = true) : bits .xor .u32 ((x : Int) * 2 % 16777216) 6122955 = ((crc1 6122955 x b : Nat) : Int) := by
  rw [top_bit] at h
  unfold crc1
  rw [if_pos h, show ((x : Int) * 2 % 16777216) = ((2 * x % 2 ^ 24 : Nat) : Int) by omega, show (6122955 : Int) = ((6122955 : Nat) : Int) from rfl, u32_xor_nat _ _ (by omega) (by omega)]
theorem crc1_no {x : Nat} {b : Bool} (h : (!(((x : Int) / 8388608 % 2 == 1) == b)) = false) : ((x : Int) * 2 % 16777216) = ((crc1 6122955 x b : Nat) : Int) := by
  rw [top_bit] at h
  unfold crc1
  rw [if_neg (by simp [h])]
  omega

set_option maxHeartbeats 1000000 in
theorem over_any (r : Nat) (A : Option Addr) (n c : Nat) (l : List Bool) (w : World) (hr : r < 2 ^ 24) (hn : n = l.length) (hm : n ≤ maxLen) (hA : Bools w.heap.size w A l) :
    Calls Tryd.prog 87 #[.int .u32 r, .slice A n c] w fun e w' => e = .returned (.int .u32 (rem r l : Nat)) ∧ w = w' := by
  unfold maxLen at hm
  have HN := Lib.hid hn; have HA := Lib.hid hA; clear hn hA
  go_enter Tryd.func87, Tryd.ntmps87
  go_wp2
  go_loopw [0, 5] (fun sv i wr => ∃ k : Nat, k ≤ n ∧ i = .int .i64 k ∧ sv = .int .u32 (rem r (l.take k) : Nat) ∧ wr = w)
    (fun _ i _ => n - (intOf i).toNat)
  case atStart => exact ⟨0, by omega, rfl, by simp [crcOver_nil], rfl⟩
  case round =>
    obtain ⟨k, hk, rfl, rfl, rfl⟩ := hrel
    by_cases hlt : k < n
    · obtain ⟨b, off, rfl, hbl, hcell⟩ := HA.out.at_ (k := k) (by have := HN.out; omega)
      have hx := rem_lt (l.take k) r hr
      have hmore : rem r (l.take (k + 1)) = crc1 6122955 (rem r (l.take k)) (l[k]?.getD false) := by
        rw [take_snoc_b l k (by have := HN.out; omega)]; exact crcOver_append _ _ _ _
      generalize l[k]?.getD false = bk at *
      generalize rem r (l.take k) = x at *
      have HM := Lib.hid hmore; clear hmore
      go_wp2
      · rename_i h
        refine ⟨⟨k + 1, by omega, by go_num, by rw [HM.out, crc1_yes h], trivial⟩, by simp [intOf]; omega⟩
      · rename_i h
        refine ⟨⟨k + 1, by omega, by go_num, by rw [HM.out, crc1_no h], trivial⟩, by simp [intOf]; omega⟩
    · have hfin : l.take k = l := List.take_of_length_le (by have := HN.out; omega)
      rw [hfin]
      go_wp2
      go_ret
      exact ⟨rfl, rfl⟩

set_option maxHeartbeats 1000000 in
theorem rsum_any (X : Option Addr) (xn xc : Nat) (xs : List BV) (w : World) (hxn : xn = xs.length) (hxm : xn ≤ maxLen) (hX : BVs w.heap.size w X xs) (hok : ∀ x ∈ xs, BVok w.heap.size w x) :
    Calls Tryd.prog 66 #[.slice X xn xc] w (Sm w (sumS xs)) := by
  unfold maxLen at hxm
  have HXN := Lib.hid hxn; have HX := Lib.hid hX; have HOK := Lib.hid hok; clear hxn hX hok
  obtain ⟨R, hR⟩ : ∃ R, R = sumS xs := ⟨_, rfl⟩
  rw [← hR]
  have HR := Lib.hid hR; clear hR
  go_enter Tryd.func66, Tryd.ntmps66
  go_wp2
  go_loopw [4, 5] (fun sv i wr => ∃ k : Nat, k ≤ xn ∧ i = .int .i64 k ∧ sv = .int .u32 (rem 0 (cat (xs.take k)) : Nat) ∧ allGood (xs.take k) = true ∧ Below w.heap.size w wr)
    (fun _ i _ => xn - (intOf i).toNat)
  case atStart => exact ⟨0, by omega, rfl, rfl, rfl, Below.refl _ _⟩
  case round =>
    obtain ⟨k, hk, rfl, rfl, hall, hBr⟩ := hrel
    have HALL := Lib.hid hall; clear hall
    by_cases hlt : k < xn
    · obtain ⟨x, hx⟩ : ∃ x, xs[k]? = some x := ⟨_, List.getElem?_eq_getElem (by have := HXN.out; omega)⟩
      obtain ⟨b, off, rfl, hbl, hc0, hc1⟩ := HX.out.at_ hBr hx
      have hgs := good_snoc (xs.take k) x
      rw [← take_snoc_bv xs k x hx] at hgs
      have hgn := good_not xs k x hx
      have hxo := HOK.out x (List.mem_of_getElem? hx)
      have hck := rcheck_any x.N x.A x.n x.c x.bs wr hxo.1 hxo.2.1 ((hxo.2.2.below hBr).mono hBr.size)
      by_cases hgx : goodB x.N x.bs = true
      · rw [chk_yes hgx] at hck
        rw [hgx, HALL.out] at hgs
        have hcs := cat_snoc (xs.take k) x
        rw [← take_snoc_bv xs k x hx] at hcs
        have hli := fun (w1 : World) (h : Below wr.heap.size wr w1) => list_any x.N x.A x.n x.c x.bs w1 hxo.1 hxo.2.1 (((hxo.2.2.below hBr).below (h.mono hBr.size)).mono (Nat.le_trans hBr.size h.size))
        have hll := lst_length x.N x.bs
        have hrl := rem_lt (cat (xs.take k)) 0 (by decide)
        have hmo : rem 0 (cat (xs.take (k + 1))) = rem (rem 0 (cat (xs.take k))) (lst x.N x.bs) := by rw [hcs]; exact crcOver_append _ _ _ _
        generalize rem 0 (cat (xs.take k)) = s at *
        generalize lst x.N x.bs = lx at *
        have hcx := (hBr.cell (p := ⟨b, off + k * 2, none⟩) hbl)
        have HCK := Lib.hid hck; have HGS := Lib.hid hgs; have HLI := Lib.hid hli; have HMO := Lib.hid hmo
        clear hck hgs hgn hgx hxo hcs hli hmo hcx
        go_wp2_with (first
          | (go_at_call 49; refine HCK.out.mono ?_; rintro e w2 ⟨rfl, hB2⟩; obtain ⟨_, _, hbo, _, hc2, hc3⟩ := HX.out.at_ (hBr.trans (hB2.mono hBr.size)) hx; injection hbo with hbo; injection hbo with hb1 hb2; subst hb1; subst hb2; have hbl2 := Nat.lt_of_lt_of_le hbl (hBr.trans (hB2.mono hBr.size)).size)
          | (go_at_call 67; refine (HLI.out _ hB2).mono ?_; rintro e w3 ⟨lv, rfl, hown, hB3⟩; obtain ⟨VA, vc, rfl, hVA⟩ := bools_of_own hown)
          | (go_at_call 87; refine (over_any s VA lx.length vc lx w3 hrl rfl (by unfold maxLen; omega) hVA).mono ?_; rintro e w4 ⟨rfl, rfl⟩))
        go_roundw
        case rel => exact ⟨k + 1, by omega, by go_num, by rw [HMO.out], HGS.out, (hBr.trans (hB2.mono hBr.size)).trans (hB3.mono (Nat.le_trans hBr.size hB2.size))⟩
        case measure => simp [intOf]; omega
      · rw [chk_no (by simpa using hgx)] at hck
        have hr := hgn (by simpa using hgx)
        have HCK := Lib.hid hck; have HG := Lib.hid hr
        clear hck hgs hgn hgx hx hr hxo
        go_wp2_with (go_at_call 49; refine HCK.out.mono ?_; rintro e w2 ⟨rfl, hB2⟩)
        go_ret2
        rw [HR.out, show sumS xs = (10, 0) by unfold sumS; rw [HG.out]; rfl]
        exact ⟨rfl, hBr.trans (hB2.mono hBr.size)⟩
    · have hgood := HALL.out
      have htk : xs.take k = xs := List.take_of_length_le (by have := HXN.out; omega)
      rw [htk] at hgood ⊢
      have HGD := Lib.hid hgood; clear hgood
      go_wp2
      go_ret2
      rw [HR.out, show sumS xs = (0, rem 0 (cat xs)) by unfold sumS; rw [HGD.out]; rfl]
      exact ⟨rfl, hBr⟩
end Go.Proofs.YtcfbeelljhjnoaaDoor

namespace Go.Proofs.YtcfbeelljhjnoaaDoor
open Go.RowKit

theorem pair_bvs {w : World} {g : Nat} {x y : BV} (h : Blk w g 28 #[.int .i64 x.N, .slice x.A x.n x.c, .int .i64 y.N, .slice y.A y.n y.c]) : BVs w.heap.size w (some ⟨g, 0, none⟩) [x, y] := fun _ =>
  ⟨g, 0, rfl, h.lt, fun j z hj => by
    match j, hj with
    | 0, hj => simp at hj; subst hj; exact ⟨h.cell 0, h.cell 1⟩
    | 1, hj => simp at hj; subst hj; exact ⟨h.cell 2, h.cell 3⟩
    | j + 2, hj => simp at hj⟩
theorem pair_sum (x y : BV) : sumS [x, y] = if goodB x.N x.bs = true ∧ goodB y.N y.bs = true then (0, rem 0 (listOf x.N x.bs ++ listOf y.N y.bs)) else (10, 0) := by
  unfold sumS allGood cat
  by_cases h1 : goodB x.N x.bs = true <;> by_cases h2 : goodB y.N y.bs = true <;> simp [h1, h2, lst]
/-- Seal, by the document. -/
def sealS (N : Int) (bs : List UInt8) (M : Int) (us : List UInt8) : Int × List Bool :=
  if goodB M us = true ∧ goodB N bs = true then putS N bs (rem 0 (listOf M us ++ listOf N bs)) 24 else (10, [])
/-- Three boxes laid by a call, behind a callee that keeps all that was there. -/
theorem boxes3 {w w1 : World} {a0 a1 b0 b1 c0 c1 : Value} (hB : Below (((w.alloc (.cells #[a0, a1] 28)).alloc (.cells #[b0, b1] 28)).alloc (.cells #[c0, c1] 28)).heap.size (((w.alloc (.cells #[a0, a1] 28)).alloc (.cells #[b0, b1] 28)).alloc (.cells #[c0, c1] 28)) w1) :
    Blk w1 w.heap.size 28 #[a0, a1] ∧ Blk w1 (w.heap.size + 1) 28 #[b0, b1] ∧ Blk w1 (w.heap.size + 1 + 1) 28 #[c0, c1] ∧ w.heap.size + 3 ≤ w1.heap.size ∧ Below w.heap.size w w1 := by
  have h1 : Blk (((w.alloc (.cells #[a0, a1] 28)).alloc (.cells #[b0, b1] 28)).alloc (.cells #[c0, c1] 28)) w.heap.size 28 #[a0, a1] := ((Blk.new w 28 _).alloc _).alloc _
  have h2 : Blk (((w.alloc (.cells #[a0, a1] 28)).alloc (.cells #[b0, b1] 28)).alloc (.cells #[c0, c1] 28)) (w.heap.size + 1) 28 #[b0, b1] := by
    refine Blk.alloc ?_ _
    simpa using Blk.new (w.alloc (.cells #[a0, a1] 28)) 28 #[b0, b1]
  have h3 : Blk (((w.alloc (.cells #[a0, a1] 28)).alloc (.cells #[b0, b1] 28)).alloc (.cells #[c0, c1] 28)) (w.heap.size + 1 + 1) 28 #[c0, c1] := by
    simpa using Blk.new ((w.alloc (.cells #[a0, a1] 28)).alloc (.cells #[b0, b1] 28)) 28 #[c0, c1]
  exact ⟨h1.below hB h1.lt, h2.below hB h2.lt, h3.below hB h3.lt, by have := hB.size; simpa using this, ((((Below.refl _ _).alloc (Nat.le_refl _) _).alloc (by simp) _).alloc (by simp; omega) _).trans (hB.mono (by simp; omega))⟩

/-- What a callee answered, stored in the box of the result. -/
theorem res_stored {w w1 w2 : World} {R : Int × List Bool} {A : Option Addr} {n c g : Nat} {bs : List UInt8} (hn : n = bs.length) (his : IsBits R.2 bs) (hl : R.2.length ≤ 4096) (hA : Byt w2.heap.size w2 A bs) (hB1 : Below w.heap.size w w1) (hB2 : Below w1.heap.size w1 w2) (hF : Fresh w1.heap.size A bs) (hg : w.heap.size ≤ g) (hg1 : g < w1.heap.size) :
    Res w R (.returned (.tuple #[.agg #[.int .i64 (R.2.length : Nat), .slice A n c], .int .i64 R.1])) ((w2.setCell ⟨g, 0, none⟩ (.int .i64 (R.2.length : Nat))).setCell ⟨g, 1, none⟩ (.slice A n c)) := by
  have hBw := hB1.trans (hB2.mono hB1.size)
  refine ⟨A, n, c, bs, rfl, hn, his, hl, ?_, (hBw.setCell (p := ⟨g, 0, none⟩) hg _).setCell (p := ⟨g, 1, none⟩) hg _, fun a ha hb => Nat.le_trans hB1.size (hF a ha hb)⟩
  have h2 := (hA.set_low hF (p := ⟨g, 0, none⟩) hg1 (.int .i64 (R.2.length : Nat))).set_low hF (p := ⟨g, 1, none⟩) hg1 (.slice A n c)
  simpa using h2

set_option maxHeartbeats 1000000 in
theorem seal_any (N : Int) (A : Option Addr) (n c : Nat) (bs : List UInt8) (M : Int) (B : Option Addr) (m d : Nat) (us : List UInt8) (w : World) (hn : n = bs.length) (hm : n ≤ maxLen) (hA : Byt w.heap.size w A bs) (hn' : m = us.length) (hm' : m ≤ maxLen) (hB : Byt w.heap.size w B us) (hT : Tab w) :
    Calls Tryd.prog 29 #[.agg #[.int .i64 N, .slice A n c], .agg #[.int .i64 M, .slice B m d]] w (Res w (sealS N bs M us)) := by
  have hsum := fun (w1 : World) (g : Nat) (h : Below w.heap.size w w1) (hb : Blk w1 g 28 #[.int .i64 M, .slice B m d, .int .i64 N, .slice A n c]) =>
    sum_any (some ⟨g, 0, none⟩) 2 2 [⟨M, B, m, d, us⟩, ⟨N, A, n, c, bs⟩] w1 rfl (by decide) (pair_bvs hb) (fun x hx => by
      simp at hx
      rcases hx with rfl | rfl
      · exact ⟨hn', hm', (hB.below h).mono h.size⟩
      · exact ⟨hn, hm, (hA.below h).mono h.size⟩) (hT.below h (.inl (Nat.le_refl _)))
  have hput := fun (w1 : World) (v : Nat) (h : Below w.heap.size w w1) (hv : v < 2 ^ 24) => put_any N 24 v A n c bs w1 hn hm ((hA.below h).mono h.size) (by omega)
  have hsl := sumS_lt [⟨M, B, m, d, us⟩, ⟨N, A, n, c, bs⟩]
  have hps := pair_sum ⟨M, B, m, d, us⟩ ⟨N, A, n, c, bs⟩
  dsimp only at hps
  have HS := Lib.hid hsum; have HP := Lib.hid hput; clear hsum hput hA hB hT hn hn'
  unfold maxLen at hm hm'
  generalize sumS [⟨M, B, m, d, us⟩, ⟨N, A, n, c, bs⟩] = S at *
  obtain ⟨S1, S2⟩ := S
  dsimp only at *
  unfold sealS
  by_cases hgood : goodB M us = true ∧ goodB N bs = true
  · rw [if_pos hgood] at hps ⊢
    injection hps with e1 e2
    rw [← e2]
    subst e1
    clear e2
    go_enter Tryd.func29, Tryd.ntmps29
    go_wp2_with fail
    have b3 : Below w.heap.size w (((w.alloc (.cells #[.int .i64 N, .slice A n c] 28)).alloc (.cells #[.int .i64 M, .slice B m d] 28)).alloc (.cells #[.int .i64 0, .slice none 0 0] 28)) := (((Below.refl _ _).alloc (Nat.le_refl _) _).alloc (by simp) _).alloc (by simp; omega) _
    refine (HS.out _ _ (b3.alloc (by simp; omega) _) (by simpa using Blk.new (((w.alloc (.cells #[.int .i64 N, .slice A n c] 28)).alloc (.cells #[.int .i64 M, .slice B m d] 28)).alloc (.cells #[.int .i64 0, .slice none 0 0] 28)) 28 #[.int .i64 M, .slice B m d, .int .i64 N, .slice A n c])).mono ?_
    rintro e w1 ⟨rfl, hB1⟩
    dsimp only
    obtain ⟨k1, k2, k3, hs1, hBw1⟩ := boxes3 (((Below.refl _ _).alloc (Nat.le_refl _) _).trans (hB1.mono (by simp)))
    obtain ⟨c1, c2, f1, f2⟩ := k1.two
    obtain ⟨c3, c4, f3, f4⟩ := k3.two
    have hlt : w.heap.size + 1 + 1 < w1.heap.size := by omega
    clear b3
    have hpu := HP.out w1 S2 hBw1 hsl
    generalize putS N bs S2 24 = R at *
    have HPU := Lib.hid hpu; clear hpu
    go_wp2_with fail
    refine HPU.out.mono ?_
    rintro e w2 ⟨A3, n3, c5, bs3, rfl, hn3, his3, hl3, hA3, hB3, hF3⟩
    have HN3 := Lib.hid hn3; clear hn3
    have q3 := k3.below hB3 k3.lt
    obtain ⟨d1, d2, g1, g2⟩ := q3.two
    have hlt3 := q3.lt
    go_wp2
    exact bodyPost_ret (v := .tuple #[.agg #[.int .i64 R.2.length, .slice A3 n3 c5], .int .i64 R.1]) (by simp [results, Tryd.results29, go_sem, d1, d2]) rfl
      (res_stored HN3.out his3 hl3 hA3 hBw1 hB3 hF3 (by omega) (by omega))
  · rw [if_neg hgood] at hps ⊢
    injection hps with e1 e2
    subst e1; subst e2
    clear hgood
    go_enter Tryd.func29, Tryd.ntmps29
    go_wp2_with fail
    have b3 : Below w.heap.size w (((w.alloc (.cells #[.int .i64 N, .slice A n c] 28)).alloc (.cells #[.int .i64 M, .slice B m d] 28)).alloc (.cells #[.int .i64 0, .slice none 0 0] 28)) := (((Below.refl _ _).alloc (Nat.le_refl _) _).alloc (by simp) _).alloc (by simp; omega) _
    refine (HS.out _ _ (b3.alloc (by simp; omega) _) (by simpa using Blk.new (((w.alloc (.cells #[.int .i64 N, .slice A n c] 28)).alloc (.cells #[.int .i64 M, .slice B m d] 28)).alloc (.cells #[.int .i64 0, .slice none 0 0] 28)) 28 #[.int .i64 M, .slice B m d, .int .i64 N, .slice A n c])).mono ?_
    rintro e w1 ⟨rfl, hB1⟩
    dsimp only
    obtain ⟨k1, k2, k3, hs1, hBw1⟩ := boxes3 (((Below.refl _ _).alloc (Nat.le_refl _) _).trans (hB1.mono (by simp)))
    obtain ⟨c3, c4, f3, f4⟩ := k3.two
    have hlt : w.heap.size + 1 + 1 < w1.heap.size := by omega
    clear b3
    go_wp2
    exact bodyPost_ret (v := .tuple #[.agg #[.int .i64 0, .slice none 0 0], .int .i64 10]) (by simp [results, Tryd.results29, go_sem, c3, c4]) rfl
      (res_err 10 ((hBw1.setCell (p := ⟨w.heap.size + 1 + 1, 0, none⟩) (by simp; omega) _).setCell (p := ⟨w.heap.size + 1 + 1, 1, none⟩) (by simp; omega) _))

set_option maxHeartbeats 1000000 in
theorem rseal_any (N : Int) (A : Option Addr) (n c : Nat) (bs : List UInt8) (M : Int) (B : Option Addr) (m d : Nat) (us : List UInt8) (w : World) (hn : n = bs.length) (hm : n ≤ maxLen) (hA : Byt w.heap.size w A bs) (hn' : m = us.length) (hm' : m ≤ maxLen) (hB : Byt w.heap.size w B us) :
    Calls Tryd.prog 34 #[.agg #[.int .i64 N, .slice A n c], .agg #[.int .i64 M, .slice B m d]] w (Res w (sealS N bs M us)) := by
  have hsum := fun (w1 : World) (g : Nat) (h : Below w.heap.size w w1) (hb : Blk w1 g 28 #[.int .i64 M, .slice B m d, .int .i64 N, .slice A n c]) =>
    rsum_any (some ⟨g, 0, none⟩) 2 2 [⟨M, B, m, d, us⟩, ⟨N, A, n, c, bs⟩] w1 rfl (by decide) (pair_bvs hb) (fun x hx => by
      simp at hx
      rcases hx with rfl | rfl
      · exact ⟨hn', hm', (hB.below h).mono h.size⟩
      · exact ⟨hn, hm, (hA.below h).mono h.size⟩)
  have hput := fun (w1 : World) (v : Nat) (h : Below w.heap.size w w1) (hv : v < 2 ^ 24) => rput_any N 24 v A n c bs w1 hn hm ((hA.below h).mono h.size) (by omega)
  have hsl := sumS_lt [⟨M, B, m, d, us⟩, ⟨N, A, n, c, bs⟩]
  have hps := pair_sum ⟨M, B, m, d, us⟩ ⟨N, A, n, c, bs⟩
  dsimp only at hps
  have HS := Lib.hid hsum; have HP := Lib.hid hput; clear hsum hput hA hB hn hn'
  unfold maxLen at hm hm'
  generalize sumS [⟨M, B, m, d, us⟩, ⟨N, A, n, c, bs⟩] = S at *
  obtain ⟨S1, S2⟩ := S
  dsimp only at *
  unfold sealS
  by_cases hgood : goodB M us = true ∧ goodB N bs = true
  · rw [if_pos hgood] at hps ⊢
    injection hps with e1 e2
    rw [← e2]
    subst e1
    clear e2
    go_enter Tryd.func34, Tryd.ntmps34
    go_wp2_with fail
    have b3 : Below w.heap.size w (((w.alloc (.cells #[.int .i64 N, .slice A n c] 28)).alloc (.cells #[.int .i64 M, .slice B m d] 28)).alloc (.cells #[.int .i64 0, .slice none 0 0] 28)) := (((Below.refl _ _).alloc (Nat.le_refl _) _).alloc (by simp) _).alloc (by simp; omega) _
    refine (HS.out _ _ (b3.alloc (by simp; omega) _) (by simpa using Blk.new (((w.alloc (.cells #[.int .i64 N, .slice A n c] 28)).alloc (.cells #[.int .i64 M, .slice B m d] 28)).alloc (.cells #[.int .i64 0, .slice none 0 0] 28)) 28 #[.int .i64 M, .slice B m d, .int .i64 N, .slice A n c])).mono ?_
    rintro e w1 ⟨rfl, hB1⟩
    dsimp only
    obtain ⟨k1, k2, k3, hs1, hBw1⟩ := boxes3 (((Below.refl _ _).alloc (Nat.le_refl _) _).trans (hB1.mono (by simp)))
    obtain ⟨c1, c2, f1, f2⟩ := k1.two
    obtain ⟨c3, c4, f3, f4⟩ := k3.two
    have hlt : w.heap.size + 1 + 1 < w1.heap.size := by omega
    clear b3
    have hpu := HP.out w1 S2 hBw1 hsl
    generalize putS N bs S2 24 = R at *
    have HPU := Lib.hid hpu; clear hpu
    go_wp2_with fail
    refine HPU.out.mono ?_
    rintro e w2 ⟨A3, n3, c5, bs3, rfl, hn3, his3, hl3, hA3, hB3, hF3⟩
    have HN3 := Lib.hid hn3; clear hn3
    have q3 := k3.below hB3 k3.lt
    obtain ⟨d1, d2, g1, g2⟩ := q3.two
    have hlt3 := q3.lt
    go_wp2
    exact bodyPost_ret (v := .tuple #[.agg #[.int .i64 R.2.length, .slice A3 n3 c5], .int .i64 R.1]) (by simp [results, Tryd.results34, go_sem, d1, d2]) rfl
      (res_stored HN3.out his3 hl3 hA3 hBw1 hB3 hF3 (by omega) (by omega))
  · rw [if_neg hgood] at hps ⊢
    injection hps with e1 e2
    subst e1; subst e2
    clear hgood
    go_enter Tryd.func34, Tryd.ntmps34
    go_wp2_with fail
    have b3 : Below w.heap.size w (((w.alloc (.cells #[.int .i64 N, .slice A n c] 28)).alloc (.cells #[.int .i64 M, .slice B m d] 28)).alloc (.cells #[.int .i64 0, .slice none 0 0] 28)) := (((Below.refl _ _).alloc (Nat.le_refl _) _).alloc (by simp) _).alloc (by simp; omega) _
    refine (HS.out _ _ (b3.alloc (by simp; omega) _) (by simpa using Blk.new (((w.alloc (.cells #[.int .i64 N, .slice A n c] 28)).alloc (.cells #[.int .i64 M, .slice B m d] 28)).alloc (.cells #[.int .i64 0, .slice none 0 0] 28)) 28 #[.int .i64 M, .slice B m d, .int .i64 N, .slice A n c])).mono ?_
    rintro e w1 ⟨rfl, hB1⟩
    dsimp only
    obtain ⟨k1, k2, k3, hs1, hBw1⟩ := boxes3 (((Below.refl _ _).alloc (Nat.le_refl _) _).trans (hB1.mono (by simp)))
    obtain ⟨c3, c4, f3, f4⟩ := k3.two
    have hlt : w.heap.size + 1 + 1 < w1.heap.size := by omega
    clear b3
    go_wp2
    exact bodyPost_ret (v := .tuple #[.agg #[.int .i64 0, .slice none 0 0], .int .i64 10]) (by simp [results, Tryd.results34, go_sem, c3, c4]) rfl
      (res_err 10 ((hBw1.setCell (p := ⟨w.heap.size + 1 + 1, 0, none⟩) (by simp; omega) _).setCell (p := ⟨w.heap.size + 1 + 1, 1, none⟩) (by simp; omega) _))
end Go.Proofs.YtcfbeelljhjnoaaDoor

namespace Go.Proofs.YtcfbeelljhjnoaaDoor
open Go.RowKit

theorem one_bvs {w : World} {g : Nat} {x : BV} (h : Blk w g 28 #[.int .i64 x.N, .slice x.A x.n x.c]) : BVs w.heap.size w (some ⟨g, 0, none⟩) [x] := fun _ =>
  ⟨g, 0, rfl, h.lt, fun j z hj => by
    match j, hj with
    | 0, hj => simp at hj; subst hj; exact ⟨h.cell 0, h.cell 1⟩
    | j + 1, hj => simp at hj⟩
theorem one_sum (x : BV) (h : goodB x.N x.bs = true) : sumS [x] = (0, rem 0 (listOf x.N x.bs)) := by
  unfold sumS allGood cat
  simp [h, lst]
theorem begun_sum {bs : List UInt8} (h : IsBits [false, true] bs) (A : Option Addr) (n c : Nat) : sumS [⟨2, A, n, c, bs⟩] = (0, 6122955) := by
  have h1 := isBits_good h (by decide)
  have h2 := isBits_listOf h
  rw [one_sum _ h1]
  change (0, rem 0 (listOf ((2 : Nat) : Int) bs)) = _
  rw [show ((2 : Nat) : Int) = (([false, true] : List Bool).length : Nat) from rfl, h2]
  rfl

end Go.Proofs.YtcfbeelljhjnoaaDoor

namespace Go.Proofs.YtcfbeelljhjnoaaDoor
open Go.RowKit

end Go.Proofs.YtcfbeelljhjnoaaDoor

namespace Go.Proofs.YtcfbeelljhjnoaaDoor
open Go.RowKit

/-- What was sealed: all but the last 24. -/
def frontOf (l : List Bool) : List Bool := l.take (l.length - 24)
/-- The last 24. -/
def lastOf (l : List Bool) : List Bool := l.drop (l.length - 24)
/-- Open, by the document. -/
def openS (N : Int) (bs : List UInt8) (M : Int) (us : List UInt8) : Int × List Bool :=
  if goodB N bs = true ∧ goodB M us = true then
    if N < 24 then (20, [])
    else if numOf (lastOf (listOf N bs)) = rem 0 (listOf M us ++ frontOf (listOf N bs)) then (0, frontOf (listOf N bs)) else (21, [])
  else (10, [])
theorem slice_front {N : Int} {bs : List UInt8} (hg : goodB N bs = true) (h : ¬ N < 24) : sliceS N bs 0 (N - 24) = (0, frontOf (listOf N bs)) := by
  have h1 := good_length hg
  unfold sliceS frontOf
  rw [if_pos hg, if_pos (by omega)]
  simp
  congr 1
  omega
theorem get_last {N : Int} {bs : List UInt8} (hg : goodB N bs = true) (h : ¬ N < 24) : getS N bs (N - 24) 24 = (0, numOf (lastOf (listOf N bs))) := by
  have h1 := good_length hg
  unfold getS lastOf
  rw [if_pos hg, if_pos (by omega)]
  simp only [Prod.mk.injEq, true_and]
  congr 1
  rw [List.take_of_length_le (by simp; omega)]
  congr 1
  omega
theorem front_length {N : Int} {bs : List UInt8} (hg : goodB N bs = true) (h : ¬ N < 24) : ((frontOf (listOf N bs)).length : Int) = N - 24 := by
  have h1 := good_length hg
  unfold frontOf
  rw [List.length_take]
  omega
theorem last_lt (l : List Bool) : numOf (lastOf l) < 2 ^ 24 := by
  have h1 := numOf_lt (lastOf l)
  have h2 : (lastOf l).length ≤ 24 := by simp [lastOf]; omega
  exact Nat.lt_of_lt_of_le h1 (Nat.pow_le_pow_right (by omega) h2)
theorem front_le (l : List Bool) : (frontOf l).length ≤ l.length := by simp [frontOf]

set_option maxHeartbeats 2000000 in
theorem open_any (N : Int) (A : Option Addr) (n c : Nat) (bs : List UInt8) (M : Int) (B : Option Addr) (m d : Nat) (us : List UInt8) (w : World) (hn : n = bs.length) (hm : n ≤ maxLen) (hA : Byt w.heap.size w A bs) (hn' : m = us.length) (hm' : m ≤ maxLen) (hB : Byt w.heap.size w B us) (hT : Tab w) :
    Calls Tryd.prog 75 #[.agg #[.int .i64 N, .slice A n c], .agg #[.int .i64 M, .slice B m d]] w (Res w (openS N bs M us)) := by
  have hck1 := fun (w1 : World) (h : Below w.heap.size w w1) => check_any N A n c bs w1 hn hm ((hA.below h).mono h.size)
  have hck2 := fun (w1 : World) (h : Below w.heap.size w w1) => check_any M B m d us w1 hn' hm' ((hB.below h).mono h.size)
  have b3 : Below w.heap.size w (((w.alloc (.cells #[.int .i64 N, .slice A n c] 28)).alloc (.cells #[.int .i64 M, .slice B m d] 28)).alloc (.cells #[.int .i64 0, .slice none 0 0] 28)) := (((Below.refl _ _).alloc (Nat.le_refl _) _).alloc (by simp) _).alloc (by simp; omega) _
  have B3 := Lib.hid b3; clear b3
  unfold openS
  by_cases g1 : goodB N bs = true
  · rw [chk_yes g1] at hck1
    have HC1 := Lib.hid hck1; clear hck1
    by_cases g2 : goodB M us = true
    · rw [chk_yes g2] at hck2
      have HC2 := Lib.hid hck2; clear hck2
      rw [if_pos ⟨g1, g2⟩]
      have hg1 := (good_iff N bs).1 g1
      have hN0 := hg1.1; have hN1 := hg1.2.1; clear hg1
      by_cases h24 : N < 24
      · rw [if_pos h24]
        clear hA hB hT hn hn'
        have hd : decide (N < 24) = true := by simpa using h24
        unfold maxLen at hm hm'
        go_enter Tryd.func75, Tryd.ntmps75
        go_wp2_with fail
        refine (HC1.out _ B3.out).mono ?_
        rintro e w1 ⟨rfl, hB1⟩
        obtain ⟨k1, k2, k3, hs1, hBw1⟩ := boxes3 hB1
        obtain ⟨c1, c2, f1, f2⟩ := k2.two
        go_wp2_with fail
        refine (HC2.out _ hBw1).mono ?_
        rintro e w2 ⟨rfl, hB2⟩
        have hBw2 := hBw1.trans (hB2.mono hBw1.size)
        replace k1 := k1.below hB2 k1.lt; replace k2 := k2.below hB2 k2.lt; replace k3 := k3.below hB2 k3.lt
        clear c1 c2 f1 f2
        obtain ⟨c1, c2, f1, f2⟩ := k1.two
        obtain ⟨c3, c4, f3, f4⟩ := k3.two
        have hlt := k3.lt
        go_wp2
        exact bodyPost_ret (v := .tuple #[.agg #[.int .i64 0, .slice none 0 0], .int .i64 20]) (by simp [results, Tryd.results75, go_sem, c3, c4]) rfl
          (res_err 20 ((hBw2.setCell (p := ⟨w.heap.size + 1 + 1, 0, none⟩) (by simp; omega) _).setCell (p := ⟨w.heap.size + 1 + 1, 1, none⟩) (by simp; omega) _))
      · rw [if_neg h24]
        have hsl := fun (w1 : World) (h : Below w.heap.size w w1) => slice_any N 0 (N - 24) A n c bs w1 hn hm ((hA.below h).mono h.size)
        rw [slice_front g1 h24] at hsl
        have hgt := fun (w1 : World) (h : Below w.heap.size w w1) => get_any N (N - 24) 24 A n c bs w1 hn hm ((hA.below h).mono h.size)
        rw [get_last g1 h24] at hgt
        have hfl := front_length g1 h24
        have hll := last_lt (listOf N bs)
        generalize frontOf (listOf N bs) = fr at *
        generalize numOf (lastOf (listOf N bs)) = L at *
        have hsum := fun (w1 : World) (g : Nat) (A1 : Option Addr) (n1 c1 : Nat) (bs1 : List UInt8) (h : Below w.heap.size w w1) (h1 : n1 = bs1.length) (h2 : n1 ≤ maxLen) (h3 : IsBits fr bs1) (h4 : fr.length ≤ 4096) (h5 : Byt w1.heap.size w1 A1 bs1) (hb : Blk w1 g 28 #[.int .i64 M, .slice B m d, .int .i64 (fr.length : Nat), .slice A1 n1 c1]) => by
          have := sum_any (some ⟨g, 0, none⟩) 2 2 [⟨M, B, m, d, us⟩, ⟨(fr.length : Nat), A1, n1, c1, bs1⟩] w1 rfl (by decide) (pair_bvs hb) (fun x hx => by
            simp at hx
            rcases hx with rfl | rfl
            · exact ⟨hn', hm', (hB.below h).mono h.size⟩
            · exact ⟨h1, h2, h5⟩) (hT.below h (.inl (Nat.le_refl _)))
          rw [pair_sum, if_pos ⟨g2, isBits_good h3 h4⟩] at this
          dsimp only at this
          rw [isBits_listOf h3] at this
          exact this
        have hrl := rem_lt (listOf M us ++ fr) 0 (by decide)
        generalize rem 0 (listOf M us ++ fr) = S at *
        have HSL := Lib.hid hsl; have HGT := Lib.hid hgt; have HSM := Lib.hid hsum; have HFL := Lib.hid hfl
        clear hsl hgt hsum hfl hA hB hT hn hn'
        obtain ⟨R, hR⟩ : ∃ R, R = (if L = S then ((0 : Int), fr) else (21, [])) := ⟨_, rfl⟩
        rw [← hR]
        have HR := Lib.hid hR; clear hR
        have hd : decide (N < 24) = false := by simpa using h24
        unfold maxLen at hm hm'
        go_enter Tryd.func75, Tryd.ntmps75
        go_wp2_with fail
        refine (HC1.out _ B3.out).mono ?_
        rintro e w1 ⟨rfl, hB1⟩
        obtain ⟨k1, k2, k3, hs1, hBw1⟩ := boxes3 hB1
        obtain ⟨c1, c2, f1, f2⟩ := k2.two
        go_wp2_with fail
        refine (HC2.out _ hBw1).mono ?_
        rintro e w2 ⟨rfl, hB2⟩
        have hBw2 := hBw1.trans (hB2.mono hBw1.size)
        replace k1 := k1.below hB2 k1.lt; replace k2 := k2.below hB2 k2.lt; replace k3 := k3.below hB2 k3.lt
        clear c1 c2 f1 f2
        obtain ⟨c1, c2, f1, f2⟩ := k1.two
        have hlt2 := k3.lt
        go_wp2_with fail
        refine (HSL.out _ hBw2).mono ?_
        rintro e w3 ⟨A1, n1, c5, bs1, rfl, hn1, his1, hl1, hA1, hB3, hF1⟩
        dsimp only at *
        have HN1 := Lib.hid hn1; have HI1 := Lib.hid his1; clear hn1 his1
        have hBw3 := hBw2.trans (hB3.mono hBw2.size)
        replace k1 := k1.below hB3 k1.lt; replace k2 := k2.below hB3 k2.lt; replace k3 := k3.below hB3 k3.lt
        clear c1 c2 f1 f2 hB1 hB2
        have k4 := Blk.new w3 28 #[.int .i64 (fr.length : Nat), .slice A1 n1 c5]
        replace k1 := k1.alloc (.cells #[.int .i64 (fr.length : Nat), .slice A1 n1 c5] 28)
        replace k2 := k2.alloc (.cells #[.int .i64 (fr.length : Nat), .slice A1 n1 c5] 28)
        replace k3 := k3.alloc (.cells #[.int .i64 (fr.length : Nat), .slice A1 n1 c5] 28)
        obtain ⟨c1, c2, f1, f2⟩ := k1.two
        have hlt3 := k3.lt
        have y1 := (hA1.below ((Below.refl _ _).alloc (Nat.le_refl _) (.cells #[.int .i64 (fr.length : Nat), .slice A1 n1 c5] 28)))
        have hBw4 := hBw3.alloc hBw3.size (.cells #[.int .i64 (fr.length : Nat), .slice A1 n1 c5] 28)
        go_wp2_with fail
        refine (HGT.out _ hBw4).mono ?_
        rintro e w4 ⟨rfl, hB4⟩
        dsimp only
        have hBw5 := hBw4.trans (hB4.mono hBw4.size)
        replace k2 := k2.below hB4 k2.lt; replace k3 := k3.below hB4 k3.lt; replace k4 := k4.below hB4 k4.lt
        replace y1 := (y1.below (hB4.mono (by simp))).mono (Nat.le_trans (by simp) hB4.size)
        clear c1 c2 f1 f2 k1
        obtain ⟨c1, c2, f1, f2⟩ := k2.two
        obtain ⟨c3, c4, f3, f4⟩ := k4.two
        have hlt4 := k4.lt
        go_wp2_with fail
        refine (HSM.out _ _ A1 n1 c5 bs1 (hBw5.alloc hBw5.size _) HN1.out (by rw [HN1.out]; exact bytes_small HI1.out hl1) HI1.out hl1 (by
          have hq := (Below.refl w4.heap.size w4).alloc (Nat.le_refl _) (.cells #[.int .i64 M, .slice B m d, .int .i64 (fr.length : Nat), .slice A1 n1 c5] 28)
          exact (y1.below hq).mono hq.size) (Blk.new w4 28 _)).mono ?_
        rintro e w5 ⟨rfl, hB5⟩
        dsimp only
        have hal : Below w4.heap.size w4 (w4.alloc (.cells #[.int .i64 M, .slice B m d, .int .i64 (fr.length : Nat), .slice A1 n1 c5] 28)) := (Below.refl _ _).alloc (Nat.le_refl _) _
        have hB45 := hal.trans (hB5.mono hal.size)
        have hBw6 := hBw5.trans (hB45.mono hBw5.size)
        replace k3 := k3.below hB45 k3.lt; replace k4 := k4.below hB45 k4.lt
        replace y1 := (y1.below hB45).mono hB45.size
        clear c1 c2 f1 f2 c3 c4 f3 f4 hal
        obtain ⟨c1, c2, f1, f2⟩ := k3.two
        obtain ⟨c3, c4, f3, f4⟩ := k4.two
        have hlt5 := k3.lt
        by_cases hLS : L = S
        · have hRR := HR.out
          rw [if_pos hLS] at hRR
          have HRR := Lib.hid hRR
          clear hRR HR
          subst hLS
          go_wp2
          rw [HRR.out]
          have hF2 : Fresh w2.heap.size A1 bs1 := hF1
          have hBq := (Below.refl w3.heap.size w3).alloc (Nat.le_refl _) (.cells #[.int .i64 (fr.length : Nat), .slice A1 n1 c5] 28)
          have hB25 := hB3.trans (((hBq.trans (hB4.mono hBq.size)).trans (hB45.mono (hBq.trans (hB4.mono hBq.size)).size)).mono hB3.size)
          exact bodyPost_ret (v := .tuple #[.agg #[.int .i64 fr.length, .slice A1 n1 c5], .int .i64 0]) (by simp [results, Tryd.results75, go_sem, c1, c2]) rfl
            (res_stored (R := (0, fr)) HN1.out HI1.out hl1 y1 hBw2 hB25 hF2 (by omega) hlt2)
        · have hRR := HR.out
          rw [if_neg hLS] at hRR
          have HRR := Lib.hid hRR
          clear hRR HR
          have hne : ((S : Int) == (L : Int)) = false := by rw [beq_eq_false_iff_ne]; omega
          clear hLS
          go_wp2
          rw [HRR.out]
          exact bodyPost_ret (v := .tuple #[.agg #[.int .i64 0, .slice none 0 0], .int .i64 21]) (by simp [results, Tryd.results75, go_sem, c1, c2]) rfl
            (res_err 21 ((hBw6.setCell (p := ⟨w.heap.size + 1 + 1, 0, none⟩) (by simp; omega) _).setCell (p := ⟨w.heap.size + 1 + 1, 1, none⟩) (by simp; omega) _))
    · rw [if_neg (fun h => g2 h.2)]
      rw [chk_no (by simpa using g2)] at hck2
      have HC2 := Lib.hid hck2; clear hck2
      clear hA hB hT hn hn' g1 g2
      unfold maxLen at hm hm'
      go_enter Tryd.func75, Tryd.ntmps75
      go_wp2_with fail
      refine (HC1.out _ B3.out).mono ?_
      rintro e w1 ⟨rfl, hB1⟩
      obtain ⟨k1, k2, k3, hs1, hBw1⟩ := boxes3 hB1
      obtain ⟨c1, c2, f1, f2⟩ := k2.two
      go_wp2_with fail
      refine (HC2.out _ hBw1).mono ?_
      rintro e w2 ⟨rfl, hB2⟩
      have hBw2 := hBw1.trans (hB2.mono hBw1.size)
      replace k3 := k3.below hB2 k3.lt
      clear c1 c2 f1 f2
      obtain ⟨c3, c4, f3, f4⟩ := k3.two
      have hlt := k3.lt
      go_wp2
      exact bodyPost_ret (v := .tuple #[.agg #[.int .i64 0, .slice none 0 0], .int .i64 10]) (by simp [results, Tryd.results75, go_sem, c3, c4]) rfl
        (res_err 10 ((hBw2.setCell (p := ⟨w.heap.size + 1 + 1, 0, none⟩) (by simp; omega) _).setCell (p := ⟨w.heap.size + 1 + 1, 1, none⟩) (by simp; omega) _))
  · rw [if_neg (fun h => g1 h.1)]
    rw [chk_no (by simpa using g1)] at hck1
    have HC1 := Lib.hid hck1; clear hck1
    clear hA hB hT hn hn' g1 hck2
    unfold maxLen at hm hm'
    go_enter Tryd.func75, Tryd.ntmps75
    go_wp2_with fail
    refine (HC1.out _ B3.out).mono ?_
    rintro e w1 ⟨rfl, hB1⟩
    obtain ⟨k1, k2, k3, hs1, hBw1⟩ := boxes3 hB1
    obtain ⟨c3, c4, f3, f4⟩ := k3.two
    have hlt := k3.lt
    go_wp2
    exact bodyPost_ret (v := .tuple #[.agg #[.int .i64 0, .slice none 0 0], .int .i64 10]) (by simp [results, Tryd.results75, go_sem, c3, c4]) rfl
      (res_err 10 ((hBw1.setCell (p := ⟨w.heap.size + 1 + 1, 0, none⟩) (by simp; omega) _).setCell (p := ⟨w.heap.size + 1 + 1, 1, none⟩) (by simp; omega) _))
end Go.Proofs.YtcfbeelljhjnoaaDoor

namespace Go.Proofs.YtcfbeelljhjnoaaDoor
open Go.RowKit

set_option maxHeartbeats 2000000 in
theorem ropen_any (N : Int) (A : Option Addr) (n c : Nat) (bs : List UInt8) (M : Int) (B : Option Addr) (m d : Nat) (us : List UInt8) (w : World) (hn : n = bs.length) (hm : n ≤ maxLen) (hA : Byt w.heap.size w A bs) (hn' : m = us.length) (hm' : m ≤ maxLen) (hB : Byt w.heap.size w B us) :
    Calls Tryd.prog 54 #[.agg #[.int .i64 N, .slice A n c], .agg #[.int .i64 M, .slice B m d]] w (Res w (openS N bs M us)) := by
  have hck1 := fun (w1 : World) (h : Below w.heap.size w w1) => rcheck_any N A n c bs w1 hn hm ((hA.below h).mono h.size)
  have hck2 := fun (w1 : World) (h : Below w.heap.size w w1) => rcheck_any M B m d us w1 hn' hm' ((hB.below h).mono h.size)
  have b3 : Below w.heap.size w (((w.alloc (.cells #[.int .i64 N, .slice A n c] 28)).alloc (.cells #[.int .i64 M, .slice B m d] 28)).alloc (.cells #[.int .i64 0, .slice none 0 0] 28)) := (((Below.refl _ _).alloc (Nat.le_refl _) _).alloc (by simp) _).alloc (by simp; omega) _
  have B3 := Lib.hid b3; clear b3
  unfold openS
  by_cases g1 : goodB N bs = true
  · rw [chk_yes g1] at hck1
    have HC1 := Lib.hid hck1; clear hck1
    by_cases g2 : goodB M us = true
    · rw [chk_yes g2] at hck2
      have HC2 := Lib.hid hck2; clear hck2
      rw [if_pos ⟨g1, g2⟩]
      have hg1 := (good_iff N bs).1 g1
      have hN0 := hg1.1; have hN1 := hg1.2.1; clear hg1
      by_cases h24 : N < 24
      · rw [if_pos h24]
        clear hA hB hn hn'
        have hd : decide (N < 24) = true := by simpa using h24
        unfold maxLen at hm hm'
        go_enter Tryd.func54, Tryd.ntmps54
        go_wp2_with fail
        refine (HC1.out _ B3.out).mono ?_
        rintro e w1 ⟨rfl, hB1⟩
        obtain ⟨k1, k2, k3, hs1, hBw1⟩ := boxes3 hB1
        obtain ⟨c1, c2, f1, f2⟩ := k2.two
        go_wp2_with fail
        refine (HC2.out _ hBw1).mono ?_
        rintro e w2 ⟨rfl, hB2⟩
        have hBw2 := hBw1.trans (hB2.mono hBw1.size)
        replace k1 := k1.below hB2 k1.lt; replace k2 := k2.below hB2 k2.lt; replace k3 := k3.below hB2 k3.lt
        clear c1 c2 f1 f2
        obtain ⟨c1, c2, f1, f2⟩ := k1.two
        obtain ⟨c3, c4, f3, f4⟩ := k3.two
        have hlt := k3.lt
        go_wp2
        exact bodyPost_ret (v := .tuple #[.agg #[.int .i64 0, .slice none 0 0], .int .i64 20]) (by simp [results, Tryd.results54, go_sem, c3, c4]) rfl
          (res_err 20 ((hBw2.setCell (p := ⟨w.heap.size + 1 + 1, 0, none⟩) (by simp; omega) _).setCell (p := ⟨w.heap.size + 1 + 1, 1, none⟩) (by simp; omega) _))
      · rw [if_neg h24]
        have hsl := fun (w1 : World) (h : Below w.heap.size w w1) => rslice_any N 0 (N - 24) A n c bs w1 hn hm ((hA.below h).mono h.size)
        rw [slice_front g1 h24] at hsl
        have hgt := fun (w1 : World) (h : Below w.heap.size w w1) => rget_any N (N - 24) 24 A n c bs w1 hn hm ((hA.below h).mono h.size)
        rw [get_last g1 h24] at hgt
        have hfl := front_length g1 h24
        have hll := last_lt (listOf N bs)
        generalize frontOf (listOf N bs) = fr at *
        generalize numOf (lastOf (listOf N bs)) = L at *
        have hsum := fun (w1 : World) (g : Nat) (A1 : Option Addr) (n1 c1 : Nat) (bs1 : List UInt8) (h : Below w.heap.size w w1) (h1 : n1 = bs1.length) (h2 : n1 ≤ maxLen) (h3 : IsBits fr bs1) (h4 : fr.length ≤ 4096) (h5 : Byt w1.heap.size w1 A1 bs1) (hb : Blk w1 g 28 #[.int .i64 M, .slice B m d, .int .i64 (fr.length : Nat), .slice A1 n1 c1]) => by
          have := rsum_any (some ⟨g, 0, none⟩) 2 2 [⟨M, B, m, d, us⟩, ⟨(fr.length : Nat), A1, n1, c1, bs1⟩] w1 rfl (by decide) (pair_bvs hb) (fun x hx => by
            simp at hx
            rcases hx with rfl | rfl
            · exact ⟨hn', hm', (hB.below h).mono h.size⟩
            · exact ⟨h1, h2, h5⟩)
          rw [pair_sum, if_pos ⟨g2, isBits_good h3 h4⟩] at this
          dsimp only at this
          rw [isBits_listOf h3] at this
          exact this
        have hrl := rem_lt (listOf M us ++ fr) 0 (by decide)
        generalize rem 0 (listOf M us ++ fr) = S at *
        have HSL := Lib.hid hsl; have HGT := Lib.hid hgt; have HSM := Lib.hid hsum; have HFL := Lib.hid hfl
        clear hsl hgt hsum hfl hA hB hn hn'
        obtain ⟨R, hR⟩ : ∃ R, R = (if L = S then ((0 : Int), fr) else (21, [])) := ⟨_, rfl⟩
        rw [← hR]
        have HR := Lib.hid hR; clear hR
        have hd : decide (N < 24) = false := by simpa using h24
        unfold maxLen at hm hm'
        go_enter Tryd.func54, Tryd.ntmps54
        go_wp2_with fail
        refine (HC1.out _ B3.out).mono ?_
        rintro e w1 ⟨rfl, hB1⟩
        obtain ⟨k1, k2, k3, hs1, hBw1⟩ := boxes3 hB1
        obtain ⟨c1, c2, f1, f2⟩ := k2.two
        go_wp2_with fail
        refine (HC2.out _ hBw1).mono ?_
        rintro e w2 ⟨rfl, hB2⟩
        have hBw2 := hBw1.trans (hB2.mono hBw1.size)
        replace k1 := k1.below hB2 k1.lt; replace k2 := k2.below hB2 k2.lt; replace k3 := k3.below hB2 k3.lt
        clear c1 c2 f1 f2
        obtain ⟨c1, c2, f1, f2⟩ := k1.two
        have hlt2 := k3.lt
        go_wp2_with fail
        refine (HSL.out _ hBw2).mono ?_
        rintro e w3 ⟨A1, n1, c5, bs1, rfl, hn1, his1, hl1, hA1, hB3, hF1⟩
        dsimp only at *
        have HN1 := Lib.hid hn1; have HI1 := Lib.hid his1; clear hn1 his1
        have hBw3 := hBw2.trans (hB3.mono hBw2.size)
        replace k1 := k1.below hB3 k1.lt; replace k2 := k2.below hB3 k2.lt; replace k3 := k3.below hB3 k3.lt
        clear c1 c2 f1 f2 hB1 hB2
        have k4 := Blk.new w3 28 #[.int .i64 (fr.length : Nat), .slice A1 n1 c5]
        replace k1 := k1.alloc (.cells #[.int .i64 (fr.length : Nat), .slice A1 n1 c5] 28)
        replace k2 := k2.alloc (.cells #[.int .i64 (fr.length : Nat), .slice A1 n1 c5] 28)
        replace k3 := k3.alloc (.cells #[.int .i64 (fr.length : Nat), .slice A1 n1 c5] 28)
        obtain ⟨c1, c2, f1, f2⟩ := k2.two
        obtain ⟨c3, c4, f3, f4⟩ := k4.two
        have hlt3 := k3.lt
        have hlt4 := k4.lt
        have y1 := (hA1.below ((Below.refl _ _).alloc (Nat.le_refl _) (.cells #[.int .i64 (fr.length : Nat), .slice A1 n1 c5] 28)))
        replace y1 := y1.mono (n₁ := (w3.alloc (.cells #[.int .i64 (fr.length : Nat), .slice A1 n1 c5] 28)).heap.size) (by simp)
        have hBw4 := hBw3.alloc hBw3.size (.cells #[.int .i64 (fr.length : Nat), .slice A1 n1 c5] 28)
        have hBw5 := hBw4.alloc hBw4.size (.cells #[.int .i64 M, .slice B m d, .int .i64 (fr.length : Nat), .slice A1 n1 c5] 28)
        have hal : Below (w3.alloc (.cells #[.int .i64 (fr.length : Nat), .slice A1 n1 c5] 28)).heap.size (w3.alloc (.cells #[.int .i64 (fr.length : Nat), .slice A1 n1 c5] 28)) ((w3.alloc (.cells #[.int .i64 (fr.length : Nat), .slice A1 n1 c5] 28)).alloc (.cells #[.int .i64 M, .slice B m d, .int .i64 (fr.length : Nat), .slice A1 n1 c5] 28)) := (Below.refl _ _).alloc (Nat.le_refl _) _
        go_wp2_with fail
        refine (HSM.out _ _ A1 n1 c5 bs1 hBw5 HN1.out (by rw [HN1.out]; exact bytes_small HI1.out hl1) HI1.out hl1 ((y1.below hal).mono hal.size) (by simpa using Blk.new (w3.alloc (.cells #[.int .i64 (fr.length : Nat), .slice A1 n1 c5] 28)) 28 #[.int .i64 M, .slice B m d, .int .i64 (fr.length : Nat), .slice A1 n1 c5])).mono ?_
        rintro e w4 ⟨rfl, hB4⟩
        dsimp only
        have hB34 := hal.trans (hB4.mono hal.size)
        replace hBw5 := hBw4.trans (hB34.mono hBw4.size)
        replace k1 := k1.below hB34 k1.lt; replace k3 := k3.below hB34 k3.lt; replace k4 := k4.below hB34 k4.lt
        replace y1 := (y1.below hB34).mono hB34.size
        clear c1 c2 f1 f2 c3 c4 f3 f4 hal k2
        obtain ⟨c1, c2, f1, f2⟩ := k1.two
        go_wp2_with fail
        refine (HGT.out _ hBw5).mono ?_
        rintro e w5 ⟨rfl, hB45⟩
        dsimp only
        have hBw6 := hBw5.trans (hB45.mono hBw5.size)
        replace k3 := k3.below hB45 k3.lt; replace k4 := k4.below hB45 k4.lt
        replace y1 := (y1.below hB45).mono hB45.size
        clear c1 c2 f1 f2
        obtain ⟨c1, c2, f1, f2⟩ := k3.two
        obtain ⟨c3, c4, f3, f4⟩ := k4.two
        have hlt5 := k3.lt
        by_cases hLS : L = S
        · have hRR := HR.out
          rw [if_pos hLS] at hRR
          have HRR := Lib.hid hRR
          clear hRR HR
          subst hLS
          go_wp2
          rw [HRR.out]
          have hF2 : Fresh w2.heap.size A1 bs1 := hF1
          have hBq := (Below.refl w3.heap.size w3).alloc (Nat.le_refl _) (.cells #[.int .i64 (fr.length : Nat), .slice A1 n1 c5] 28)
          have hB25 := hB3.trans (((hBq.trans (hB34.mono hBq.size)).trans (hB45.mono (hBq.trans (hB34.mono hBq.size)).size)).mono hB3.size)
          exact bodyPost_ret (v := .tuple #[.agg #[.int .i64 fr.length, .slice A1 n1 c5], .int .i64 0]) (by simp [results, Tryd.results54, go_sem, c1, c2]) rfl
            (res_stored (R := (0, fr)) HN1.out HI1.out hl1 y1 hBw2 hB25 hF2 (by omega) hlt2)
        · have hRR := HR.out
          rw [if_neg hLS] at hRR
          have HRR := Lib.hid hRR
          clear hRR HR
          have hne : ((L : Int) == (S : Int)) = false := by rw [beq_eq_false_iff_ne]; omega
          clear hLS
          go_wp2
          rw [HRR.out]
          exact bodyPost_ret (v := .tuple #[.agg #[.int .i64 0, .slice none 0 0], .int .i64 21]) (by simp [results, Tryd.results54, go_sem, c1, c2]) rfl
            (res_err 21 ((hBw6.setCell (p := ⟨w.heap.size + 1 + 1, 0, none⟩) (by simp; omega) _).setCell (p := ⟨w.heap.size + 1 + 1, 1, none⟩) (by simp; omega) _))
    · rw [if_neg (fun h => g2 h.2)]
      rw [chk_no (by simpa using g2)] at hck2
      have HC2 := Lib.hid hck2; clear hck2
      clear hA hB hn hn' g1 g2
      unfold maxLen at hm hm'
      go_enter Tryd.func54, Tryd.ntmps54
      go_wp2_with fail
      refine (HC1.out _ B3.out).mono ?_
      rintro e w1 ⟨rfl, hB1⟩
      obtain ⟨k1, k2, k3, hs1, hBw1⟩ := boxes3 hB1
      obtain ⟨c1, c2, f1, f2⟩ := k2.two
      go_wp2_with fail
      refine (HC2.out _ hBw1).mono ?_
      rintro e w2 ⟨rfl, hB2⟩
      have hBw2 := hBw1.trans (hB2.mono hBw1.size)
      replace k3 := k3.below hB2 k3.lt
      clear c1 c2 f1 f2
      obtain ⟨c3, c4, f3, f4⟩ := k3.two
      have hlt := k3.lt
      go_wp2
      exact bodyPost_ret (v := .tuple #[.agg #[.int .i64 0, .slice none 0 0], .int .i64 10]) (by simp [results, Tryd.results54, go_sem, c3, c4]) rfl
        (res_err 10 ((hBw2.setCell (p := ⟨w.heap.size + 1 + 1, 0, none⟩) (by simp; omega) _).setCell (p := ⟨w.heap.size + 1 + 1, 1, none⟩) (by simp; omega) _))
  · rw [if_neg (fun h => g1 h.1)]
    rw [chk_no (by simpa using g1)] at hck1
    have HC1 := Lib.hid hck1; clear hck1
    clear hA hB hn hn' g1 hck2
    unfold maxLen at hm hm'
    go_enter Tryd.func54, Tryd.ntmps54
    go_wp2_with fail
    refine (HC1.out _ B3.out).mono ?_
    rintro e w1 ⟨rfl, hB1⟩
    obtain ⟨k1, k2, k3, hs1, hBw1⟩ := boxes3 hB1
    obtain ⟨c3, c4, f3, f4⟩ := k3.two
    have hlt := k3.lt
    go_wp2
    exact bodyPost_ret (v := .tuple #[.agg #[.int .i64 0, .slice none 0 0], .int .i64 10]) (by simp [results, Tryd.results54, go_sem, c3, c4]) rfl
      (res_err 10 ((hBw1.setCell (p := ⟨w.heap.size + 1 + 1, 0, none⟩) (by simp; omega) _).setCell (p := ⟨w.heap.size + 1 + 1, 1, none⟩) (by simp; omega) _))
end Go.Proofs.YtcfbeelljhjnoaaDoor

namespace Go.Proofs.YtcfbeelljhjnoaaDoor
open Go.RowKit

/-- The places that a pattern turns, from at on, up to its k-th bit. -/
def places (at_ pat k : Nat) : List Int := ((List.range k).filter fun i => pat.testBit i).map fun i => ((at_ + i : Nat) : Int)
theorem places_succ (at_ pat k : Nat) : places at_ pat (k + 1) = places at_ pat k ++ (if pat.testBit k = true then [((at_ + k : Nat) : Int)] else []) := by
  unfold places
  rw [List.range_succ, List.filter_append, List.map_append]
  congr 1
  by_cases h : pat.testBit k = true <;> simp [h]
theorem places_length (at_ pat k : Nat) : (places at_ pat k).length ≤ k := by
  unfold places
  rw [List.length_map]
  exact Nat.le_trans (List.length_filter_le _ _) (by simp)
theorem places_ok (N at_ pat k : Nat) (h : at_ + k ≤ N) : okAt N (places at_ pat k) = true := by
  unfold okAt places
  rw [List.all_eq_true]
  intro z hz
  obtain ⟨i, hi, rfl⟩ := List.mem_map.1 hz
  have := List.mem_range.1 (List.mem_filter.1 hi).1
  simp; omega
/-- Burst, by the document. -/
def burstS (N : Int) (bs : List UInt8) (at_ : Int) (pat : Nat) : Int × List Bool :=
  if goodB N bs = true then if 0 ≤ at_ ∧ at_ ≤ N then flipS N bs (places at_.toNat pat (min 32 (N - at_).toNat)) else (2, []) else (10, [])
theorem bit_test32 (v j : Nat) (hv : v < 2 ^ 32) : (bits .and .u32 ((v : Int) / 2 ^ j) 1 == 1) = v.testBit j := by
  have e : ((v : Int) / 2 ^ j) = ((v / 2 ^ j : Nat) : Int) := by norm_cast
  have hle : v / 2 ^ j ≤ v := Nat.div_le_self _ _
  rw [e, show (1 : Int) = ((1 : Nat) : Int) from rfl, u32_and_nat _ _ (by omega) (by omega), nat_mask1, Nat.testBit_eq_decide_div_mod_eq]
  rcases Nat.mod_two_eq_zero_or_one (v / 2 ^ j) with h | h <;> rw [h] <;> rfl
theorem Tryd.info3 : (Tryd.prog.info? 3).map (fun i => (i.zero, i.size, i.bytes)) = some (some (.int .i64 0), 1, 8) := by kernel_rfl
theorem ints_of_own {w : World} {base : Nat} {v : Value} {k : Nat} {l : List Int} (h : w.ownsRow base 3 1 v k (l.map (Value.int .i64))) : ∃ A c, v = .slice A l.length c ∧ Ints w.heap.size w A l := by
  have hk : l.length = k := by have := h.1; simpa using this
  rcases h.2 with ⟨rfl, h0⟩ | ⟨g, cap, cur, rfl, _, hh, _⟩
  · exact ⟨none, 0, by rw [hk, h0], fun hne => absurd (List.eq_nil_of_length_eq_zero (hk.trans h0)) hne⟩
  · refine ⟨some ⟨g, 0, none⟩, cap, by rw [hk], fun _ => ⟨g, 0, rfl, (Array.getElem?_eq_some_iff.1 hh).1, fun j hj => ?_⟩⟩
    have := h.cells (g := g) rfl j (.int .i64 (l[j]?.getD 0)) (by simp [hj])
    rwa [addr_add] at this

end Go.Proofs.YtcfbeelljhjnoaaDoor

namespace Go.Proofs.YtcfbeelljhjnoaaDoor

theorem seal_zero {N : Int} {bs : List UInt8} {M : Int} {us : List UInt8} {R : Int × List Bool} (hR : R = sealS N bs M us) (h : R.1 = 0) :
    goodB N bs = true ∧ goodB M us = true ∧ R.2 = listOf N bs ++ numBits (rem 0 (listOf M us ++ listOf N bs)) 24 := by
  unfold sealS at hR
  split at hR
  · rename_i hg
    obtain ⟨h1, _, _, _, h5⟩ := put_zero hR h
    exact ⟨h1, hg.1, h5⟩
  · subst hR; cases h
theorem sealed_sum (u l : List Bool) : rem 0 (u ++ (l ++ numBits (rem 0 (u ++ l)) 24)) = 0 := by
  have hlt := rem_lt (u ++ l) 0 (by decide)
  refine (crc_opens poly_odd poly_lt u l _ (numBits_length _ _)).2 ?_
  rw [num_back _ _ (Nat.div_eq_of_lt hlt)]
theorem front_sealed (l : List Bool) (v : Nat) : frontOf (l ++ numBits v 24) = l := by
  unfold frontOf
  rw [List.length_append, numBits_length, Nat.add_sub_cancel, List.take_left']
  rfl
theorem opened (u l : List Bool) (h : 24 ≤ l.length) : numOf (lastOf l) = rem 0 (u ++ frontOf l) ↔ rem 0 (u ++ l) = 0 := by
  have h1 := crc_opens poly_odd poly_lt u (frontOf l) (lastOf l) (by unfold lastOf; rw [List.length_drop]; omega)
  have h2 : frontOf l ++ lastOf l = l := List.take_append_drop _ _
  rw [h2] at h1
  exact ⟨fun h => h1.2 h.symm, fun h => (h1.1 h).symm⟩
theorem open_more {l : List Bool} {bs : List UInt8} (h : IsBits l bs) (hl : l.length ≤ 4096) {M : Int} {us : List UInt8} (hg : goodB M us = true) (h24 : 24 ≤ l.length) :
    openS l.length bs M us = if rem 0 (listOf M us ++ l) = 0 then (0, frontOf l) else (21, []) := by
  unfold openS
  rw [if_pos ⟨isBits_good h hl, hg⟩, if_neg (by omega), isBits_listOf h]
  by_cases hc : rem 0 (listOf M us ++ l) = 0
  · rw [if_pos hc, if_pos ((opened _ _ h24).2 hc)]
  · rw [if_neg hc, if_neg (fun h => hc ((opened _ _ h24).1 h))]
theorem flips_other (i : Nat) : ∀ (zs : List Int) (l : List Bool), (∀ z ∈ zs, z.toNat ≠ i) → (flips l zs)[i]? = l[i]?
  | [], _, _ => rfl
  | z :: zs, l, h => by
    have h1 := flips_other i zs (flip1 l z) (fun y hy => h y (by simp [hy]))
    change (flips (flip1 l z) zs)[i]? = _
    rw [h1, flip1_get, if_neg (h z (by simp))]
theorem burst_told (u X : List Bool) (a p K : Nat) (hp : p < 2 ^ 24) (hx : rem 0 (u ++ X) = 0) (hy : rem 0 (u ++ flips X (places a p K)) = 0) : flips X (places a p K) = X := by
  have h := crc_apart poly_odd poly_lt (u ++ flips X (places a p K)) (u ++ X) (u.length + a) (by simp [flips_length]) (fun i hi => by
    by_cases hiu : i < u.length
    · rw [List.getElem?_append_left hiu, List.getElem?_append_left hiu]
    · rw [List.getElem?_append_right (by omega), List.getElem?_append_right (by omega)]
      refine flips_other _ _ _ fun z hz => ?_
      unfold places at hz
      obtain ⟨j, hj, rfl⟩ := List.mem_map.1 hz
      have hb := (List.mem_filter.1 hj).2
      have hj24 : j < 24 := by
        rcases Nat.lt_or_ge j 24 with h | h
        · exact h
        · have : p.testBit j = false := Nat.testBit_lt_two_pow (Nat.lt_of_lt_of_le hp (Nat.pow_le_pow_right (by omega) h))
          rw [this] at hb; cases hb
      rw [Int.toNat_natCast]
      omega) hy hx
  exact List.append_cancel_left h
theorem unsent_told (o o2 X : List Bool) (hl : o.length = o2.length) (h24 : o.length ≤ 24) (h1 : rem 0 (o ++ X) = 0) (h2 : rem 0 (o2 ++ X) = 0) : o = o2 := by
  have h := crc_apart poly_odd poly_lt (o ++ X) (o2 ++ X) 0 (by simp [hl]) (fun i hi => by
    rw [List.getElem?_append_right (by omega), List.getElem?_append_right (by omega), hl]) h1 h2
  exact List.append_cancel_right h
theorem burst_more {l : List Bool} {bs : List UInt8} (h : IsBits l bs) (hl : l.length ≤ 4096) (at_ : Int) (p : Nat) :
    burstS l.length bs at_ p = if 0 ≤ at_ ∧ at_ ≤ (l.length : Int) then (0, flips l (places at_.toNat p (min 32 ((l.length : Int) - at_).toNat))) else (2, []) := by
  unfold burstS
  rw [if_pos (isBits_good h hl)]
  by_cases hc : 0 ≤ at_ ∧ at_ ≤ (l.length : Int)
  · rw [if_pos hc, if_pos hc]
    exact flip_more h hl _ (places_ok _ _ _ _ (by omega))
  · rw [if_neg hc, if_neg hc]
end Go.Proofs.YtcfbeelljhjnoaaDoor

namespace Go.Proofs.YtcfbeelljhjnoaaDoor
open Go.RowKit

set_option maxHeartbeats 2000000 in
theorem rburst_any (N at_ : Int) (pat : Nat) (A : Option Addr) (n c : Nat) (bs : List UInt8) (w : World) (hn : n = bs.length) (hm : n ≤ maxLen) (hA : Byt w.heap.size w A bs) (_hp : pat < 2 ^ 32) :
    Calls Tryd.prog 25 #[.agg #[.int .i64 N, .slice A n c], .int .i64 at_, .int .u32 pat] w (Res w (burstS N bs at_ pat)) := by
  have hck := fun (w1 : World) (h : Below w.heap.size w w1) => rcheck_any N A n c bs w1 hn hm ((hA.below h).mono h.size)
  have hfl := fun (w1 : World) (h : Below w.heap.size w w1) (Z : Option Addr) (zc : Nat) (zs : List Int) (hz : zs.length ≤ 32) (hZ : Ints w1.heap.size w1 Z zs) => rflip_any N A Z n c zs.length zc bs zs w1 hn hm ((hA.below h).mono h.size) rfl (by unfold maxLen; omega) hZ
  have b2 : Below w.heap.size w ((w.alloc (.cells #[.int .i64 N, .slice A n c] 28)).alloc (.cells #[.int .i64 0, .slice none 0 0] 28)) := ((Below.refl _ _).alloc (Nat.le_refl _) _).alloc (by simp) _
  have B2 := Lib.hid b2; have HF := Lib.hid hfl; clear b2 hfl hA hn
  unfold maxLen at hm
  unfold burstS
  by_cases g1 : goodB N bs = true
  · rw [chk_yes g1] at hck
    have HC := Lib.hid hck; clear hck
    rw [if_pos g1]
    have hg1 := (good_iff N bs).1 g1
    have hN0 := hg1.1; have hN1 := hg1.2.1; clear hg1
    by_cases hat : 0 ≤ at_ ∧ at_ ≤ N
    · rw [if_pos hat]
      obtain ⟨ha0, ha1⟩ := hat
      obtain ⟨a, rfl⟩ := Int.eq_ofNat_of_zero_le ha0
      obtain ⟨M, rfl⟩ := Int.eq_ofNat_of_zero_le hN0
      have hd1 : decide ((a : Int) < 0) = false := by simp
      have hd2 : decide ((M : Int) < (a : Int)) = false := by simp; omega
      have hd5 : decide (M < a) = false := by simp; omega
      obtain ⟨K, hK⟩ : ∃ K : Nat, K = min 32 ((M : Int) - (a : Int)).toNat := ⟨_, rfl⟩
      rw [← hK, Int.toNat_natCast]
      have hK32 : K ≤ 32 := by omega
      have hmin : min (32 : Int) ((M : Int) - (a : Int)) = (K : Int) := by omega
      have HK := Lib.hid hK; clear hK
      obtain ⟨i0, hi, hz0, hz1, hz2⟩ := info_parts Tryd.info3
      obtain ⟨R, hR⟩ : ∃ R, R = flipS (M : Int) bs (places a pat K) := ⟨_, rfl⟩
      rw [← hR]
      have HR := Lib.hid hR; clear hR
      go_enter Tryd.func25, Tryd.ntmps25
      go_wp2_with fail
      refine (HC.out _ B2.out).mono ?_
      rintro e w1 ⟨rfl, hB1⟩
      obtain ⟨k1, k2, hs1, hBw1⟩ := boxes2 hB1
      obtain ⟨c1, c2, f1, f2⟩ := k1.two
      have hlt1 : w.heap.size + 1 < w1.heap.size := by omega
      have hK2 : (32 ≤ (M : Int) - (a : Int) ∧ K = 32) ∨ ((M : Int) - (a : Int) < 32 ∧ (K : Int) = (M : Int) - (a : Int)) := by omega
      clear hmin
      go_wp2
      go_loopw [8, 9] (fun zv i wr => ∃ k : Nat, k ≤ K ∧ i = .int .i64 k ∧ wr.ownsRow w1.heap.size 3 1 zv (places a pat k).length ((places a pat k).map (Value.int .i64)) ∧ Blk wr w.heap.size 28 #[.int .i64 M, .slice A n c] ∧ Blk wr (w.heap.size + 1) 28 #[.int .i64 0, .slice none 0 0] ∧ Below w.heap.size w wr ∧ w1.heap.size ≤ wr.heap.size)
        (fun _ i _ => K - (intOf i).toNat)
      case atStart => exact ⟨0, by omega, rfl, World.ownsRow_nil _ _ _ _, k1, k2, hBw1, Nat.le_refl _⟩
      case round =>
        clear k1 k2 c1 c2 f1 f2
        obtain ⟨k, hk, rfl, hrow, q1, q2, hBr, hsr⟩ := hrel
        have hpl := places_length a pat k
        obtain ⟨c1, c2, f1, f2⟩ := q1.two
        by_cases hlt : k < K
        · have hbt := shr_test pat k
          have hd3 : decide ((k : Int) < 32) = true := by simp; omega
          have hd4 : decide ((a : Int) + (k : Int) < (M : Int)) = true := by simp; omega
          have hps := places_succ a pat k
          have hj : k < 32 := by omega
          by_cases hb : pat.testBit k = true
          · rw [hb] at hbt
            rw [if_pos hb] at hps
            have HPS := Lib.hid hps
            clear hps hb
            go_wp2_with (at_builtin; refine wpList_append_own _ rfl _ _ 81 rfl w1.heap.size 3 i0 (.int .i64 0) 1 8 Tryd.underlying81 hi hz0 hz1 hz2 rfl (by decide) u8 _ _ rfl (hrow.alloc _) ⟨wr.heap.size, 0, none⟩ 1 1 [.int .i64 ((a : Int) + k)] rfl rfl (cell_one_new _ _ _) (by simp [Value.oneCell']) (by unfold maxLen; omega) (by omega) (by simp; omega) ?_; intro v' w2 hown' hgrow _; have hq1 := own_grown_low hrow hgrow w.heap.size (by omega) q1.lt; have hq2 := own_grown_low hrow hgrow (w.heap.size + 1) (by omega) q2.lt; have hgs := hgrow.size)
            go_roundw
            case rel =>
              refine ⟨k + 1, by omega, by go_num, ?_, hq1.trans q1, hq2.trans q2, own_below hrow hgrow hBr (by omega) hBr.size, by simp at hgs; omega⟩
              rw [HPS.out, List.map_append, List.length_append]
              simpa using hown'
            case measure => simp [intOf]; omega
          · rw [Bool.not_eq_true] at hb
            rw [hb] at hbt
            rw [hb] at hps
            simp only [Bool.false_eq_true, if_false, List.append_nil] at hps
            have HPS := Lib.hid hps
            clear hps hb
            go_wp2
            go_roundw
            case rel => exact ⟨k + 1, by omega, by go_num, by rw [HPS.out]; exact hrow, q1, q2, hBr, hsr⟩
            case measure => simp [intOf]; omega
        · obtain rfl : k = K := by omega
          have hd34 : decide ((k : Int) < 32) = false ∨ (decide ((k : Int) < 32) = true ∧ decide ((a : Int) + (k : Int) < (M : Int)) = false) := by
            rcases hK2 with h | h
            · exact .inl (by simp; omega)
            · exact .inr ⟨by simp; omega, by simp; omega⟩
          obtain ⟨ZA, zc, rfl, hZA⟩ := ints_of_own hrow
          have hflp := HF.out wr hBr ZA zc _ (by omega) hZA
          rw [← HR.out] at hflp
          have HFL := Lib.hid hflp; clear hflp hZA
          rcases hd34 with hd3 | ⟨hd3, hd4⟩
          · go_wp2_with fail
            refine HFL.out.mono ?_
            rintro e w3 ⟨A3, n3, c5, bs3, rfl, hn3, his3, hl3, hA3, hB3, hF3⟩
            have HN3 := Lib.hid hn3; clear hn3
            have q3 := q2.below hB3 q2.lt
            obtain ⟨d1, d2, g1', g2'⟩ := q3.two
            have hlt3 := q3.lt
            go_wp2
            exact bodyPost_ret (v := .tuple #[.agg #[.int .i64 R.2.length, .slice A3 n3 c5], .int .i64 R.1]) (by simp [results, Tryd.results25, go_sem, d1, d2]) rfl
              (res_stored HN3.out his3 hl3 hA3 hBr hB3 hF3 (by omega) (by omega))
          · go_wp2_with fail
            refine HFL.out.mono ?_
            rintro e w3 ⟨A3, n3, c5, bs3, rfl, hn3, his3, hl3, hA3, hB3, hF3⟩
            have HN3 := Lib.hid hn3; clear hn3
            have q3 := q2.below hB3 q2.lt
            obtain ⟨d1, d2, g1', g2'⟩ := q3.two
            have hlt3 := q3.lt
            go_wp2
            exact bodyPost_ret (v := .tuple #[.agg #[.int .i64 R.2.length, .slice A3 n3 c5], .int .i64 R.1]) (by simp [results, Tryd.results25, go_sem, d1, d2]) rfl
              (res_stored HN3.out his3 hl3 hA3 hBr hB3 hF3 (by omega) (by omega))
    · rw [if_neg hat]
      by_cases ha0 : at_ < 0
      · have hd1 : decide (at_ < 0) = true := by simpa using ha0
        clear hat
        go_enter Tryd.func25, Tryd.ntmps25
        go_wp2_with fail
        refine (HC.out _ B2.out).mono ?_
        rintro e w1 ⟨rfl, hB1⟩
        obtain ⟨k1, k2, hs1, hBw1⟩ := boxes2 hB1
        obtain ⟨c1, c2, f1, f2⟩ := k1.two
        obtain ⟨c3, c4, f3, f4⟩ := k2.two
        have hlt1 : w.heap.size + 1 < w1.heap.size := by omega
        go_wp2
        exact bodyPost_ret (v := .tuple #[.agg #[.int .i64 0, .slice none 0 0], .int .i64 2]) (by simp [results, Tryd.results25, go_sem, c3, c4]) rfl
          (res_err 2 ((hBw1.setCell (p := ⟨w.heap.size + 1, 0, none⟩) (by simp) _).setCell (p := ⟨w.heap.size + 1, 1, none⟩) (by simp) _))
      · have hd1 : decide (at_ < 0) = false := by simpa using ha0
        have hd2 : decide (N < at_) = true := by simp; omega
        clear hat
        go_enter Tryd.func25, Tryd.ntmps25
        go_wp2_with fail
        refine (HC.out _ B2.out).mono ?_
        rintro e w1 ⟨rfl, hB1⟩
        obtain ⟨k1, k2, hs1, hBw1⟩ := boxes2 hB1
        obtain ⟨c1, c2, f1, f2⟩ := k1.two
        obtain ⟨c3, c4, f3, f4⟩ := k2.two
        have hlt1 : w.heap.size + 1 < w1.heap.size := by omega
        go_wp2
        exact bodyPost_ret (v := .tuple #[.agg #[.int .i64 0, .slice none 0 0], .int .i64 2]) (by simp [results, Tryd.results25, go_sem, c3, c4]) rfl
          (res_err 2 ((hBw1.setCell (p := ⟨w.heap.size + 1, 0, none⟩) (by simp) _).setCell (p := ⟨w.heap.size + 1, 1, none⟩) (by simp) _))
  · rw [if_neg g1]
    rw [chk_no (by simpa using g1)] at hck
    have HC := Lib.hid hck; clear hck g1
    go_enter Tryd.func25, Tryd.ntmps25
    go_wp2_with fail
    refine (HC.out _ B2.out).mono ?_
    rintro e w1 ⟨rfl, hB1⟩
    obtain ⟨k1, k2, hs1, hBw1⟩ := boxes2 hB1
    obtain ⟨c1, c2, f1, f2⟩ := k1.two
    obtain ⟨c3, c4, f3, f4⟩ := k2.two
    have hlt1 : w.heap.size + 1 < w1.heap.size := by omega
    go_wp2
    exact bodyPost_ret (v := .tuple #[.agg #[.int .i64 0, .slice none 0 0], .int .i64 10]) (by simp [results, Tryd.results25, go_sem, c3, c4]) rfl
      (res_err 10 ((hBw1.setCell (p := ⟨w.heap.size + 1, 0, none⟩) (by simp) _).setCell (p := ⟨w.heap.size + 1, 1, none⟩) (by simp) _))
end Go.Proofs.YtcfbeelljhjnoaaDoor

namespace Go.Proofs.YtcfbeelljhjnoaaDoor
open Go.RowKit

theorem Tab.on {w w' : World} (h : Tab w) (hb : Below w.heap.size w w') : Tab w' := h.below hb (.inl (Nat.le_refl _))
theorem below_stored {w W : World} {n : Nat} (bw : Below n w W) {g : Nat} (hg : n ≤ g) (v0 v1 : Value) : Below n w ((W.setCell ⟨g, 0, none⟩ v0).setCell ⟨g, 1, none⟩ v1) := (bw.setCell (p := ⟨g, 0, none⟩) hg _).setCell (p := ⟨g, 1, none⟩) hg _
theorem Blk.far2 {W : World} {g g' : Nat} {t : TypeId} {cs : Array Value} (h : Blk W g t cs) (hne : g ≠ g') (v0 v1 : Value) : Blk ((W.setCell ⟨g', 0, none⟩ v0).setCell ⟨g', 1, none⟩ v1) g t cs := (h.far (p := ⟨g', 0, none⟩) hne _).far (p := ⟨g', 1, none⟩) hne _
theorem Byt.low2 {W : World} {A : Option Addr} {bs : List UInt8} {F : Nat} (h : Byt W.heap.size W A bs) (hF : Fresh F A bs) {g : Nat} (hg : g < F) (v0 v1 : Value) : Byt ((W.setCell ⟨g, 0, none⟩ v0).setCell ⟨g, 1, none⟩ v1).heap.size ((W.setCell ⟨g, 0, none⟩ v0).setCell ⟨g, 1, none⟩ v1) A bs := by
  have h2 := (h.set_low hF (p := ⟨g, 0, none⟩) hg v0).set_low hF (p := ⟨g, 1, none⟩) hg v1
  simpa using h2
end Go.Proofs.YtcfbeelljhjnoaaDoor

namespace Go.Proofs.YtcfbeelljhjnoaaDoor
open Go.RowKit

end Go.Proofs.YtcfbeelljhjnoaaDoor

namespace Go.Proofs.YtcfbeelljhjnoaaDoor
open Go.RowKit

theorem isBits_ne {X Y : List Bool} {bs bs' : List UInt8} (h : IsBits X bs) (h' : IsBits Y bs') (hl : X.length = Y.length) (hne : Y ≠ X) : bs ≠ bs' := by
  rintro rfl
  refine hne ?_
  rw [← isBits_listOf h, ← isBits_listOf h', hl]

end Go.Proofs.YtcfbeelljhjnoaaDoor

namespace Go.Proofs.YtcfbeelljhjnoaaDoor
open Go.RowKit

/-- Seal over bits that are not sent, by their truths. -/
def sealL (N : Int) (bs : List UInt8) (o : List Bool) : Int × List Bool := if goodB N bs = true then putS N bs (rem 0 (o ++ listOf N bs)) 24 else (10, [])
theorem seal_more {N : Int} {bs : List UInt8} {o : List Bool} {us : List UInt8} (h : IsBits o us) (hl : o.length ≤ 4096) : sealS N bs o.length us = sealL N bs o := by
  unfold sealS sealL
  rw [isBits_listOf h]
  by_cases hg : goodB N bs = true
  · rw [if_pos hg, if_pos ⟨isBits_good h hl, hg⟩]
  · rw [if_neg hg, if_neg (fun h => hg h.2)]
theorem sealL_zero {N : Int} {bs : List UInt8} {o : List Bool} {R : Int × List Bool} (hR : R = sealL N bs o) (h : R.1 = 0) : R.2 = listOf N bs ++ numBits (rem 0 (o ++ listOf N bs)) 24 := by
  unfold sealL at hR
  split at hR
  · exact (put_zero hR h).2.2.2.2
  · subst hR; cases h
theorem put_none (x v : Nat) (hv : v ≤ 24) (hx : x < 2 ^ v) : putS 0 [] x v = (0, numBits x v) := by
  unfold putS
  rw [if_pos goodB_nil, if_pos ⟨by omega, by rw [Int.toNat_natCast]; exact Nat.div_eq_of_lt hx⟩, if_neg (by omega), Int.toNat_natCast]
  rfl

end Go.Proofs.YtcfbeelljhjnoaaDoor

namespace Go.Proofs.YtcfbeelljhjnoaaDoor
open Go.RowKit

theorem num_lt_back (v W : Nat) (h : v < 2 ^ W) : numOf (numBits v W) = v := num_back v W (Nat.div_eq_of_lt h)
theorem numOf_inj : ∀ (l m : List Bool), l.length = m.length → numOf l = numOf m → l = m := by
  have key : ∀ (l : List Bool) (a : Nat), l.foldl (fun a b => 2 * a + b.toNat) a = a * 2 ^ l.length + numOf l := by
    intro l
    induction l with
    | nil => intro a; simp [numOf]
    | cons b l ih =>
      intro a
      have h2 : numOf (b :: l) = (2 * 0 + b.toNat) * 2 ^ l.length + numOf l := ih (2 * 0 + b.toNat)
      rw [List.foldl_cons, ih, h2, List.length_cons, Nat.pow_succ, Nat.add_mul, Nat.add_mul, Nat.mul_comm (2 ^ l.length) 2, ← Nat.mul_assoc, Nat.mul_comm a 2]
      omega
  intro l
  induction l with
  | nil => intro m h _; cases m with
    | nil => rfl
    | cons b m => simp at h
  | cons b l ih =>
    intro m h hn
    cases m with
    | nil => simp at h
    | cons b' m =>
      have hl : l.length = m.length := by simpa using h
      have h1 : numOf (b :: l) = (2 * 0 + b.toNat) * 2 ^ l.length + numOf l := key l (2 * 0 + b.toNat)
      have h2 : numOf (b' :: m) = (2 * 0 + b'.toNat) * 2 ^ m.length + numOf m := key m (2 * 0 + b'.toNat)
      have l1 := numOf_lt l
      have l2 := numOf_lt m
      rw [h1, h2, hl] at hn
      rw [hl] at l1
      have hb : b = b' := by
        cases b <;> cases b' <;> simp at hn ⊢ <;> omega
      subst hb
      rw [ih m hl (by omega)]
/-- The part behind what stands ahead. -/
theorem part_app (a b c : List Bool) {i k : Nat} (ha : a.length = i) (hb : b.length = k) : ((a ++ (b ++ c)).drop i).take k = b := by
  subst ha hb
  rw [List.drop_left, List.take_left]
/-- A state that may be is read of its bits. -/
theorem fields_bits {c : CS} (h : mayC c 8 = true) : fieldsOf (bitsOf c) = c := by
  have h0 := fld_lt h (k := 0) (by decide)
  have h1 := fld_lt h (k := 1) (by decide)
  have h2 := fld_lt h (k := 2) (by decide)
  have h3 := fld_lt h (k := 3) (by decide)
  have h4 := fld_lt h (k := 4) (by decide)
  have p0 : partF (bitsOf c) 0 = c.T.toNat := by
    show numOf ((bitsOf c).drop 0 |>.take 8) = _
    rw [show bitsOf c = ([]) ++ (numBits c.T.toNat 8 ++ (numBits c.P.toNat 3 ++ numBits c.Mo.toNat 2 ++ numBits c.Nx.toNat 3 ++ numBits c.Me.toNat 8)) by simp [bitsOf], part_app [] _ _ (i := 0) rfl (numBits_length _ _)]
    exact num_lt_back _ _ h0.2
  have p1 : partF (bitsOf c) 1 = c.P.toNat := by
    show numOf ((bitsOf c).drop 8 |>.take 3) = _
    rw [show bitsOf c = (numBits c.T.toNat 8) ++ (numBits c.P.toNat 3 ++ (numBits c.Mo.toNat 2 ++ numBits c.Nx.toNat 3 ++ numBits c.Me.toNat 8)) by simp [bitsOf], part_app _ _ _ (by simp [numBits_length]) (numBits_length _ _)]
    exact num_lt_back _ _ h1.2
  have p2 : partF (bitsOf c) 2 = c.Mo.toNat := by
    show numOf ((bitsOf c).drop 11 |>.take 2) = _
    rw [show bitsOf c = (numBits c.T.toNat 8 ++ numBits c.P.toNat 3) ++ (numBits c.Mo.toNat 2 ++ (numBits c.Nx.toNat 3 ++ numBits c.Me.toNat 8)) by simp [bitsOf], part_app _ _ _ (by simp [numBits_length]) (numBits_length _ _)]
    exact num_lt_back _ _ h2.2
  have p3 : partF (bitsOf c) 3 = c.Nx.toNat := by
    show numOf ((bitsOf c).drop 13 |>.take 3) = _
    rw [show bitsOf c = (numBits c.T.toNat 8 ++ numBits c.P.toNat 3 ++ numBits c.Mo.toNat 2) ++ (numBits c.Nx.toNat 3 ++ (numBits c.Me.toNat 8)) by simp [bitsOf], part_app _ _ _ (by simp [numBits_length]) (numBits_length _ _)]
    exact num_lt_back _ _ h3.2
  have p4 : partF (bitsOf c) 4 = c.Me.toNat := by
    show numOf ((bitsOf c).drop 16 |>.take 8) = _
    rw [show bitsOf c = (numBits c.T.toNat 8 ++ numBits c.P.toNat 3 ++ numBits c.Mo.toNat 2 ++ numBits c.Nx.toNat 3) ++ (numBits c.Me.toNat 8 ++ ([])) by simp [bitsOf], part_app _ _ _ (by simp [numBits_length]) (numBits_length _ _)]
    exact num_lt_back _ _ h4.2
  unfold fieldsOf
  rw [p0, p1, p2, p3, p4]
  obtain ⟨T, P, Mo, Nx, Me⟩ := c
  have a0 : 0 ≤ T := h0.1
  have a1 : 0 ≤ P := h1.1
  have a2 : 0 ≤ Mo := h2.1
  have a3 : 0 ≤ Nx := h3.1
  have a4 : 0 ≤ Me := h4.1
  simp only [CS.mk.injEq]
  omega
/-- Twenty-four bits are the bits of what they hold. -/
theorem bits_fields {L : List Bool} (h : L.length = 24) : bitsOf (fieldsOf L) = L := by
  have e : ∀ a k : Nat, a + k ≤ 24 → numBits (numOf ((L.drop a).take k)) k = (L.drop a).take k := by
    intro a k hk
    have hl : ((L.drop a).take k).length = k := by rw [List.length_take, List.length_drop, h]; omega
    have := numBits_numOf ((L.drop a).take k)
    rwa [hl] at this
  have q0 := e 0 8 (by decide)
  have q1 := e 8 3 (by decide)
  have q2 := e 11 2 (by decide)
  have q3 := e 13 3 (by decide)
  have q4 := e 16 8 (by decide)
  have hb : bitsOf (fieldsOf L) = (L.drop 0).take 8 ++ (L.drop 8).take 3 ++ (L.drop 11).take 2 ++ (L.drop 13).take 3 ++ (L.drop 16).take 8 := by
    rw [← q0, ← q1, ← q2, ← q3, ← q4]
    rfl
  rw [hb]
  have t1 : L.drop 0 = (L.drop 0).take 8 ++ L.drop 8 := by rw [← List.drop_drop (i := 8) (j := 0)]; exact (List.take_append_drop 8 (L.drop 0)).symm
  have t2 : L.drop 8 = (L.drop 8).take 3 ++ L.drop 11 := by rw [← List.drop_drop (i := 3) (j := 8)]; exact (List.take_append_drop 3 (L.drop 8)).symm
  have t3 : L.drop 11 = (L.drop 11).take 2 ++ L.drop 13 := by rw [← List.drop_drop (i := 2) (j := 11)]; exact (List.take_append_drop 2 (L.drop 11)).symm
  have t4 : L.drop 13 = (L.drop 13).take 3 ++ L.drop 16 := by rw [← List.drop_drop (i := 3) (j := 13)]; exact (List.take_append_drop 3 (L.drop 13)).symm
  have t5 : (L.drop 16).take 8 = L.drop 16 := List.take_of_length_le (by rw [List.length_drop, h]; decide)
  rw [t5, List.append_assoc, List.append_assoc, List.append_assoc, ← t4, ← t3, ← t2, ← t1]
  rfl
theorem read_bits {c : CS} (h : mayC c 8 = true) {bs : List UInt8} (hb : IsBits (bitsOf c) bs) : readC 24 bs = (0, c) := by
  have hl := bitsOf_length c
  have h1 := isBits_good hb (by omega)
  have h2 := isBits_listOf hb
  rw [hl] at h1 h2
  unfold readC
  rw [show ((24 : Int)) = ((24 : Nat) : Int) from rfl, h2, if_pos h1, if_pos rfl, fields_bits h, if_pos h]
theorem bits_inj {a b : CS} (ha : mayC a 8 = true) (hb : mayC b 8 = true) (h : bitsOf a = bitsOf b) : a = b := by
  rw [← fields_bits ha, h, fields_bits hb]
theorem same_states {a b : CS} (ha : mayC a 8 = true) (hb : mayC b 8 = true) {bs bs' : List UInt8} (h : IsBits (bitsOf a) bs) (h' : IsBits (bitsOf b) bs') : (a = b → sameB 24 bs 24 bs' = true) ∧ (a ≠ b → sameB 24 bs 24 bs' = false) := by
  constructor
  · rintro rfl
    obtain rfl := h.unique h'
    exact sameB_self _ _
  · intro hne
    unfold sameB
    simp only [decide_true, Bool.true_and, decide_eq_false_iff_not]
    rintro rfl
    have e1 := isBits_listOf h
    have e2 := isBits_listOf h'
    rw [bitsOf_length] at e1 e2
    exact hne (bits_inj ha hb (e1.symm.trans e2))
theorem read_some {N : Int} {bs : List UInt8} (h : (readC N bs).1 = 0) : goodB N bs = true ∧ N = 24 ∧ mayC (fieldsOf (listOf 24 bs)) 8 = true ∧ readC N bs = (0, fieldsOf (listOf 24 bs)) := by
  unfold readC at h ⊢
  by_cases hg : goodB N bs = true
  · rw [if_pos hg] at h ⊢
    by_cases hN : N = 24
    · subst hN
      rw [if_pos rfl] at h ⊢
      by_cases hm : mayC (fieldsOf (listOf 24 bs)) 8 = true
      · rw [if_pos hm]; exact ⟨hg, rfl, hm, rfl⟩
      · rw [if_neg hm] at h; simp at h
    · rw [if_neg hN] at h; simp at h
  · rw [if_neg hg] at h; simp at h
end Go.Proofs.YtcfbeelljhjnoaaDoor
