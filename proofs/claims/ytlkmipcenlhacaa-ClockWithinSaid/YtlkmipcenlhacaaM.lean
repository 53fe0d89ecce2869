/-
  Plain facts about bytes and their bits, over no program: which bytes are a list of truths, and that these bytes are fixed by it. No condition but those that each theorem names.
-/
import Derived.Below
namespace Go.Proofs.Ytlkmipcenlhacaa

/-- The bit i of bytes: the bit 2^(7 - i % 8) of the byte i / 8; behind them all are 0. -/
def bitAt (bs : List UInt8) (i : Nat) : Bool := (bs[i / 8]?.getD 0).toNat.testBit (7 - i % 8)

/-- The bytes are those of the truths l: as many as they need, and all behind the last is 0. -/
def IsBits (l : List Bool) (bs : List UInt8) : Prop := bs.length = (l.length + 7) / 8 ∧ ∀ i, bitAt bs i = l[i]?.getD false

theorem bytes_ext {as bs : List UInt8} (hl : as.length = bs.length) (h : ∀ i, bitAt as i = bitAt bs i) : as = bs := by
  apply List.ext_getElem hl
  intro j h1 h2
  apply UInt8.toNat_inj.1
  apply Nat.eq_of_testBit_eq
  intro k
  by_cases hk : k < 8
  · have := h (8 * j + (7 - k))
    unfold bitAt at this
    have e1 : (8 * j + (7 - k)) / 8 = j := by omega
    have e2 : 7 - (8 * j + (7 - k)) % 8 = k := by omega
    rw [e1, e2] at this
    simpa [h1, h2] using this
  · have a1 := as[j].toNat_lt
    have a2 := bs[j].toNat_lt
    have b1 : as[j].toNat < 2 ^ k := Nat.lt_of_lt_of_le a1 (Nat.pow_le_pow_right (by omega) (by omega))
    have b2 : bs[j].toNat < 2 ^ k := Nat.lt_of_lt_of_le a2 (Nat.pow_le_pow_right (by omega) (by omega))
    rw [Nat.testBit_lt_two_pow b1, Nat.testBit_lt_two_pow b2]

theorem IsBits.unique {l : List Bool} {as bs : List UInt8} (ha : IsBits l as) (hb : IsBits l bs) : as = bs :=
  bytes_ext (ha.1.trans hb.1.symm) fun i => (ha.2 i).trans (hb.2 i).symm

theorem isBits_nil : IsBits [] [] := ⟨rfl, fun i => by simp [bitAt]⟩

theorem bitAt_beyond (bs : List UInt8) (i : Nat) (h : 8 * bs.length ≤ i) : bitAt bs i = false := by
  unfold bitAt
  rw [List.getElem?_eq_none (by omega)]
  simp

/-- Bits that may be. -/
def goodB (N : Int) (bs : List UInt8) : Bool :=
  decide (0 ≤ N) && (decide (N ≤ 4096) && (decide ((bs.length : Int) = (N + 7) / 8) && (List.range (8 * bs.length)).all fun i => decide ((i : Int) < N) || !bitAt bs i))

/-- Their truths. -/
def listOf (N : Int) (bs : List UInt8) : List Bool := (List.range N.toNat).map (bitAt bs)

theorem good_iff (N : Int) (bs : List UInt8) : goodB N bs = true ↔ 0 ≤ N ∧ N ≤ 4096 ∧ (bs.length : Int) = (N + 7) / 8 ∧ ∀ i : Nat, N ≤ i → bitAt bs i = false := by
  unfold goodB
  simp only [Bool.and_eq_true, decide_eq_true_eq, List.all_eq_true, List.mem_range, Bool.or_eq_true, Bool.not_eq_true']
  constructor
  · rintro ⟨h0, h1, h2, h3⟩
    refine ⟨h0, h1, h2, fun i hi => ?_⟩
    by_cases hlt : i < 8 * bs.length
    · rcases h3 i hlt with h | h
      · omega
      · exact h
    · exact bitAt_beyond bs i (by omega)
  · rintro ⟨h0, h1, h2, h3⟩
    refine ⟨h0, h1, h2, fun i _ => ?_⟩
    by_cases hlt : (i : Int) < N
    · exact .inl hlt
    · exact .inr (h3 i (by omega))

theorem listOf_length (N : Int) (bs : List UInt8) : (listOf N bs).length = N.toNat := by simp [listOf]

theorem listOf_get (N : Int) (bs : List UInt8) (i : Nat) : (listOf N bs)[i]?.getD false = (decide (i < N.toNat) && bitAt bs i) := by
  unfold listOf
  by_cases h : i < N.toNat <;> simp [h]

theorem good_isBits {N : Int} {bs : List UInt8} (h : goodB N bs = true) : IsBits (listOf N bs) bs := by
  obtain ⟨h0, h1, h2, h3⟩ := (good_iff N bs).1 h
  refine ⟨by rw [listOf_length]; omega, fun i => ?_⟩
  rw [listOf_get]
  by_cases hi : i < N.toNat
  · simp [hi]
  · simp [hi, h3 i (by omega)]

theorem isBits_good {l : List Bool} {bs : List UInt8} (h : IsBits l bs) (hl : l.length ≤ 4096) : goodB l.length bs = true := by
  refine (good_iff _ _).2 ⟨by omega, by omega, by have := h.1; omega, fun i hi => ?_⟩
  rw [h.2, List.getElem?_eq_none (by omega)]
  rfl

theorem isBits_listOf {l : List Bool} {bs : List UInt8} (h : IsBits l bs) : listOf l.length bs = l := by
  apply List.ext_getElem
  · simp [listOf]
  · intro i h1 h2
    simp [listOf, h.2, h2]

theorem good_length {N : Int} {bs : List UInt8} (h : goodB N bs = true) : (((listOf N bs).length : Nat) : Int) = N := by
  obtain ⟨h0, _⟩ := (good_iff N bs).1 h
  rw [listOf_length]; omega

/-! ### What the calls make of bytes -/

theorem isBits_zeros (n : Nat) : IsBits (List.replicate n false) (List.replicate ((n + 7) / 8) 0) := by
  refine ⟨by simp, fun i => ?_⟩
  unfold bitAt
  by_cases h : i < n <;> by_cases h' : i / 8 < (n + 7) / 8 <;> simp [h, h']

/-- A byte with a bit turned. -/
def flipB (bs : List UInt8) (i : Nat) : List UInt8 := bs.set (i / 8) ((bs[i / 8]?.getD 0) ^^^ UInt8.ofNat (2 ^ (7 - i % 8)))

theorem flipB_length (bs : List UInt8) (i : Nat) : (flipB bs i).length = bs.length := by simp [flipB]

theorem bitAt_flipB (bs : List UInt8) (i j : Nat) (hi : i / 8 < bs.length) : bitAt (flipB bs i) j = (bitAt bs j != decide (i = j)) := by
  unfold bitAt flipB
  rw [List.getElem?_set]
  by_cases h : i / 8 = j / 8
  · rw [if_pos h, if_pos hi]
    simp only [Option.getD_some, h]
    have hlt : 2 ^ (7 - i % 8) < 2 ^ 8 := Nat.pow_lt_pow_right (by omega) (by omega)
    rw [UInt8.toNat_xor, UInt8.toNat_ofNat', Nat.mod_eq_of_lt hlt, Nat.testBit_xor, Nat.testBit_two_pow]
    congr 1
    by_cases e : i = j
    · simp [e]
    · simp only [e, decide_false, decide_eq_false_iff_not]; omega
  · rw [if_neg h]
    have e : i ≠ j := by rintro rfl; exact h rfl
    simp [e]

theorem isBits_flip {l : List Bool} {bs : List UInt8} (h : IsBits l bs) {i : Nat} (hi : i < l.length) : IsBits (l.set i (!(l[i]?.getD false))) (flipB bs i) := by
  refine ⟨by rw [flipB_length, List.length_set]; exact h.1, fun j => ?_⟩
  rw [bitAt_flipB bs i j (by rw [h.1]; omega), h.2, List.getElem?_set]
  by_cases e : i = j
  · subst e; simp [hi]
  · simp [e]

theorem isBits_grow {l : List Bool} {bs : List UInt8} (h : IsBits l bs) (more : Nat) : IsBits (l ++ List.replicate more false) (bs ++ List.replicate ((l.length + more + 7) / 8 - bs.length) 0) := by
  refine ⟨by have := h.1; simp; omega, fun i => ?_⟩
  have h1 : (l ++ List.replicate more false)[i]?.getD false = l[i]?.getD false := by
    rw [List.getElem?_append]
    by_cases hi : i < l.length
    · simp [hi]
    · rw [if_neg hi, List.getElem?_eq_none (l := l) (by omega), List.getElem?_replicate]; split <;> rfl
  rw [h1, ← h.2]
  unfold bitAt
  rw [List.getElem?_append]
  by_cases hi : i / 8 < bs.length
  · rw [if_pos hi]
  · rw [if_neg hi, List.getElem?_eq_none (l := bs) (by omega), List.getElem?_replicate]; split <;> rfl

/-- A number in width bits, the highest first. -/
def numBits (v width : Nat) : List Bool := (List.range width).map fun i => v.testBit (width - 1 - i)
/-- The number of bits, the highest first. -/
def numOf (l : List Bool) : Nat := l.foldl (fun a b => 2 * a + b.toNat) 0
theorem numBits_length (v width : Nat) : (numBits v width).length = width := by simp [numBits]
theorem numOf_snoc (l : List Bool) (b : Bool) : numOf (l ++ [b]) = 2 * numOf l + b.toNat := by simp [numOf]
theorem numOf_from (l : List Bool) : ∀ a : Nat, l.foldl (fun a b => 2 * a + b.toNat) a < (a + 1) * 2 ^ l.length := by
  induction l with
  | nil => intro a; simp
  | cons b l ih =>
    intro a
    rw [List.foldl_cons, List.length_cons, Nat.pow_succ]
    refine Nat.lt_of_lt_of_le (ih _) ?_
    rw [Nat.mul_comm (2 ^ l.length) 2, ← Nat.mul_assoc]
    exact Nat.mul_le_mul_right _ (by cases b <;> simp <;> omega)
theorem numOf_lt (l : List Bool) : numOf l < 2 ^ l.length := by
  have := numOf_from l 0
  simpa [numOf] using this
end Go.Proofs.Ytlkmipcenlhacaa
