/-
  The remainder bit by bit and four bits at once: plain facts, and the contracts of behindBit and behindFour of package crc. Conditions: a remainder of 24 bits, and that the table holds what the program's text lays.
-/
import Derived.Test.YtnmaelefcohogaaDoorC0
import Derived.Laws.BitsAllLaws
namespace Go.Proofs.YtnmaelefcohogaaDoor
open Go.RowKit

/-- The table that the program's text lays. -/
def tabL : List Int := [0, 6122955, 12245910, 15185501, 2677479, 7714604, 9568625, 13593786, 5354958, 841733, 15429208, 11928467, 7958313, 2360034, 12825791, 10410356]
/-- The table's cells hold it. -/
def Tab (w : World) : Prop := 0 < w.heap.size ∧ 0 < w.heap.size ∧ ∀ i, i < 16 → w.cell? ⟨0, i, none⟩ = some (.int .u32 (tabL.getD i 0))
theorem Tab.below {B : Nat} {w w' : World} (h : Tab w) (hb : Below B w w') (hB : w.heap.size ≤ B ∨ 0 < B) : Tab w' :=
  have hlt : 0 < B := by
    rcases hB with h1 | h1
    · exact Nat.lt_of_lt_of_le h.2.1 h1
    · exact h1
  have hs : 0 < w'.heap.size := Nat.lt_of_lt_of_le h.2.1 hb.size
  ⟨by omega, hs, fun i hi => (hb.cell (p := ⟨0, i, none⟩) hlt).trans (h.2.2 i hi)⟩

/-- The remainder behind bits, at first r. -/
abbrev rem (r : Nat) (l : List Bool) : Nat := crcOver 6122955 r l
theorem poly_odd : 6122955 % 2 = 1 := by decide
theorem poly_lt : 6122955 < 2 ^ 24 := by decide
theorem rem_lt (l : List Bool) (r : Nat) (h : r < 2 ^ 24) : rem r l < 2 ^ 24 := crcOver_lt poly_lt l r h

theorem low_four (s : Nat) (h : s < 2 ^ 20) : rem s [false, false, false, false] = 16 * s := by
  have one : ∀ x : Nat, x < 2 ^ 23 → crc1 6122955 x false = 2 * x := fun x hx => by
    unfold crc1
    rw [Nat.testBit_lt_two_pow hx]
    simp
    omega
  unfold rem
  rw [crcOver_cons, crcOver_cons, crcOver_cons, crcOver_cons, crcOver_nil, one s (by omega), one (2 * s) (by omega), one (2 * (2 * s)) (by omega), one (2 * (2 * (2 * s))) (by omega)]
  omega
theorem high_four : ∀ h : Fin 16, ∀ f : Fin 16, ((rem (h.val * 2 ^ 20) (numBits f.val 4) : Nat) : Int) = tabL.getD (h.val ^^^ f.val) 0 := by decide +kernel
theorem split20 (s : Nat) : s = (s % 2 ^ 20) ^^^ (s / 2 ^ 20 * 2 ^ 20) := by
  apply Nat.eq_of_testBit_eq
  intro i
  rw [Nat.testBit_xor, Nat.testBit_mod_two_pow, Nat.testBit_mul_two_pow, Nat.testBit_div_two_pow]
  by_cases h : i < 20
  · simp [h, Nat.not_le.2 h]
  · have h2 : 20 ≤ i := by omega
    simp [h, h2]
theorem zip_false (l : List Bool) : List.zipWith (· ^^ ·) (List.replicate l.length false) l = l := by
  apply List.ext_getElem
  · simp
  · intro i h1 h2; simp
/-- Four bits at once. -/
theorem four_at_once (s f : Nat) (hs : s < 2 ^ 24) (hf : f < 16) : ∃ t : Nat, tabL.getD (s / 2 ^ 20 ^^^ f) 0 = (t : Int) ∧ t < 2 ^ 24 ∧ rem s (numBits f 4) = (16 * s % 2 ^ 24) ^^^ t := by
  have hh : s / 2 ^ 20 < 16 := by omega
  refine ⟨rem (s / 2 ^ 20 * 2 ^ 20) (numBits f 4), (high_four ⟨s / 2 ^ 20, hh⟩ ⟨f, hf⟩).symm, rem_lt _ _ (by omega), ?_⟩
  have hx := crcOver_xor 6122955 [false, false, false, false] (numBits f 4) (s % 2 ^ 20) (s / 2 ^ 20 * 2 ^ 20) (by rw [numBits_length]; rfl)
  have hz : List.zipWith (· ^^ ·) [false, false, false, false] (numBits f 4) = numBits f 4 := by
    have := zip_false (numBits f 4)
    rw [numBits_length] at this
    exact this
  rw [← split20, hz] at hx
  have hl := low_four (s % 2 ^ 20) (by omega)
  unfold rem at hl ⊢
  rw [hx, hl]
  congr 1
  omega

theorem u32_mask (x : Nat) (h : x < 4294967296) : bits .and .u32 (x : Int) 16777215 = ((x % 2 ^ 24 : Nat) : Int) := by
  rw [show (16777215 : Int) = ((16777215 : Nat) : Int) from rfl, u32_and_nat _ _ h (by omega)]
  congr 1
  exact Nat.and_two_pow_sub_one_eq_mod x 24
theorem bool_nat (b : Bool) : (b.toNat : Nat) < 2 := by cases b <;> decide

set_option maxHeartbeats 400000 in
theorem behindBit_any (s : Nat) (b : Bool) (w : World) (hs : s < 2 ^ 24) :
    Calls Tryd.prog 74 #[.int .u32 s, .int .u32 b.toNat] w fun e w' => e = .returned (.int .u32 (crc1 6122955 s b : Nat)) ∧ w = w' := by
  have hb := bool_nat b
  have hx : bits .xor .u32 ((s : Int) / 8388608) (b.toNat : Int) = ((s / 2 ^ 23 ^^^ b.toNat : Nat) : Int) := by
    rw [show ((s : Int) / 8388608) = ((s / 2 ^ 23 : Nat) : Int) by omega, u32_xor_nat _ _ (by omega) (by omega)]
  have ha : bits .and .u32 ((s : Int) * 2) 16777215 = ((2 * s % 2 ^ 24 : Nat) : Int) := by
    rw [show ((s : Int) * 2) = ((2 * s : Nat) : Int) by omega, u32_mask _ (by omega)]
  have hp : bits .xor .u32 ((2 * s % 2 ^ 24 : Nat) : Int) 6122955 = (((2 * s % 2 ^ 24) ^^^ 6122955 : Nat) : Int) := by
    rw [show (6122955 : Int) = ((6122955 : Nat) : Int) from rfl, u32_xor_nat _ _ (by omega) (by omega)]
  have ht : s.testBit 23 = decide (s / 2 ^ 23 = 1) := by
    rw [Nat.testBit_eq_decide_div_mod_eq, Nat.mod_eq_of_lt (by omega)]
  have hc : (((s / 2 ^ 23 ^^^ b.toNat : Nat) : Int) == 1) = (s.testBit 23 != b) := by
    rw [ht]
    have : s / 2 ^ 23 = 0 ∨ s / 2 ^ 23 = 1 := by omega
    rcases this with h | h <;> rw [h] <;> cases b <;> rfl
  unfold crc1
  rw [← hc, ← hx]
  clear ht hc hx
  generalize 2 * s % 2 ^ 24 ^^^ 6122955 = x at *
  generalize 2 * s % 2 ^ 24 = m at *
  by_cases h : (bits .xor .u32 ((s : Int) / 8388608) (b.toNat : Int) == 1) = true
  · rw [if_pos h]
    go_enter Tryd.func74, Tryd.ntmps74
    go_wp2
    go_ret
    exact ⟨rfl, rfl⟩
  · rw [if_neg h]
    rw [Bool.not_eq_true] at h
    go_enter Tryd.func74, Tryd.ntmps74
    go_wp2
    go_ret
    exact ⟨rfl, rfl⟩

set_option maxHeartbeats 400000 in
theorem behindFour_any (s f : Nat) (w : World) (hs : s < 2 ^ 24) (hf : f < 16) (hT : Tab w) :
    Calls Tryd.prog 73 #[.int .u32 s, .int .u32 f] w fun e w' => e = .returned (.int .u32 (rem s (numBits f 4) : Nat)) ∧ w = w' := by
  have hx : bits .xor .u32 ((s : Int) / 1048576) (f : Int) = ((s / 2 ^ 20 ^^^ f : Nat) : Int) := by
    rw [show ((s : Int) / 1048576) = ((s / 2 ^ 20 : Nat) : Int) by omega, u32_xor_nat _ _ (by omega) (by omega)]
  have ha : bits .and .u32 ((s : Int) * 16) 16777215 = ((16 * s % 2 ^ 24 : Nat) : Int) := by
    rw [show ((s : Int) * 16) = ((16 * s : Nat) : Int) by omega, u32_mask _ (by omega)]
  obtain ⟨t, ht, htl, hr⟩ := four_at_once s f hs hf
  have hlt : s / 2 ^ 20 ^^^ f < 16 := Nat.xor_lt_two_pow (n := 4) (by omega) (by omega)
  have hcell := hT.2.2 _ hlt
  rw [ht] at hcell
  rw [hr]
  clear hr ht hT
  have hp : bits .xor .u32 ((16 * s % 2 ^ 24 : Nat) : Int) (t : Int) = (((16 * s % 2 ^ 24) ^^^ t : Nat) : Int) := u32_xor_nat _ _ (by omega) (by omega)
  generalize s / 2 ^ 20 ^^^ f = k at *
  have h0 : (0 : Int) ≤ (k : Int) := by omega
  have h1 : (k : Int) < 16 := by omega
  have h2 : ((k : Int)).toNat = k := by omega
  generalize ((16 * s % 2 ^ 24) ^^^ t) = res at *
  generalize 16 * s % 2 ^ 24 = m at *
  go_enter Tryd.func73, Tryd.ntmps73
  go_wp2
  go_ret
  exact ⟨rfl, rfl⟩
end Go.Proofs.YtnmaelefcohogaaDoor
