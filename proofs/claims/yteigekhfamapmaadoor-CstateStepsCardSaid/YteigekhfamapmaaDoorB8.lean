/-
  Plain facts of a round of states: what comes of a state that may be may be, how far one is from the next, a member more and a member less. No condition.
-/
import Derived.Test.YteigekhfamapmaaDoorB7
namespace Go.Proofs.YteigekhfamapmaaDoor
open Go.RowKit

theorem Blk.put5 {w : World} {g : Nat} {t : TypeId} {a b c d e : Value} (h : Blk w g t #[a, b, c, d, e]) (v0 v1 v2 v3 v4 : Value) : Blk (((((w.setCell ⟨g, 0, none⟩ v0).setCell ⟨g, 1, none⟩ v1).setCell ⟨g, 2, none⟩ v2).setCell ⟨g, 3, none⟩ v3).setCell ⟨g, 4, none⟩ v4) g t #[v0, v1, v2, v3, v4] := by
  simpa using ((((h.set_ 0 v0).set_ 1 v1).set_ 2 v2).set_ 3 v3).set_ 4 v4
theorem Blk.far5 {W : World} {g g' : Nat} {t : TypeId} {cs : Array Value} (h : Blk W g t cs) (hne : g ≠ g') (v0 v1 v2 v3 v4 : Value) : Blk (((((W.setCell ⟨g', 0, none⟩ v0).setCell ⟨g', 1, none⟩ v1).setCell ⟨g', 2, none⟩ v2).setCell ⟨g', 3, none⟩ v3).setCell ⟨g', 4, none⟩ v4) g t cs :=
  ((((h.far (p := ⟨g', 0, none⟩) hne _).far (p := ⟨g', 1, none⟩) hne _).far (p := ⟨g', 2, none⟩) hne _).far (p := ⟨g', 3, none⟩) hne _).far (p := ⟨g', 4, none⟩) hne _
theorem Below.put5 {w W : World} {n : Nat} (h : Below n w W) {g : Nat} (hg : n ≤ g) (v0 v1 v2 v3 v4 : Value) : Below n w (((((W.setCell ⟨g, 0, none⟩ v0).setCell ⟨g, 1, none⟩ v1).setCell ⟨g, 2, none⟩ v2).setCell ⟨g, 3, none⟩ v3).setCell ⟨g, 4, none⟩ v4) :=
  ((((h.setCell (p := ⟨g, 0, none⟩) hg _).setCell (p := ⟨g, 1, none⟩) hg _).setCell (p := ⟨g, 2, none⟩) hg _).setCell (p := ⟨g, 3, none⟩) hg _).setCell (p := ⟨g, 4, none⟩) hg _

/-- A state that may be. -/
theorem checkC_of {c : CS} {n : Int} (h4 : 4 ≤ n) (h8 : n ≤ 8) (h : 0 ≤ c.T ∧ c.T ≤ 255 ∧ 0 ≤ c.P ∧ c.P < n ∧ 0 ≤ c.Mo ∧ c.Mo < 4 ∧ 0 ≤ c.Nx ∧ c.Nx ≤ 4 ∧ 0 ≤ c.Me ∧ c.Me < 2 ^ n.toNat) : checkC c n = 0 := by
  unfold checkC mayC
  rw [if_neg (by omega), if_pos (by simpa using h)]
/-- The state k slots behind a state. -/
def atC (c : CS) (n : Int) (k : Nat) : CS := if c.P + k < n then ⟨c.T, c.P + k, c.Mo, c.Nx, c.Me⟩ else ⟨(c.T + 1) % 256, c.P + k - n, if c.Nx = 0 then c.Mo else c.Nx - 1, 0, c.Me⟩
theorem atC_zero {c : CS} {n : Int} (h : c.P < n) : atC c n 0 = c := by
  unfold atC
  rw [if_pos (by omega)]
  simp
theorem atC_next {c : CS} {n : Int} (h : c.P < n) {k : Nat} (hk : (k : Int) < n) : goneC (atC c n k) n = atC c n (k + 1) := by
  unfold atC
  by_cases h1 : c.P + k < n
  · rw [if_pos h1]
    by_cases h2 : c.P + ((k + 1 : Nat) : Int) < n
    · rw [if_pos h2]
      unfold goneC
      dsimp only
      rw [if_pos (by omega)]
      simp only [CS.mk.injEq, true_and, and_true]
      omega
    · rw [if_neg h2]
      unfold goneC
      dsimp only
      rw [if_neg (by omega)]
      simp only [CS.mk.injEq, true_and, and_true]
      omega
  · have h2 : ¬ (c.P + ((k + 1 : Nat) : Int) < n) := by omega
    rw [if_neg h1, if_neg h2]
    unfold goneC
    dsimp only
    rw [if_pos (by omega)]
    simp only [CS.mk.injEq, true_and, and_true]
    omega
theorem atC_full {c : CS} {n : Int} (h0 : 0 ≤ c.P) (hn : 0 ≤ n) : atC c n n.toNat = ⟨(c.T + 1) % 256, c.P, if c.Nx = 0 then c.Mo else c.Nx - 1, 0, c.Me⟩ := by
  unfold atC
  rw [if_neg (by omega)]
  simp only [CS.mk.injEq, true_and, and_true]
  omega
theorem gone_may {c : CS} {n : Int} (h : checkC c n = 0) : checkC (goneC c n) n = 0 := by
  obtain ⟨n0, n1, t0, t1, p0, p1, m0, m1, x0, x1, e0, e1⟩ := checkC_zero h
  unfold goneC
  by_cases hp : c.P + 1 < n
  · rw [if_pos hp]
    exact checkC_of n0 n1 ⟨t0, t1, by dsimp only; omega, hp, m0, m1, x0, x1, e0, e1⟩
  · rw [if_neg hp]
    refine checkC_of n0 n1 ⟨?_, ?_, ?_, ?_, ?_, ?_, ?_, ?_, e0, e1⟩ <;> dsimp only
    · omega
    · omega
    · omega
    · omega
    · by_cases hx : c.Nx = 0
      · rw [if_pos hx]; exact m0
      · rw [if_neg hx]; omega
    · by_cases hx : c.Nx = 0
      · rw [if_pos hx]; exact m1
      · rw [if_neg hx]; omega
    · omega
    · omega
theorem gone_slots {c : CS} {n : Int} (h : checkC c n = 0) : slotsC c (goneC c n) n = (0, 1) := by
  unfold slotsC
  rw [if_neg (by rw [h]; simp), if_neg (by rw [gone_may h]; simp)]
  obtain ⟨n0, n1, t0, t1, p0, p1, -⟩ := checkC_zero h
  refine Prod.ext rfl ?_
  dsimp only
  unfold goneC
  by_cases hp : c.P + 1 < n
  · rw [if_pos hp]
    dsimp only
    rw [show c.T * n + (c.P + 1) - c.T * n - c.P + 256 * n = 1 + 256 * n by omega, Int.add_emod_right, Int.emod_eq_of_lt (by omega) (by omega)]
  · rw [if_neg hp]
    dsimp only
    by_cases ht : c.T = 255
    · rw [ht]
      rw [show ((255 + 1) % 256 * n + 0 - 255 * n - c.P + 256 * n : Int) = 1 from by omega, Int.emod_eq_of_lt (by omega) (by omega)]
    · rw [show (c.T + 1) % 256 = c.T + 1 by omega, Int.add_mul]
      rw [show (c.T * n + 1 * n + 0 - c.T * n - c.P + 256 * n : Int) = 1 + 256 * n by omega, Int.add_emod_right, Int.emod_eq_of_lt (by omega) (by omega)]
set_option maxRecDepth 100000 in
theorem with_all : ∀ k : Fin 8, ∀ m : Fin 256, (bits .or .i64 (m.val : Int) (2 ^ k.val) = ((m.val ||| 2 ^ k.val : Nat) : Int)) ∧ (bits .andNot .i64 (m.val : Int) (2 ^ k.val) = ((m.val &&& (255 - 2 ^ k.val) : Nat) : Int)) ∧ (m.val ||| 2 ^ k.val) / 2 ^ k.val % 2 = 1 ∧ (m.val &&& (255 - 2 ^ k.val)) / 2 ^ k.val % 2 = 0 := by decide +kernel
theorem with_may {c : CS} {n k : Int} (h : checkC c n = 0) (hk : 0 ≤ k ∧ k < n) : checkC (withC c k) n = 0 ∧ checkC (withoutC c k) n = 0 ∧ hasC (withC c k) k = true ∧ hasC (withoutC c k) k = false := by
  obtain ⟨n0, n1, t0, t1, p0, p1, m0, m1, x0, x1, e0, e1⟩ := checkC_zero h
  have hk8 : 0 ≤ k ∧ k < 8 := by omega
  obtain ⟨m, hm⟩ := Int.eq_ofNat_of_zero_le e0
  obtain ⟨j, hj⟩ := Int.eq_ofNat_of_zero_le hk.1
  have hj8 : j < 8 := by omega
  have hmn : m < 2 ^ n.toNat := by rw [hm] at e1; exact_mod_cast e1
  have hm8 : m < 256 := Nat.lt_of_lt_of_le hmn (Nat.le_trans (Nat.pow_le_pow_right (by decide) (by omega)) (by decide : 2 ^ 8 ≤ 256))
  obtain ⟨q1, q2, q3, q4⟩ := with_all ⟨j, hj8⟩ ⟨m, hm8⟩
  dsimp only at q1 q2 q3 q4
  have hjt : k.toNat = j := by omega
  have hor : m ||| 2 ^ j < 2 ^ n.toNat := Nat.or_lt_two_pow hmn (Nat.pow_lt_pow_right (by decide) (by omega))
  have han : m &&& (255 - 2 ^ j) < 2 ^ n.toNat := Nat.lt_of_le_of_lt Nat.and_le_left hmn
  unfold withC withoutC hasC hasB
  rw [if_pos hk8, if_pos hk8, hm, hjt, q1, q2]
  refine ⟨checkC_of n0 n1 ⟨t0, t1, p0, p1, m0, m1, x0, x1, by dsimp only; omega, by dsimp only; exact_mod_cast hor⟩, checkC_of n0 n1 ⟨t0, t1, p0, p1, m0, m1, x0, x1, by dsimp only; omega, by dsimp only; exact_mod_cast han⟩, ?_, ?_⟩
  · rw [decide_eq_true hk8, Bool.true_and, decide_eq_true_eq]
    dsimp only
    exact_mod_cast q3
  · rw [decide_eq_true hk8, Bool.true_and, decide_eq_false_iff_not]
    intro hx
    dsimp only at hx
    have : ((m &&& (255 - 2 ^ j)) / 2 ^ j % 2 : Nat) = 1 := by exact_mod_cast hx
    omega
end Go.Proofs.YteigekhfamapmaaDoor
