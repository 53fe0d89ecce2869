/-
  The document's Slots of package cstate. No condition.
-/
import Derived.Test.YtaooonajfdbfhaaA2
namespace Go.Proofs.Ytaooonajfdbfhaa
open Go.RowKit

/-- Slots, by the document: an error and a number. -/
def slotsC (a b : CS) (n : Int) : Int × Int :=
  if checkC a n ≠ 0 then (checkC a n, 0) else if checkC b n ≠ 0 then (checkC b n, 0) else (0, (b.T * n + b.P - a.T * n - a.P + 256 * n) % (256 * n))

/-- A state that may be. -/
theorem checkC_zero {c : CS} {n : Int} (h : checkC c n = 0) : 4 ≤ n ∧ n ≤ 8 ∧ 0 ≤ c.T ∧ c.T ≤ 255 ∧ 0 ≤ c.P ∧ c.P < n ∧ 0 ≤ c.Mo ∧ c.Mo < 4 ∧ 0 ≤ c.Nx ∧ c.Nx ≤ 4 ∧ 0 ≤ c.Me ∧ c.Me < 2 ^ n.toNat := by
  unfold checkC at h
  by_cases h0 : n < 4 ∨ 8 < n
  · rw [if_pos h0] at h; omega
  · rw [if_neg h0] at h
    by_cases hm : mayC c n = true
    · unfold mayC at hm
      simp only [decide_eq_true_eq] at hm
      exact ⟨by omega, by omega, hm⟩
    · rw [if_neg hm] at h; omega

end Go.Proofs.Ytaooonajfdbfhaa
