/-
  States, and the document's Check of package cstate. No condition.
-/
import Derived.Test.YtaooonajfdbfhaaG4
namespace Go.Proofs.Ytaooonajfdbfhaa
open Go.RowKit

/-- A state. -/
structure CS where
  T : Int
  P : Int
  Mo : Int
  Nx : Int
  Me : Int
/-- Its cells. -/
def CS.cells (c : CS) : Array Value := #[.int .i64 c.T, .int .i64 c.P, .int .i64 c.Mo, .int .i64 c.Nx, .int .i64 c.Me]
/-- May it be, with n nodes? -/
def mayC (c : CS) (n : Int) : Bool := decide (0 ≤ c.T ∧ c.T ≤ 255 ∧ 0 ≤ c.P ∧ c.P < n ∧ 0 ≤ c.Mo ∧ c.Mo < 4 ∧ 0 ≤ c.Nx ∧ c.Nx ≤ 4 ∧ 0 ≤ c.Me ∧ c.Me < 2 ^ n.toNat)
/-- Check, by the document. -/
def checkC (c : CS) (n : Int) : Int := if n < 4 ∨ 8 < n then 2 else if mayC c n = true then 0 else 40

set_option maxRecDepth 8000 in
set_option maxHeartbeats 2000000 in
theorem rcheckC_any (c : CS) (n : Int) (w : World) : Calls Try.prog 31 #[.agg c.cells, .int .i64 n] w fun e w' => e = .returned (.int .i64 (checkC c n)) ∧ Below w.heap.size w w' := by
  obtain ⟨T, P, Mo, Nx, Me⟩ := c
  unfold CS.cells
  dsimp only
  have hB : Below w.heap.size w (w.alloc (.cells #[.int .i64 T, .int .i64 P, .int .i64 Mo, .int .i64 Nx, .int .i64 Me] 27)) := (Below.refl _ _).alloc (Nat.le_refl _) _
  have HB := Lib.hid hB; clear hB
  obtain ⟨R, hR⟩ : ∃ R, R = checkC ⟨T, P, Mo, Nx, Me⟩ n := ⟨_, rfl⟩
  rw [← hR]
  have HR := Lib.hid hR; clear hR
  by_cases h0 : n < 4 ∨ 8 < n
  · have hr : R = 2 := by rw [HR.out]; unfold checkC; rw [if_pos h0]
    subst hr
    by_cases h4 : n < 4
    · have d1 : decide (n < 4) = true := by simpa using h4
      clear h0
      go_enter Try.func31, Try.ntmps31
      go_wp2
      go_ret
      exact ⟨rfl, HB.out⟩
    · have d1 : decide (n < 4) = false := by simpa using h4
      have d2 : decide (8 < n) = true := by simp; omega
      clear h0
      go_enter Try.func31, Try.ntmps31
      go_wp2
      go_ret
      exact ⟨rfl, HB.out⟩
  · have d1 : decide (n < 4) = false := by simp; omega
    have d2 : decide (8 < n) = false := by simp; omega
    have hr : R = if mayC ⟨T, P, Mo, Nx, Me⟩ n = true then 0 else 40 := by rw [HR.out]; unfold checkC; rw [if_neg h0]
    have HR2 := Lib.hid hr; clear hr
    by_cases c0 : T < 0
    · have e0 : decide (T < 0) = true := by simpa using c0
      have hq : (if mayC ⟨T, P, Mo, Nx, Me⟩ n = true then (0 : Int) else 40) = 40 := by rw [if_neg]; unfold mayC; simp only [decide_eq_true_eq]; omega
      have HQ := Lib.hid hq; clear hq h0
      go_enter Try.func31, Try.ntmps31
      go_wp2
      go_ret
      rw [HR2.out, HQ.out]
      exact ⟨rfl, HB.out⟩
    · have e0 : decide (T < 0) = false := by simpa using c0
      by_cases c1 : 255 < T
      · have e1 : decide (255 < T) = true := by simpa using c1
        have hq : (if mayC ⟨T, P, Mo, Nx, Me⟩ n = true then (0 : Int) else 40) = 40 := by rw [if_neg]; unfold mayC; simp only [decide_eq_true_eq]; omega
        have HQ := Lib.hid hq; clear hq h0
        go_enter Try.func31, Try.ntmps31
        go_wp2
        go_ret
        rw [HR2.out, HQ.out]
        exact ⟨rfl, HB.out⟩
      · have e1 : decide (255 < T) = false := by simpa using c1
        by_cases c2 : P < 0
        · have e2 : decide (P < 0) = true := by simpa using c2
          have hq : (if mayC ⟨T, P, Mo, Nx, Me⟩ n = true then (0 : Int) else 40) = 40 := by rw [if_neg]; unfold mayC; simp only [decide_eq_true_eq]; omega
          have HQ := Lib.hid hq; clear hq h0
          go_enter Try.func31, Try.ntmps31
          go_wp2
          go_ret
          rw [HR2.out, HQ.out]
          exact ⟨rfl, HB.out⟩
        · have e2 : decide (P < 0) = false := by simpa using c2
          by_cases c3 : n ≤ P
          · have e3 : decide (n ≤ P) = true := by simpa using c3
            have hq : (if mayC ⟨T, P, Mo, Nx, Me⟩ n = true then (0 : Int) else 40) = 40 := by rw [if_neg]; unfold mayC; simp only [decide_eq_true_eq]; omega
            have HQ := Lib.hid hq; clear hq h0
            go_enter Try.func31, Try.ntmps31
            go_wp2
            go_ret
            rw [HR2.out, HQ.out]
            exact ⟨rfl, HB.out⟩
          · have e3 : decide (n ≤ P) = false := by simpa using c3
            by_cases c4 : Mo < 0
            · have e4 : decide (Mo < 0) = true := by simpa using c4
              have hq : (if mayC ⟨T, P, Mo, Nx, Me⟩ n = true then (0 : Int) else 40) = 40 := by rw [if_neg]; unfold mayC; simp only [decide_eq_true_eq]; omega
              have HQ := Lib.hid hq; clear hq h0
              go_enter Try.func31, Try.ntmps31
              go_wp2
              go_ret
              rw [HR2.out, HQ.out]
              exact ⟨rfl, HB.out⟩
            · have e4 : decide (Mo < 0) = false := by simpa using c4
              by_cases c5 : 4 ≤ Mo
              · have e5 : decide (4 ≤ Mo) = true := by simpa using c5
                have hq : (if mayC ⟨T, P, Mo, Nx, Me⟩ n = true then (0 : Int) else 40) = 40 := by rw [if_neg]; unfold mayC; simp only [decide_eq_true_eq]; omega
                have HQ := Lib.hid hq; clear hq h0
                go_enter Try.func31, Try.ntmps31
                go_wp2
                go_ret
                rw [HR2.out, HQ.out]
                exact ⟨rfl, HB.out⟩
              · have e5 : decide (4 ≤ Mo) = false := by simpa using c5
                by_cases c6 : Nx < 0
                · have e6 : decide (Nx < 0) = true := by simpa using c6
                  have hq : (if mayC ⟨T, P, Mo, Nx, Me⟩ n = true then (0 : Int) else 40) = 40 := by rw [if_neg]; unfold mayC; simp only [decide_eq_true_eq]; omega
                  have HQ := Lib.hid hq; clear hq h0
                  go_enter Try.func31, Try.ntmps31
                  go_wp2
                  go_ret
                  rw [HR2.out, HQ.out]
                  exact ⟨rfl, HB.out⟩
                · have e6 : decide (Nx < 0) = false := by simpa using c6
                  by_cases c7 : 4 < Nx
                  · have e7 : decide (4 < Nx) = true := by simpa using c7
                    have hq : (if mayC ⟨T, P, Mo, Nx, Me⟩ n = true then (0 : Int) else 40) = 40 := by rw [if_neg]; unfold mayC; simp only [decide_eq_true_eq]; omega
                    have HQ := Lib.hid hq; clear hq h0
                    go_enter Try.func31, Try.ntmps31
                    go_wp2
                    go_ret
                    rw [HR2.out, HQ.out]
                    exact ⟨rfl, HB.out⟩
                  · have e7 : decide (4 < Nx) = false := by simpa using c7
                    by_cases c8 : Me < 0
                    · have e8 : decide (Me < 0) = true := by simpa using c8
                      have hq : (if mayC ⟨T, P, Mo, Nx, Me⟩ n = true then (0 : Int) else 40) = 40 := by rw [if_neg]; unfold mayC; simp only [decide_eq_true_eq]; omega
                      have HQ := Lib.hid hq; clear hq h0
                      go_enter Try.func31, Try.ntmps31
                      go_wp2
                      go_ret
                      rw [HR2.out, HQ.out]
                      exact ⟨rfl, HB.out⟩
                    · have e8 : decide (Me < 0) = false := by simpa using c8
                      have hn : n = 4 ∨ n = 5 ∨ n = 6 ∨ n = 7 ∨ n = 8 := by omega
                      clear h0
                      rcases hn with rfl | rfl | rfl | rfl | rfl
                      · have hp : (2 : Int) ^ (4 : Int).toNat = 16 := by decide
                        by_cases c9 : 16 ≤ Me
                        · have e9 : decide (16 ≤ Me) = true := by simpa using c9
                          have hq : (if mayC ⟨T, P, Mo, Nx, Me⟩ 4 = true then (0 : Int) else 40) = 40 := by rw [if_neg]; unfold mayC; simp only [decide_eq_true_eq, hp]; omega
                          have HQ := Lib.hid hq; clear hq
                          go_enter Try.func31, Try.ntmps31
                          go_wp2
                          go_ret
                          rw [HR2.out, HQ.out]
                          exact ⟨rfl, HB.out⟩
                        · have e9 : decide (16 ≤ Me) = false := by simpa using c9
                          have hq : (if mayC ⟨T, P, Mo, Nx, Me⟩ 4 = true then (0 : Int) else 40) = 0 := by rw [if_pos]; unfold mayC; simp only [decide_eq_true_eq, hp]; omega
                          have HQ := Lib.hid hq; clear hq
                          go_enter Try.func31, Try.ntmps31
                          go_wp2
                          go_ret
                          rw [HR2.out, HQ.out]
                          exact ⟨rfl, HB.out⟩
                      · have hp : (2 : Int) ^ (5 : Int).toNat = 32 := by decide
                        by_cases c9 : 32 ≤ Me
                        · have e9 : decide (32 ≤ Me) = true := by simpa using c9
                          have hq : (if mayC ⟨T, P, Mo, Nx, Me⟩ 5 = true then (0 : Int) else 40) = 40 := by rw [if_neg]; unfold mayC; simp only [decide_eq_true_eq, hp]; omega
                          have HQ := Lib.hid hq; clear hq
                          go_enter Try.func31, Try.ntmps31
                          go_wp2
                          go_ret
                          rw [HR2.out, HQ.out]
                          exact ⟨rfl, HB.out⟩
                        · have e9 : decide (32 ≤ Me) = false := by simpa using c9
                          have hq : (if mayC ⟨T, P, Mo, Nx, Me⟩ 5 = true then (0 : Int) else 40) = 0 := by rw [if_pos]; unfold mayC; simp only [decide_eq_true_eq, hp]; omega
                          have HQ := Lib.hid hq; clear hq
                          go_enter Try.func31, Try.ntmps31
                          go_wp2
                          go_ret
                          rw [HR2.out, HQ.out]
                          exact ⟨rfl, HB.out⟩
                      · have hp : (2 : Int) ^ (6 : Int).toNat = 64 := by decide
                        by_cases c9 : 64 ≤ Me
                        · have e9 : decide (64 ≤ Me) = true := by simpa using c9
                          have hq : (if mayC ⟨T, P, Mo, Nx, Me⟩ 6 = true then (0 : Int) else 40) = 40 := by rw [if_neg]; unfold mayC; simp only [decide_eq_true_eq, hp]; omega
                          have HQ := Lib.hid hq; clear hq
                          go_enter Try.func31, Try.ntmps31
                          go_wp2
                          go_ret
                          rw [HR2.out, HQ.out]
                          exact ⟨rfl, HB.out⟩
                        · have e9 : decide (64 ≤ Me) = false := by simpa using c9
                          have hq : (if mayC ⟨T, P, Mo, Nx, Me⟩ 6 = true then (0 : Int) else 40) = 0 := by rw [if_pos]; unfold mayC; simp only [decide_eq_true_eq, hp]; omega
                          have HQ := Lib.hid hq; clear hq
                          go_enter Try.func31, Try.ntmps31
                          go_wp2
                          go_ret
                          rw [HR2.out, HQ.out]
                          exact ⟨rfl, HB.out⟩
                      · have hp : (2 : Int) ^ (7 : Int).toNat = 128 := by decide
                        by_cases c9 : 128 ≤ Me
                        · have e9 : decide (128 ≤ Me) = true := by simpa using c9
                          have hq : (if mayC ⟨T, P, Mo, Nx, Me⟩ 7 = true then (0 : Int) else 40) = 40 := by rw [if_neg]; unfold mayC; simp only [decide_eq_true_eq, hp]; omega
                          have HQ := Lib.hid hq; clear hq
                          go_enter Try.func31, Try.ntmps31
                          go_wp2
                          go_ret
                          rw [HR2.out, HQ.out]
                          exact ⟨rfl, HB.out⟩
                        · have e9 : decide (128 ≤ Me) = false := by simpa using c9
                          have hq : (if mayC ⟨T, P, Mo, Nx, Me⟩ 7 = true then (0 : Int) else 40) = 0 := by rw [if_pos]; unfold mayC; simp only [decide_eq_true_eq, hp]; omega
                          have HQ := Lib.hid hq; clear hq
                          go_enter Try.func31, Try.ntmps31
                          go_wp2
                          go_ret
                          rw [HR2.out, HQ.out]
                          exact ⟨rfl, HB.out⟩
                      · have hp : (2 : Int) ^ (8 : Int).toNat = 256 := by decide
                        by_cases c9 : 256 ≤ Me
                        · have e9 : decide (256 ≤ Me) = true := by simpa using c9
                          have hq : (if mayC ⟨T, P, Mo, Nx, Me⟩ 8 = true then (0 : Int) else 40) = 40 := by rw [if_neg]; unfold mayC; simp only [decide_eq_true_eq, hp]; omega
                          have HQ := Lib.hid hq; clear hq
                          go_enter Try.func31, Try.ntmps31
                          go_wp2
                          go_ret
                          rw [HR2.out, HQ.out]
                          exact ⟨rfl, HB.out⟩
                        · have e9 : decide (256 ≤ Me) = false := by simpa using c9
                          have hq : (if mayC ⟨T, P, Mo, Nx, Me⟩ 8 = true then (0 : Int) else 40) = 0 := by rw [if_pos]; unfold mayC; simp only [decide_eq_true_eq, hp]; omega
                          have HQ := Lib.hid hq; clear hq
                          go_enter Try.func31, Try.ntmps31
                          go_wp2
                          go_ret
                          rw [HR2.out, HQ.out]
                          exact ⟨rfl, HB.out⟩
end Go.Proofs.Ytaooonajfdbfhaa
