/-
  Contracts of the small functions of package member and of the document: a node's bit, whether a number is a node's, a count, whether a node is in a set, one more. Conditions: those that each theorem names.
-/
import Derived.Test.YtffbhdllepjdeaaVA
namespace Go.Proofs.Ytffbhdllepjdeaa
open Go.RowKit

theorem nine {n : Int} (h : 0 ≤ n ∧ n ≤ 8) : n = 0 ∨ n = 1 ∨ n = 2 ∨ n = 3 ∨ n = 4 ∨ n = 5 ∨ n = 6 ∨ n = 7 ∨ n = 8 := by omega
theorem pw_wrap {n : Int} (h : 0 ≤ n ∧ n ≤ 8) : IntKind.i64.wrap (2 ^ n.toNat) = pw n := by
  rcases nine h with rfl | rfl | rfl | rfl | rfl | rfl | rfl | rfl | rfl <;> decide

set_option maxRecDepth 4000 in
set_option maxHeartbeats 400000 in
theorem vbit_any (n : Int) (w : World) (h0 : 0 ≤ n) (h1 : n ≤ 8) : Calls Try.prog 37 #[.int .i64 n] w fun e w' => e = .returned (.int .i64 (pw n)) ∧ w = w' := by
  have hp := pw_wrap ⟨h0, h1⟩
  go_enter Try.func37, Try.ntmps37
  go_wp2
  go_ret
  exact ⟨rfl, rfl⟩
set_option maxRecDepth 4000 in
set_option maxHeartbeats 400000 in
theorem rvbit_any (n : Int) (w : World) (h0 : 0 ≤ n) (h1 : n ≤ 8) : Calls Try.prog 34 #[.int .i64 n] w fun e w' => e = .returned (.int .i64 (pw n)) ∧ w = w' := by
  have hp := pw_wrap ⟨h0, h1⟩
  go_enter Try.func34, Try.ntmps34
  go_wp2
  go_ret
  exact ⟨rfl, rfl⟩
set_option maxRecDepth 4000 in
set_option maxHeartbeats 400000 in
theorem visNode_any (k n : Int) (w : World) : Calls Try.prog 39 #[.int .i64 k, .int .i64 n] w fun e w' => e = .returned (.bool (decide (0 ≤ k ∧ k < n))) ∧ w = w' := by
  by_cases h0 : 0 ≤ k
  · have d0 : decide (0 ≤ k) = true := by simpa using h0
    by_cases h1 : k < n
    · have hq : decide (0 ≤ k ∧ k < n) = true := by simp; omega
      have d1 : decide (k < n) = true := by simpa using h1
      rw [hq]; clear hq
      go_enter Try.func39, Try.ntmps39
      go_wp2
      go_ret
      exact ⟨rfl, rfl⟩
    · have hq : decide (0 ≤ k ∧ k < n) = false := by simp; omega
      have d1 : decide (k < n) = false := by simpa using h1
      rw [hq]; clear hq
      go_enter Try.func39, Try.ntmps39
      go_wp2
      go_ret
      exact ⟨rfl, rfl⟩
  · have hq : decide (0 ≤ k ∧ k < n) = false := by simp; omega
    have d0 : decide (0 ≤ k) = false := by simpa using h0
    rw [hq]; clear hq
    go_enter Try.func39, Try.ntmps39
    go_wp2
    go_ret
    exact ⟨rfl, rfl⟩
set_option maxRecDepth 4000 in
set_option maxHeartbeats 400000 in
theorem visCount_any (k : Int) (w : World) : Calls Try.prog 40 #[.int .i64 k] w fun e w' => e = .returned (.bool (decide (0 ≤ k ∧ k ≤ 1048576))) ∧ w = w' := by
  by_cases h0 : 0 ≤ k
  · have d0 : decide (0 ≤ k) = true := by simpa using h0
    by_cases h1 : k ≤ 1048576
    · have hq : decide (0 ≤ k ∧ k ≤ 1048576) = true := by simp; omega
      have d1 : decide (k ≤ 1048576) = true := by simpa using h1
      rw [hq]; clear hq
      go_enter Try.func40, Try.ntmps40
      go_wp2
      go_ret
      exact ⟨rfl, rfl⟩
    · have hq : decide (0 ≤ k ∧ k ≤ 1048576) = false := by simp; omega
      have d1 : decide (k ≤ 1048576) = false := by simpa using h1
      rw [hq]; clear hq
      go_enter Try.func40, Try.ntmps40
      go_wp2
      go_ret
      exact ⟨rfl, rfl⟩
  · have hq : decide (0 ≤ k ∧ k ≤ 1048576) = false := by simp; omega
    have d0 : decide (0 ≤ k) = false := by simpa using h0
    rw [hq]; clear hq
    go_enter Try.func40, Try.ntmps40
    go_wp2
    go_ret
    exact ⟨rfl, rfl⟩
set_option maxRecDepth 4000 in
set_option maxHeartbeats 400000 in
theorem vhas_any (s k : Int) (w : World) (h0 : 0 ≤ k) (h1 : k ≤ 8) : Calls Try.prog 41 #[.int .i64 s, .int .i64 k] w fun e w' => e = .returned (.bool (hasI s k)) ∧ w = w' := by
  unfold hasI
  go_enter Try.func41, Try.ntmps41
  go_wp2_with fail
  refine (vbit_any k _ h0 h1).mono ?_
  rintro e w1 ⟨rfl, rfl⟩
  go_wp2
  go_ret
  exact ⟨rfl, rfl⟩
set_option maxRecDepth 4000 in
set_option maxHeartbeats 400000 in
theorem vmore_any (n : Int) (w : World) (h0 : 0 ≤ n) (h1 : n ≤ 1048576) : Calls Try.prog 43 #[.int .i64 n] w fun e w' => e = .returned (.int .i64 (moreV n)) ∧ w = w' := by
  unfold moreV
  by_cases h : n + 1 ≤ 1048576
  · rw [Int.min_eq_left h]
    go_enter Try.func43, Try.ntmps43
    go_wp2
    all_goals first | (exfalso; omega) | (go_ret; exact ⟨by first | rfl | (congr 2; omega), rfl⟩)
  · rw [Int.min_eq_right (by omega)]
    go_enter Try.func43, Try.ntmps43
    go_wp2
    all_goals first | (exfalso; omega) | (go_ret; exact ⟨by first | rfl | (congr 2; omega), rfl⟩)
set_option maxRecDepth 4000 in
set_option maxHeartbeats 400000 in
theorem rvmore_any (n : Int) (w : World) (h0 : 0 ≤ n) (h1 : n ≤ 1048576) : Calls Try.prog 45 #[.int .i64 n] w fun e w' => e = .returned (.int .i64 (moreV n)) ∧ w = w' := by
  unfold moreV
  by_cases h : n + 1 ≤ 1048576
  · rw [Int.min_eq_left h]
    go_enter Try.func45, Try.ntmps45
    go_wp2
    all_goals first | (exfalso; omega) | (go_ret; exact ⟨by first | rfl | (congr 2; omega), rfl⟩)
  · rw [Int.min_eq_right (by omega)]
    go_enter Try.func45, Try.ntmps45
    go_wp2
    all_goals first | (exfalso; omega) | (go_ret; exact ⟨by first | rfl | (congr 2; omega), rfl⟩)
end Go.Proofs.Ytffbhdllepjdeaa
