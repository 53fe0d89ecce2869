/-
  Contracts of the small functions of package cstate: a state's fields as an array and back, the first numbers that they may not be, a state's slot, whether a number is a node's. Conditions: those that each theorem names.
-/
import Derived.Test.YteigekhfamapmaaDoorA4
namespace Go.Proofs.YteigekhfamapmaaDoor
open Go.RowKit

set_option maxRecDepth 8000 in
set_option maxHeartbeats 400000 in
theorem values_any (c : CS) (w : World) : Calls Tryd.prog 30 #[.agg c.cells] w fun e w' => e = .returned (.agg c.cells) ∧ Below w.heap.size w w' := by
  obtain ⟨T, P, Mo, Nx, Me⟩ := c
  unfold CS.cells
  dsimp only
  go_enter Tryd.func30, Tryd.ntmps30
  go_wp2
  exact bodyPost_ret (v := .agg #[.int .i64 T, .int .i64 P, .int .i64 Mo, .int .i64 Nx, .int .i64 Me]) (by simp [results, Tryd.results30, go_sem]) rfl ⟨rfl, ((Below.refl _ _).alloc (Nat.le_refl _) _).alloc (by simp) _⟩

set_option maxRecDepth 8000 in
set_option maxHeartbeats 400000 in
theorem stateOf_any (c : CS) (w : World) : Calls Tryd.prog 35 #[.agg c.cells] w fun e w' => e = .returned (.agg c.cells) ∧ Below w.heap.size w w' := by
  obtain ⟨T, P, Mo, Nx, Me⟩ := c
  unfold CS.cells
  dsimp only
  go_enter Tryd.func35, Tryd.ntmps35
  go_wp2
  exact bodyPost_ret (v := .agg #[.int .i64 T, .int .i64 P, .int .i64 Mo, .int .i64 Nx, .int .i64 Me]) (by simp [results, Tryd.results35, go_sem]) rfl ⟨rfl, ((Below.refl _ _).alloc (Nat.le_refl _) _).alloc (by simp) _⟩

/-- The first numbers that the fields may not be. -/
def endsC (n : Int) : CS := ⟨256, n, 4, 5, 2 ^ n.toNat⟩
set_option maxRecDepth 8000 in
set_option maxHeartbeats 400000 in
theorem ends_any (n : Int) (w : World) (h0 : 4 ≤ n) (h1 : n ≤ 8) : Calls Tryd.prog 39 #[.int .i64 n] w fun e w' => e = .returned (.agg (endsC n).cells) ∧ Below w.heap.size w w' := by
  have hn : n = 4 ∨ n = 5 ∨ n = 6 ∨ n = 7 ∨ n = 8 := by omega
  clear h0 h1
  unfold endsC CS.cells
  dsimp only
  rcases hn with rfl | rfl | rfl | rfl | rfl
  · go_enter Tryd.func39, Tryd.ntmps39
    go_wp2
    exact bodyPost_ret (v := .agg #[.int .i64 256, .int .i64 4, .int .i64 4, .int .i64 5, .int .i64 16]) (by simp [results, Tryd.results39, go_sem]) rfl ⟨rfl, (Below.refl _ _).alloc (Nat.le_refl _) _⟩
  · go_enter Tryd.func39, Tryd.ntmps39
    go_wp2
    exact bodyPost_ret (v := .agg #[.int .i64 256, .int .i64 5, .int .i64 4, .int .i64 5, .int .i64 32]) (by simp [results, Tryd.results39, go_sem]) rfl ⟨rfl, (Below.refl _ _).alloc (Nat.le_refl _) _⟩
  · go_enter Tryd.func39, Tryd.ntmps39
    go_wp2
    exact bodyPost_ret (v := .agg #[.int .i64 256, .int .i64 6, .int .i64 4, .int .i64 5, .int .i64 64]) (by simp [results, Tryd.results39, go_sem]) rfl ⟨rfl, (Below.refl _ _).alloc (Nat.le_refl _) _⟩
  · go_enter Tryd.func39, Tryd.ntmps39
    go_wp2
    exact bodyPost_ret (v := .agg #[.int .i64 256, .int .i64 7, .int .i64 4, .int .i64 5, .int .i64 128]) (by simp [results, Tryd.results39, go_sem]) rfl ⟨rfl, (Below.refl _ _).alloc (Nat.le_refl _) _⟩
  · go_enter Tryd.func39, Tryd.ntmps39
    go_wp2
    exact bodyPost_ret (v := .agg #[.int .i64 256, .int .i64 8, .int .i64 4, .int .i64 5, .int .i64 256]) (by simp [results, Tryd.results39, go_sem]) rfl ⟨rfl, (Below.refl _ _).alloc (Nat.le_refl _) _⟩

set_option maxRecDepth 8000 in
set_option maxHeartbeats 400000 in
theorem isNode_any (n : Int) (w : World) : Calls Tryd.prog 41 #[.int .i64 n] w fun e w' => e = .returned (.bool (decide (0 ≤ n ∧ n < 8))) ∧ w = w' := by
  by_cases h0 : 0 ≤ n
  · have e : decide (0 ≤ n ∧ n < 8) = decide (n < 8) := by simp [h0]
    rw [e]
    clear e
    go_enter Tryd.func41, Tryd.ntmps41
    go_wp2
    go_ret
    exact ⟨rfl, rfl⟩
  · have e : decide (0 ≤ n ∧ n < 8) = false := by simp [h0]
    rw [e]
    clear e
    go_enter Tryd.func41, Tryd.ntmps41
    go_wp2
    go_ret
    exact ⟨rfl, rfl⟩
set_option maxRecDepth 8000 in
set_option maxHeartbeats 400000 in
theorem rnode_any (n : Int) (w : World) : Calls Tryd.prog 42 #[.int .i64 n] w fun e w' => e = .returned (.bool (decide (0 ≤ n ∧ n < 8))) ∧ w = w' := by
  by_cases h0 : 0 ≤ n
  · have e : decide (0 ≤ n ∧ n < 8) = decide (n < 8) := by simp [h0]
    rw [e]
    clear e
    go_enter Tryd.func42, Tryd.ntmps42
    go_wp2
    go_ret
    exact ⟨rfl, rfl⟩
  · have e : decide (0 ≤ n ∧ n < 8) = false := by simp [h0]
    rw [e]
    clear e
    go_enter Tryd.func42, Tryd.ntmps42
    go_wp2
    go_ret
    exact ⟨rfl, rfl⟩
set_option maxRecDepth 8000 in
set_option maxHeartbeats 400000 in
theorem slotOf_any (c : CS) (n : Int) (w : World) (n0 : 4 ≤ n) (n1 : n ≤ 8) (t0 : 0 ≤ c.T) (t1 : c.T ≤ 255) (p0 : 0 ≤ c.P) (p1 : c.P < n) : Calls Tryd.prog 40 #[.agg c.cells, .int .i64 n] w fun e w' => e = .returned (.int .i64 (c.T * n + c.P)) ∧ Below w.heap.size w w' := by
  obtain ⟨T, P, Mo, Nx, Me⟩ := c
  unfold CS.cells
  dsimp only at *
  have x0 : 0 ≤ T * n := Int.mul_nonneg t0 (by omega)
  have x1 : T * n ≤ 255 * 8 := Int.mul_le_mul t1 n1 (by omega) (by omega)
  have e2 : IntKind.i64.wrap (T * n) = T * n := IntWalk.i64_in _ (by omega)
  have e3 : IntKind.i64.wrap (T * n + P) = T * n + P := IntWalk.i64_in _ (by omega)
  go_enter Tryd.func40, Tryd.ntmps40
  go_wp2
  go_ret
  exact ⟨rfl, (Below.refl _ _).alloc (Nat.le_refl _) _⟩
end Go.Proofs.YteigekhfamapmaaDoor
