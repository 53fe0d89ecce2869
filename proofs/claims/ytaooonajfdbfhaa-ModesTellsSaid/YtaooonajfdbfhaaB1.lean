/-
  Contracts of the small functions of package cstate: a state's fields as an array and back, the first numbers that they may not be, a state's slot, whether a number is a node's. Conditions: those that each theorem names.
-/
import Derived.Test.YtaooonajfdbfhaaA4
namespace Go.Proofs.Ytaooonajfdbfhaa
open Go.RowKit

set_option maxRecDepth 8000 in
set_option maxHeartbeats 400000 in
theorem values_any (c : CS) (w : World) : Calls Try.prog 43 #[.agg c.cells] w fun e w' => e = .returned (.agg c.cells) ∧ Below w.heap.size w w' := by
  obtain ⟨T, P, Mo, Nx, Me⟩ := c
  unfold CS.cells
  dsimp only
  go_enter Try.func43, Try.ntmps43
  go_wp2
  exact bodyPost_ret (v := .agg #[.int .i64 T, .int .i64 P, .int .i64 Mo, .int .i64 Nx, .int .i64 Me]) (by simp [results, Try.results43, go_sem]) rfl ⟨rfl, ((Below.refl _ _).alloc (Nat.le_refl _) _).alloc (by simp) _⟩

/-- The first numbers that the fields may not be. -/
def endsC (n : Int) : CS := ⟨256, n, 4, 5, 2 ^ n.toNat⟩
set_option maxRecDepth 8000 in
set_option maxHeartbeats 400000 in
theorem ends_any (n : Int) (w : World) (h0 : 4 ≤ n) (h1 : n ≤ 8) : Calls Try.prog 44 #[.int .i64 n] w fun e w' => e = .returned (.agg (endsC n).cells) ∧ Below w.heap.size w w' := by
  have hn : n = 4 ∨ n = 5 ∨ n = 6 ∨ n = 7 ∨ n = 8 := by omega
  clear h0 h1
  unfold endsC CS.cells
  dsimp only
  rcases hn with rfl | rfl | rfl | rfl | rfl
  · go_enter Try.func44, Try.ntmps44
    go_wp2
    exact bodyPost_ret (v := .agg #[.int .i64 256, .int .i64 4, .int .i64 4, .int .i64 5, .int .i64 16]) (by simp [results, Try.results44, go_sem]) rfl ⟨rfl, (Below.refl _ _).alloc (Nat.le_refl _) _⟩
  · go_enter Try.func44, Try.ntmps44
    go_wp2
    exact bodyPost_ret (v := .agg #[.int .i64 256, .int .i64 5, .int .i64 4, .int .i64 5, .int .i64 32]) (by simp [results, Try.results44, go_sem]) rfl ⟨rfl, (Below.refl _ _).alloc (Nat.le_refl _) _⟩
  · go_enter Try.func44, Try.ntmps44
    go_wp2
    exact bodyPost_ret (v := .agg #[.int .i64 256, .int .i64 6, .int .i64 4, .int .i64 5, .int .i64 64]) (by simp [results, Try.results44, go_sem]) rfl ⟨rfl, (Below.refl _ _).alloc (Nat.le_refl _) _⟩
  · go_enter Try.func44, Try.ntmps44
    go_wp2
    exact bodyPost_ret (v := .agg #[.int .i64 256, .int .i64 7, .int .i64 4, .int .i64 5, .int .i64 128]) (by simp [results, Try.results44, go_sem]) rfl ⟨rfl, (Below.refl _ _).alloc (Nat.le_refl _) _⟩
  · go_enter Try.func44, Try.ntmps44
    go_wp2
    exact bodyPost_ret (v := .agg #[.int .i64 256, .int .i64 8, .int .i64 4, .int .i64 5, .int .i64 256]) (by simp [results, Try.results44, go_sem]) rfl ⟨rfl, (Below.refl _ _).alloc (Nat.le_refl _) _⟩

end Go.Proofs.Ytaooonajfdbfhaa
