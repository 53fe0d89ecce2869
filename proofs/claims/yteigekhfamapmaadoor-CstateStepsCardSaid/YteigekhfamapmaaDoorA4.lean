/-
  The document's Slots of package cstate. No condition.
-/
import Derived.Test.YteigekhfamapmaaDoorA2
namespace Go.Proofs.YteigekhfamapmaaDoor
open Go.RowKit

/-- Slots, by the document: an error and a number. -/
def slotsC (a b : CS) (n : Int) : Int × Int :=
  if checkC a n ≠ 0 then (checkC a n, 0) else if checkC b n ≠ 0 then (checkC b n, 0) else (0, (b.T * n + b.P - a.T * n - a.P + 256 * n) % (256 * n))

/-- A state that may be. -/
theorem checkC_zero {c : CS} {n : Int} (h : checkC c n = 0) : 4 ≤ n ∧ n ≤ 8 ∧ 0 ≤ c.T ∧ c.T ≤ 255 ∧ 0 ≤ c.P ∧ c.P < n ∧ 0 ≤ c.Mo ∧ c.Mo < 4 ∧ 0 ≤ c.Nx ∧ c.Nx ≤ 4 ∧ 0 ≤ c.Me ∧ c.Me < 2 ^ n.toNat := by
  unfold checkC at h
  by_cases h0 : n < 4 ∨ 8 < n
  · rw [if_pos h0] at h; omega
  · rw [if_neg h0] at h
    by_cases hm : mayC c n = true
    · unfold mayC at hm
      simp only [decide_eq_true_eq] at hm
      exact ⟨by omega, by omega, hm⟩
    · rw [if_neg hm] at h; omega

set_option maxRecDepth 8000 in
set_option maxHeartbeats 2000000 in
theorem rslotsC_any (a b : CS) (n : Int) (w : World) : Calls Tryd.prog 18 #[.agg a.cells, .agg b.cells, .int .i64 n] w fun e w' => e = .returned (.tuple #[.int .i64 (slotsC a b n).2, .int .i64 (slotsC a b n).1]) ∧ Below w.heap.size w w' := by
  have ha := fun W => rcheckC_any a n W
  have hb := fun W => rcheckC_any b n W
  unfold slotsC
  generalize hca : checkC a n = ca at *
  generalize hcb : checkC b n = cb at *
  obtain ⟨T, P, Mo, Nx, Me⟩ := a
  obtain ⟨T2, P2, Mo2, Nx2, Me2⟩ := b
  unfold CS.cells at *
  dsimp only at *
  have HA := Lib.hid ha; have HBB := Lib.hid hb; clear ha hb
  have HCA := Lib.hid hca; have HCB := Lib.hid hcb; clear hca hcb
  have hB : Below w.heap.size w ((w.alloc (.cells #[.int .i64 T, .int .i64 P, .int .i64 Mo, .int .i64 Nx, .int .i64 Me] 23)).alloc (.cells #[.int .i64 T2, .int .i64 P2, .int .i64 Mo2, .int .i64 Nx2, .int .i64 Me2] 23)) := ((Below.refl _ _).alloc (Nat.le_refl _) _).alloc (by simp) _
  have k1 := (Blk.new w 23 #[.int .i64 T, .int .i64 P, .int .i64 Mo, .int .i64 Nx, .int .i64 Me]).alloc (.cells #[.int .i64 T2, .int .i64 P2, .int .i64 Mo2, .int .i64 Nx2, .int .i64 Me2] 23)
  have k2 : Blk ((w.alloc (.cells #[.int .i64 T, .int .i64 P, .int .i64 Mo, .int .i64 Nx, .int .i64 Me] 23)).alloc (.cells #[.int .i64 T2, .int .i64 P2, .int .i64 Mo2, .int .i64 Nx2, .int .i64 Me2] 23)) (w.heap.size + 1) 23 #[.int .i64 T2, .int .i64 P2, .int .i64 Mo2, .int .i64 Nx2, .int .i64 Me2] := by simpa using Blk.new (w.alloc (.cells #[.int .i64 T, .int .i64 P, .int .i64 Mo, .int .i64 Nx, .int .i64 Me] 23)) 23 #[.int .i64 T2, .int .i64 P2, .int .i64 Mo2, .int .i64 Nx2, .int .i64 Me2]
  by_cases h1 : ca ≠ 0
  · rw [if_pos h1]
    have d1 : decide (ca = 0) = false := by simpa using h1
    have d1' : (ca == 0) = false := by simpa using h1
    go_enter Tryd.func18, Tryd.ntmps18
    go_wp2_with fail
    refine (HA.out _).mono ?_
    rintro e w1 ⟨rfl, hB1⟩
    dsimp only
    go_wp2
    have b1 := hB.trans (hB1.mono hB.size)
    exact bodyPost_ret (v := .tuple #[.int .i64 0, .int .i64 ca]) (by simp [results, Tryd.results18, go_sem]) rfl ⟨rfl, b1⟩
  · rw [if_neg h1]
    have h10 : ca = 0 := Decidable.of_not_not h1
    subst h10
    clear h1
    by_cases h2 : cb ≠ 0
    · rw [if_pos h2]
      have d2 : (cb == 0) = false := by simpa using h2
      go_enter Tryd.func18, Tryd.ntmps18
      go_wp2_with fail
      refine (HA.out _).mono ?_
      rintro e w1 ⟨rfl, hB1⟩
      dsimp only
      replace k1 := k1.on hB1
      replace k2 := k2.on hB1
      have b1 := hB.trans (hB1.mono hB.size)
      have c0 := k2.cell 0; have c1 := k2.cell 1; have c2 := k2.cell 2; have c3 := k2.cell 3; have c4 := k2.cell 4
      simp at c0 c1 c2 c3 c4
      go_wp2_with fail
      refine (HBB.out _).mono ?_
      rintro e w2 ⟨rfl, hB2⟩
      dsimp only
      have b2 := b1.trans (hB2.mono b1.size)
      go_wp2
      exact bodyPost_ret (v := .tuple #[.int .i64 0, .int .i64 cb]) (by simp [results, Tryd.results18, go_sem]) rfl ⟨rfl, b2⟩
    · rw [if_neg h2]
      have h20 : cb = 0 := Decidable.of_not_not h2
      subst h20
      clear h2
      obtain ⟨n0, n1, t0, t1, p0, p1, -⟩ := checkC_zero HCA.out
      obtain ⟨-, -, s0, s1, q0, q1, -⟩ := checkC_zero HCB.out
      dsimp only at t0 t1 p0 p1 s0 s1 q0 q1
      go_enter Tryd.func18, Tryd.ntmps18
      go_wp2_with fail
      refine (HA.out _).mono ?_
      rintro e w1 ⟨rfl, hB1⟩
      dsimp only
      replace k1 := k1.on hB1
      replace k2 := k2.on hB1
      have b1 := hB.trans (hB1.mono hB.size)
      have c0 := k2.cell 0; have c1 := k2.cell 1; have c2 := k2.cell 2; have c3 := k2.cell 3; have c4 := k2.cell 4
      simp at c0 c1 c2 c3 c4
      go_wp2_with fail
      refine (HBB.out _).mono ?_
      rintro e w2 ⟨rfl, hB2⟩
      dsimp only
      have b2 := b1.trans (hB2.mono b1.size)
      replace k1 := k1.on hB2
      replace k2 := k2.on hB2
      have g0 := k1.cell 0; have g1 := k1.cell 1
      simp at g0 g1
      have j0 := k2.cell 0; have j1 := k2.cell 1
      simp at j0 j1
      have x0 : 0 ≤ T * n := Int.mul_nonneg t0 (by omega)
      have x1 : T * n ≤ 255 * 8 := Int.mul_le_mul t1 n1 (by omega) (by omega)
      have y0 : 0 ≤ T2 * n := Int.mul_nonneg s0 (by omega)
      have y1 : T2 * n ≤ 255 * 8 := Int.mul_le_mul s1 n1 (by omega) (by omega)
      have x2 : T * n ≤ 255 * n := Int.mul_le_mul_of_nonneg_right t1 (by omega)
      have e1 : IntKind.i64.wrap (T2 * n) = T2 * n := IntWalk.i64_in _ (by omega)
      have e2 : IntKind.i64.wrap (T * n) = T * n := IntWalk.i64_in _ (by omega)
      have e3 : IntKind.i64.wrap (T2 * n + P2) = T2 * n + P2 := IntWalk.i64_in _ (by omega)
      have e4 : IntKind.i64.wrap (T2 * n + P2 - T * n) = T2 * n + P2 - T * n := IntWalk.i64_in _ (by omega)
      have e5 : IntKind.i64.wrap (T2 * n + P2 - T * n - P) = T2 * n + P2 - T * n - P := IntWalk.i64_in _ (by omega)
      have e6 : IntKind.i64.wrap (256 * n) = 256 * n := IntWalk.i64_in _ (by omega)
      have e7 : IntKind.i64.wrap (T2 * n + P2 - T * n - P + 256 * n) = T2 * n + P2 - T * n - P + 256 * n := IntWalk.i64_in _ (by omega)
      have nz : ¬ (256 * n = 0) := by omega
      have nz' : n ≠ 0 := by omega
      have pm : Int.tmod (T2 * n + P2 - T * n - P + 256 * n) (256 * n) = (T2 * n + P2 - T * n - P + 256 * n) % (256 * n) := Int.tmod_eq_emod_of_nonneg (by omega)
      have r0 : 0 ≤ (T2 * n + P2 - T * n - P + 256 * n) % (256 * n) := Int.emod_nonneg _ nz
      have r1 : (T2 * n + P2 - T * n - P + 256 * n) % (256 * n) < 256 * n := Int.emod_lt_of_pos _ (by omega)
      have e8 : IntKind.i64.wrap ((T2 * n + P2 - T * n - P + 256 * n) % (256 * n)) = (T2 * n + P2 - T * n - P + 256 * n) % (256 * n) := IntWalk.i64_in _ (by omega)
      clear hB hB1 hB2
      go_wp2
      have em : (T2 * n + P2 - T * n - P) % (256 * n) = (T2 * n + P2 - T * n - P + 256 * n) % (256 * n) := by simp
      exact bodyPost_ret (v := .tuple #[.int .i64 ((T2 * n + P2 - T * n - P) % (256 * n)), .int .i64 0]) (by simp [results, Tryd.results18, go_sem]) rfl ⟨by rw [em], b2⟩
end Go.Proofs.YteigekhfamapmaaDoor
