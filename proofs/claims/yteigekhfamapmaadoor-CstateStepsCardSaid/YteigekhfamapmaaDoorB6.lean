/-
  Slots of package cstate answers as the document says. No condition.
-/
import Derived.Test.YteigekhfamapmaaDoorB5
import Derived.Test.YteigekhfamapmaaDoorA4
namespace Go.Proofs.YteigekhfamapmaaDoor
open Go.RowKit

set_option maxRecDepth 8000 in
set_option maxHeartbeats 2000000 in
theorem slotsC_any (a b : CS) (n : Int) (w : World) : Calls Tryd.prog 17 #[.agg a.cells, .agg b.cells, .int .i64 n] w fun e w' => e = .returned (.tuple #[.int .i64 (slotsC a b n).2, .int .i64 (slotsC a b n).1]) ∧ Below w.heap.size w w' := by
  have ha := fun W => checkC_any a n W
  have hb := fun W => checkC_any b n W
  unfold slotsC
  generalize hca : checkC a n = ca at *
  generalize hcb : checkC b n = cb at *
  obtain ⟨T, P, Mo, Nx, Me⟩ := a
  obtain ⟨T2, P2, Mo2, Nx2, Me2⟩ := b
  unfold CS.cells at *
  dsimp only at *
  have HA := Lib.hid ha; have HBB := Lib.hid hb; clear ha hb
  have HCA := Lib.hid hca; have HCB := Lib.hid hcb; clear hca hcb
  have hB : Below w.heap.size w ((w.alloc (.cells #[.int .i64 T, .int .i64 P, .int .i64 Mo, .int .i64 Nx, .int .i64 Me] 23)).alloc (.cells #[.int .i64 T2, .int .i64 P2, .int .i64 Mo2, .int .i64 Nx2, .int .i64 Me2] 23)) := ((Below.refl _ _).alloc (Nat.le_refl _) _).alloc (by simp) _
  have k1 := (Blk.new w 23 #[.int .i64 T, .int .i64 P, .int .i64 Mo, .int .i64 Nx, .int .i64 Me]).alloc (.cells #[.int .i64 T2, .int .i64 P2, .int .i64 Mo2, .int .i64 Nx2, .int .i64 Me2] 23)
  have k2 : Blk ((w.alloc (.cells #[.int .i64 T, .int .i64 P, .int .i64 Mo, .int .i64 Nx, .int .i64 Me] 23)).alloc (.cells #[.int .i64 T2, .int .i64 P2, .int .i64 Mo2, .int .i64 Nx2, .int .i64 Me2] 23)) (w.heap.size + 1) 23 #[.int .i64 T2, .int .i64 P2, .int .i64 Mo2, .int .i64 Nx2, .int .i64 Me2] := by simpa using Blk.new (w.alloc (.cells #[.int .i64 T, .int .i64 P, .int .i64 Mo, .int .i64 Nx, .int .i64 Me] 23)) 23 #[.int .i64 T2, .int .i64 P2, .int .i64 Mo2, .int .i64 Nx2, .int .i64 Me2]
  by_cases h1 : ca ≠ 0
  · rw [if_pos h1]
    have d1 : decide (ca = 0) = false := by simpa using h1
    have d1' : (ca == 0) = false := by simpa using h1
    go_enter Tryd.func17, Tryd.ntmps17
    go_wp2_with fail
    refine (HA.out _).mono ?_
    rintro e w1 ⟨rfl, hB1⟩
    dsimp only
    go_wp2
    have b1 := hB.trans (hB1.mono hB.size)
    exact bodyPost_ret (v := .tuple #[.int .i64 0, .int .i64 ca]) (by simp [results, Tryd.results17, go_sem]) rfl ⟨rfl, b1⟩
  · rw [if_neg h1]
    have h10 : ca = 0 := Decidable.of_not_not h1
    subst h10
    clear h1
    by_cases h2 : cb ≠ 0
    · rw [if_pos h2]
      have d2 : (cb == 0) = false := by simpa using h2
      go_enter Tryd.func17, Tryd.ntmps17
      go_wp2_with fail
      refine (HA.out _).mono ?_
      rintro e w1 ⟨rfl, hB1⟩
      dsimp only
      replace k1 := k1.on hB1
      replace k2 := k2.on hB1
      have b1 := hB.trans (hB1.mono hB.size)
      have c0 := k2.cell 0; have c1 := k2.cell 1; have c2 := k2.cell 2; have c3 := k2.cell 3; have c4 := k2.cell 4
      simp at c0 c1 c2 c3 c4
      go_wp2_with fail
      refine (HBB.out _).mono ?_
      rintro e w2 ⟨rfl, hB2⟩
      dsimp only
      have b2 := b1.trans (hB2.mono b1.size)
      go_wp2
      exact bodyPost_ret (v := .tuple #[.int .i64 0, .int .i64 cb]) (by simp [results, Tryd.results17, go_sem]) rfl ⟨rfl, b2⟩
    · rw [if_neg h2]
      have h20 : cb = 0 := Decidable.of_not_not h2
      subst h20
      clear h2
      obtain ⟨n0, n1, t0, t1, p0, p1, -⟩ := checkC_zero HCA.out
      obtain ⟨-, -, s0, s1, q0, q1, -⟩ := checkC_zero HCB.out
      dsimp only at t0 t1 p0 p1 s0 s1 q0 q1
      go_enter Tryd.func17, Tryd.ntmps17
      go_wp2_with fail
      refine (HA.out _).mono ?_
      rintro e w1 ⟨rfl, hB1⟩
      dsimp only
      replace k1 := k1.on hB1
      replace k2 := k2.on hB1
      have b1 := hB.trans (hB1.mono hB.size)
      have c0 := k2.cell 0; have c1 := k2.cell 1; have c2 := k2.cell 2; have c3 := k2.cell 3; have c4 := k2.cell 4
      simp at c0 c1 c2 c3 c4
      go_wp2_with fail
      refine (HBB.out _).mono ?_
      rintro e w2 ⟨rfl, hB2⟩
      dsimp only
      have b2 := b1.trans (hB2.mono b1.size)
      replace k1 := k1.on hB2
      replace k2 := k2.on hB2
      have g0 := k1.cell 0; have g1 := k1.cell 1
      simp at g0 g1
      have j0 := k2.cell 0; have j1 := k2.cell 1
      simp at j0 j1
      have x0 : 0 ≤ T * n := Int.mul_nonneg t0 (by omega)
      have x1 : T * n ≤ 255 * 8 := Int.mul_le_mul t1 n1 (by omega) (by omega)
      have y0 : 0 ≤ T2 * n := Int.mul_nonneg s0 (by omega)
      have y1 : T2 * n ≤ 255 * 8 := Int.mul_le_mul s1 n1 (by omega) (by omega)
      have x2 : T * n ≤ 255 * n := Int.mul_le_mul_of_nonneg_right t1 (by omega)
      obtain ⟨u, hu⟩ : ∃ u, u = T * n + P := ⟨_, rfl⟩
      obtain ⟨v, hv⟩ : ∃ v, v = T2 * n + P2 := ⟨_, rfl⟩
      have hS1 := fun W => slotOf_any ⟨T, P, Mo, Nx, Me⟩ n W n0 n1 t0 t1 p0 p1
      have hS2 := fun W => slotOf_any ⟨T2, P2, Mo2, Nx2, Me2⟩ n W n0 n1 s0 s1 q0 q1
      unfold CS.cells at hS1 hS2
      dsimp only at hS1 hS2
      rw [← hu] at hS1
      rw [← hv] at hS2
      have hen : (T2 * n + P2 - T * n - P + 256 * n) = v - u + 256 * n := by rw [hu, hv]; omega
      have HEN := Lib.hid hen
      have u0 : 0 ≤ u := by omega
      have u1 : u < 256 * n := by omega
      have v0 : 0 ≤ v := by omega
      have v1 : v < 4096 := by omega
      clear hen x0 x1 y0 y1 x2 t0 t1 p0 p1 s0 s1 q0 q1
      have HU := Lib.hid hu; have HVV := Lib.hid hv; clear hu hv
      have HS1 := Lib.hid hS1; have HS2 := Lib.hid hS2; clear hS1 hS2
      have e5 : IntKind.i64.wrap (v - u) = v - u := IntWalk.i64_in _ (by omega)
      have e6 : IntKind.i64.wrap (256 * n) = 256 * n := IntWalk.i64_in _ (by omega)
      have e7 : IntKind.i64.wrap (v - u + 256 * n) = v - u + 256 * n := IntWalk.i64_in _ (by omega)
      have nz : ¬ (256 * n = 0) := by omega
      have nz' : n ≠ 0 := by omega
      have pm : Int.tmod (v - u + 256 * n) (256 * n) = (v - u + 256 * n) % (256 * n) := Int.tmod_eq_emod_of_nonneg (by omega)
      have r0 : 0 ≤ (v - u + 256 * n) % (256 * n) := Int.emod_nonneg _ nz
      have r1 : (v - u + 256 * n) % (256 * n) < 256 * n := Int.emod_lt_of_pos _ (by omega)
      have e8 : IntKind.i64.wrap ((v - u + 256 * n) % (256 * n)) = (v - u + 256 * n) % (256 * n) := IntWalk.i64_in _ (by omega)
      clear hB hB1 hB2 b1 c0 c1 c2 c3 c4 g0 g1 j0 j1
      obtain ⟨⟨g0, g1, g2, g3, g4⟩, -⟩ := k1.five
      obtain ⟨⟨j0, j1, j2, j3, j4⟩, -⟩ := k2.five
      have hdr : Below w2.heap.size w2 w2.drew := (Below.refl _ _).drew
      replace b2 := b2.trans (hdr.mono b2.size)
      replace k1 := k1.on hdr
      replace k2 := k2.on hdr
      clear hdr
      go_wp2_with fail
      go_region_with (go_at_call 40; (first | with_reducible refine (HS2.out _).mono ?_ | with_reducible refine (HS1.out _).mono ?_); rintro e W5 ⟨rfl, hB5⟩; dsimp only; replace k1 := k1.on hB5; replace k2 := k2.on hB5; replace b2 := b2.trans (hB5.mono b2.size); clear hB5; obtain ⟨⟨g0, g1, g2, g3, g4⟩, -⟩ := k1.five; obtain ⟨⟨j0, j1, j2, j3, j4⟩, -⟩ := k2.five)
      all_goals
        go_wp2
        exact bodyPost_ret (v := .tuple #[.int .i64 ((v - u + 256 * n) % (256 * n)), .int .i64 0]) (by simp [results, Tryd.results17, go_sem]) rfl ⟨by rw [HEN.out], b2⟩
end Go.Proofs.YteigekhfamapmaaDoor
