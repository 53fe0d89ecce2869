/-
  Check of package cstate answers as the document says. No condition.
-/
import Derived.Test.YtaooonajfdbfhaaB1
namespace Go.Proofs.Ytaooonajfdbfhaa
open Go.RowKit

/-- A field by its place. -/
def CS.fld (c : CS) (k : Nat) : Int := if k = 0 then c.T else if k = 1 then c.P else if k = 2 then c.Mo else if k = 3 then c.Nx else c.Me
theorem five {k : Nat} (h : k < 5) : k = 0 ∨ k = 1 ∨ k = 2 ∨ k = 3 ∨ k = 4 := by omega
theorem CS.cells_at (c : CS) {k : Nat} (h : k < 5) : c.cells[k]? = some (.int .i64 (c.fld k)) := by
  rcases five h with rfl | rfl | rfl | rfl | rfl <;> rfl
theorem CS.cells_size (c : CS) : c.cells.size = 5 := rfl
theorem mayC_iff (c : CS) (n : Int) : mayC c n = true ↔ ∀ k, k < 5 → 0 ≤ c.fld k ∧ c.fld k < (endsC n).fld k := by
  unfold mayC
  simp only [decide_eq_true_eq]
  constructor
  · intro h k hk
    rcases five hk with rfl | rfl | rfl | rfl | rfl <;> simp [CS.fld, endsC] <;> omega
  · intro h
    have a0 := h 0 (by omega)
    have a1 := h 1 (by omega)
    have a2 := h 2 (by omega)
    have a3 := h 3 (by omega)
    have a4 := h 4 (by omega)
    simp [CS.fld, endsC] at a0 a1 a2 a3 a4
    omega
/-- What Check says of a state with a count of nodes that may be. -/
def may40 (c : CS) (n : Int) : Int := if mayC c n = true then 0 else 40

set_option maxRecDepth 8000 in
set_option maxHeartbeats 2000000 in
theorem checkC_any (c : CS) (n : Int) (w : World) : Calls Try.prog 32 #[.agg c.cells, .int .i64 n] w fun e w' => e = .returned (.int .i64 (checkC c n)) ∧ Below w.heap.size w w' := by
  have hv := fun W => values_any c W
  have hmay := mayC_iff c n
  by_cases h0 : n < 4 ∨ 8 < n
  · have hr : checkC c n = 2 := by unfold checkC; rw [if_pos h0]
    rw [hr]
    clear hr hv hmay
    obtain ⟨T, P, Mo, Nx, Me⟩ := c
    unfold CS.cells
    dsimp only
    have hB : Below w.heap.size w (w.alloc (.cells #[.int .i64 T, .int .i64 P, .int .i64 Mo, .int .i64 Nx, .int .i64 Me] 27)) := (Below.refl _ _).alloc (Nat.le_refl _) _
    have HB := Lib.hid hB; clear hB
    by_cases h4 : n < 4
    · have d1 : decide (n < 4) = true := by simpa using h4
      clear h0
      go_enter Try.func32, Try.ntmps32
      go_wp2
      go_ret
      exact ⟨rfl, HB.out⟩
    · have d1 : decide (n < 4) = false := by simpa using h4
      have d2 : decide (8 < n) = true := by simp; omega
      clear h0
      go_enter Try.func32, Try.ntmps32
      go_wp2
      go_ret
      exact ⟨rfl, HB.out⟩
  · have d1 : decide (n < 4) = false := by simp; omega
    have d2 : decide (8 < n) = false := by simp; omega
    have he := fun W => ends_any n W (by omega) (by omega)
    have hr : checkC c n = may40 c n := by unfold checkC may40; rw [if_neg h0]
    rw [hr]
    clear hr h0
    obtain ⟨R, hR⟩ : ∃ R, R = may40 c n := ⟨_, rfl⟩
    rw [← hR]
    have HR := Lib.hid hR; have HM := Lib.hid hmay; clear hR hmay
    generalize hends : endsC n = en at *
    have HV := Lib.hid hv; have HE := Lib.hid he; clear hv he hends
    obtain ⟨c', hc'⟩ : ∃ c', c' = c := ⟨_, rfl⟩
    obtain ⟨T, P, Mo, Nx, Me⟩ := c
    obtain ⟨en', hen'⟩ : ∃ en', en' = en := ⟨_, rfl⟩
    obtain ⟨E0, E1, E2, E3, E4⟩ := en
    have HC := Lib.hid hc'; have HEN := Lib.hid hen'; clear hc' hen'
    unfold CS.cells at *
    dsimp only at *
    have hB : Below w.heap.size w (w.alloc (.cells #[.int .i64 T, .int .i64 P, .int .i64 Mo, .int .i64 Nx, .int .i64 Me] 27)) := (Below.refl _ _).alloc (Nat.le_refl _) _
    go_enter Try.func32, Try.ntmps32
    go_wp2_with fail
    refine (HV.out _).mono ?_
    rintro e w1 ⟨rfl, hB1⟩
    dsimp only
    go_wp2_with fail
    refine (HE.out _).mono ?_
    rintro e w2 ⟨rfl, hB2⟩
    dsimp only
    have hb1 := hB.trans (hB1.mono hB.size)
    have hb2 := hb1.trans (hB2.mono hb1.size)
    go_wp2_with fail
    have k5 : Blk ((w2.alloc (.cells #[.int .i64 T, .int .i64 P, .int .i64 Mo, .int .i64 Nx, .int .i64 Me] 69)).alloc (.cells #[.int .i64 E0, .int .i64 E1, .int .i64 E2, .int .i64 E3, .int .i64 E4] 69)) w2.heap.size 69 #[.int .i64 T, .int .i64 P, .int .i64 Mo, .int .i64 Nx, .int .i64 Me] := (Blk.new w2 _ _).alloc _
    have k6 : Blk ((w2.alloc (.cells #[.int .i64 T, .int .i64 P, .int .i64 Mo, .int .i64 Nx, .int .i64 Me] 69)).alloc (.cells #[.int .i64 E0, .int .i64 E1, .int .i64 E2, .int .i64 E3, .int .i64 E4] 69)) (w2.heap.size + 1) 69 #[.int .i64 E0, .int .i64 E1, .int .i64 E2, .int .i64 E3, .int .i64 E4] := by
      simpa using Blk.new (w2.alloc (.cells #[.int .i64 T, .int .i64 P, .int .i64 Mo, .int .i64 Nx, .int .i64 Me] 69)) 69 #[.int .i64 E0, .int .i64 E1, .int .i64 E2, .int .i64 E3, .int .i64 E4]
    have hb3 : Below w.heap.size w ((w2.alloc (.cells #[.int .i64 T, .int .i64 P, .int .i64 Mo, .int .i64 Nx, .int .i64 Me] 69)).alloc (.cells #[.int .i64 E0, .int .i64 E1, .int .i64 E2, .int .i64 E3, .int .i64 E4] 69)) := (hb2.alloc (hb2.size) _).alloc (by have := hb2.size; simp; omega) _
    clear hB hB1 hB2 hb1 hb2
    generalize (w2.alloc (.cells #[.int .i64 T, .int .i64 P, .int .i64 Mo, .int .i64 Nx, .int .i64 Me] 69)).alloc (.cells #[.int .i64 E0, .int .i64 E1, .int .i64 E2, .int .i64 E3, .int .i64 E4] 69) = w3 at *
    go_loopw [18] (fun i wr => ∃ k : Nat, k ≤ 5 ∧ i = .int .i64 k ∧ (∀ j : Nat, j < k → 0 ≤ CS.fld ⟨T, P, Mo, Nx, Me⟩ j ∧ CS.fld ⟨T, P, Mo, Nx, Me⟩ j < CS.fld ⟨E0, E1, E2, E3, E4⟩ j) ∧ Below w.heap.size w wr ∧ Blk wr w2.heap.size 69 (CS.cells ⟨T, P, Mo, Nx, Me⟩) ∧ Blk wr (w2.heap.size + 1) 69 (CS.cells ⟨E0, E1, E2, E3, E4⟩))
      (fun i _ => 5 - (intOf i).toNat)
    case atStart => exact ⟨0, by omega, rfl, fun j h => absurd h (by omega), hb3, k5, k6⟩
    case round =>
      obtain ⟨k, hk, rfl, hall, hB, h5, h6⟩ := hrel
      have HALL := Lib.hid hall; clear hall
      by_cases hlt : k < 5
      · have c5 := h5.cell k
        have c6 := h6.cell k
        rw [CS.cells_at _ hlt] at c5 c6
        have hk0 : (0 : Int) ≤ (k : Int) := by omega
        have hk1 : (k : Int) < 5 := by omega
        obtain ⟨x, hx⟩ : ∃ x, x = CS.fld ⟨T, P, Mo, Nx, Me⟩ k := ⟨_, rfl⟩
        obtain ⟨y, hy⟩ : ∃ y, y = CS.fld ⟨E0, E1, E2, E3, E4⟩ k := ⟨_, rfl⟩
        rw [← hx] at c5
        rw [← hy] at c6
        have HX := Lib.hid hx; have HY := Lib.hid hy; clear hx hy
        by_cases h1 : x < 0
        · have e1 : decide (x < 0) = true := by simpa using h1
          have hq : R = 40 := by
            rw [HR.out]; unfold may40; rw [if_neg]
            intro hm
            have := (HM.out.1 hm k hlt).1
            rw [← HX.out] at this; omega
          subst hq
          go_wp2
          go_quiet (fail)
          go_wp2
          go_ret
          exact ⟨rfl, below_drewN hB _⟩
        · have e1 : decide (x < 0) = false := by simpa using h1
          by_cases h2 : y ≤ x
          · have e2 : decide (y ≤ x) = true := by simpa using h2
            have hq : R = 40 := by
              rw [HR.out]; unfold may40; rw [if_neg]
              intro hm
              have := (HM.out.1 hm k hlt).2
              rw [← HX.out, ← HY.out] at this; omega
            subst hq
            go_wp2
            go_quiet (fail)
            go_wp2
            go_ret
            exact ⟨rfl, below_drewN hB _⟩
          · have e2 : decide (y ≤ x) = false := by simpa using h2
            go_wp2
            go_quiet (fail)
            go_wp2
            go_roundw
            case rel =>
              refine ⟨k + 1, by omega, by go_num, fun j hj => ?_, below_drewN hB _, h5.drewN _, h6.drewN _⟩
              rcases Nat.lt_or_ge j k with h | h
              · exact HALL.out j h
              · obtain rfl : j = k := by omega
                rw [← HX.out, ← HY.out]; omega
            case measure => simp [intOf]; omega
      · obtain rfl : k = 5 := by omega
        have hq : R = 0 := by rw [HR.out]; unfold may40; rw [if_pos (HM.out.2 HALL.out)]
        subst hq
        go_wp2
        go_ret
        exact ⟨rfl, hB⟩
end Go.Proofs.Ytaooonajfdbfhaa
