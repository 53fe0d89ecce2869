/-
  The document's Members of package cstate. No condition.
-/
import Derived.Test.YteigekhfamapmaaDoorBG
namespace Go.Proofs.YteigekhfamapmaaDoor
open Go.RowKit

theorem own_on4 {w w' : World} {b : Nat} {e : TypeId} {size : Nat} {v : Value} {n : Nat} {xs : List Value} (h : w.ownsRow b e size v n xs) (hb : Below w.heap.size w w') : w'.ownsRow b e size v n xs :=
  h.kept (only_of_below hb none) (by
    rcases h.2 with ⟨h1, _⟩ | ⟨g, cap, cur, h1, _⟩
    · rw [h1]; exact .inl rfl
    · exact .inr (by rw [h1]; simp [Value.ownBlock]))

set_option maxRecDepth 8000 in
set_option maxHeartbeats 1000000 in
theorem rmembers_any (c : CS) (w : World) : Calls Tryd.prog 19 #[.agg c.cells] w fun e w' => ∃ v, e = .returned v ∧ w'.ownsRow w.heap.size 3 1 v (memC c).length ((memC c).map fun (x : Nat) => Value.int .i64 (x : Int)) ∧ Below w.heap.size w w' := by
  have hall := fun (k : Nat) (W : World) => rhasC_any c (k : Int) W
  have hms := fun (k : Nat) (h : hasC c (k : Int) = true) => memTo_yes h
  have hmn := fun (k : Nat) (h : hasC c (k : Int) = false) => memTo_no h
  have hml := memTo_length c
  unfold memC
  have hM0 : memTo c 0 = [] := rfl
  generalize memTo c = MT at *
  generalize hasC c = hc at *
  have HALL := Lib.hid hall; have HMS := Lib.hid hms; have HMN := Lib.hid hmn; have HML := Lib.hid hml; have HM0 := Lib.hid hM0; clear hall hms hmn hml hM0
  obtain ⟨s0, s1, s2, s3, s4⟩ := c
  unfold CS.cells at *
  dsimp only at *
  obtain ⟨i0, hi, hz0, hz1, hz2⟩ := info_parts Tryd.info3m
  go_enter Tryd.func19, Tryd.ntmps19
  go_wp2
  go_loopw [3, 4] (fun v i wr => ∃ k : Nat, k ≤ 8 ∧ i = .int .i64 k ∧ wr.ownsRow (w.heap.size + 1) 3 1 v (MT k).length ((MT k).map fun (x : Nat) => Value.int .i64 (x : Int)) ∧ Blk wr w.heap.size 23 #[.int .i64 s0, .int .i64 s1, .int .i64 s2, .int .i64 s3, .int .i64 s4] ∧ Below w.heap.size w wr)
    (fun _ i _ => 8 - (intOf i).toNat)
  case atStart => exact ⟨0, by omega, rfl, by rw [HM0.out]; exact World.ownsRow_nil _ _ _ _, Blk.new w 23 _, (Below.refl _ _).alloc (Nat.le_refl _) _⟩
  case round =>
    obtain ⟨k, hk, rfl, hrow, q1, hBr⟩ := hrel
    obtain ⟨⟨p0, p1, p2, p3, p4⟩, -⟩ := q1.five
    have hlw : w.heap.size < wr.heap.size := q1.lt
    have hlen := HML.out k
    by_cases hlt : k < 8
    · have hH := HALL.out k wr
      by_cases hb : hc (k : Int) = true
      · rw [hb] at hH
        have HH := Lib.hid hH; have HB := Lib.hid hb; clear hH hb
        go_wp2_with fail
        refine HH.out.mono ?_
        rintro e w3 ⟨rfl, hb3⟩
        dsimp only
        have hrow3 := own_on4 hrow hb3
        have q3 := q1.below hb3 q1.lt
        have hB3 := hBr.trans (hb3.mono hBr.size)
        have hs3 := hb3.size
        clear hrow hb3
        go_wp2_with (at_builtin; refine wpList_append_own _ rfl _ _ 39 rfl (w.heap.size + 1) 3 i0 (.int .i64 0) 1 8 Tryd.underlying39 hi hz0 hz1 hz2 rfl (by decide) u3 _ _ rfl (hrow3.alloc _) ⟨w3.heap.size, 0, none⟩ 1 1 [.int .i64 (k : Int)] rfl rfl (cell_one_new _ _ _) (by simp [Value.oneCell']) (by unfold maxLen; omega) (by omega) (by simp; omega) ?_; intro v' w2 hown' hgrow _; have hq1 := own_grown_low hrow3 hgrow w.heap.size (by omega) q3.lt)
        go_roundw
        case rel =>
          refine ⟨k + 1, by omega, by go_num, ?_, hq1.trans q3, own_below hrow3 hgrow hB3 (by omega) hB3.size⟩
          rw [HMS.out k HB.out, List.map_append, List.length_append]
          exact hown'
        case measure => simp [intOf]; omega
      · rw [Bool.not_eq_true] at hb
        rw [hb] at hH
        have HH := Lib.hid hH; have HB := Lib.hid hb; clear hH hb
        go_wp2_with fail
        refine HH.out.mono ?_
        rintro e w3 ⟨rfl, hb3⟩
        dsimp only
        go_wp2
        go_roundw
        case rel => exact ⟨k + 1, by omega, by go_num, by rw [HMN.out k HB.out]; exact own_on4 hrow hb3, q1.below hb3 q1.lt, hBr.trans (hb3.mono hBr.size)⟩
        case measure => simp [intOf]; omega
    · obtain rfl : k = 8 := by omega
      go_wp2
      go_ret
      exact ⟨_, rfl, own_mono hrow (by omega), hBr⟩
end Go.Proofs.YteigekhfamapmaaDoor
