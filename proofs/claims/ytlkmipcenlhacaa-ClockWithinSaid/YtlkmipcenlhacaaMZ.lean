/-
  The document's own Plain of layer 7, for numbers within their limits. Condition: that. (Printed by tools/gen07z.py.)
-/
import Derived.Test.YtlkmipcenlhacaaMY
namespace Go.Proofs.Ytlkmipcenlhacaa
open Go.RowKit

set_option maxRecDepth 100000 in
set_option maxHeartbeats 8000000 in
theorem rplain_good (m : Nat) (d : Int) (w : World) (h0 : 4 ≤ m) (h1 : m ≤ 8) (d0 : 0 ≤ d) (d1 : d ≤ 64) : Calls Try.prog 32 #[.int .i64 (m : Int), .int .i64 d] w fun e w' =>
    ∃ c s : Slc, e = .returned (.tuple #[vM (plainM m d) c s, .int .i64 0]) ∧ Med w' (plainM m d) c s ∧ Below w.heap.size w w' := by
  obtain ⟨i0, hi, hz0, hz1, hz2⟩ := info_parts Try.infoRB
  obtain ⟨j0, hj, hy0, hy1, hy2⟩ := info_parts Try.infoRI
  obtain ⟨kr, kq, kn, ko, bc⟩ := bx4 w #[.int .i64 0, .int .i64 0, .int .i64 0, .int .i64 0, .int .i64 0, .int .i64 0, .slice none 0 0, .slice none 0 0] #[.int .i64 (m : Int), .int .i64 0, .int .i64 0, .int .i64 0, .int .i64 d, .int .i64 1, .slice none 0 0, .slice none 0 0] #[.bool true] #[.slice none 0 0, .slice none 0 0, .slice (some ⟨w.heap.size + 1 + 1, 0, none⟩) 1 1] 25 25 4 71
  have c1 : decide ((m : Int) < 4) = false := by simp; omega
  have c2 : decide (8 < (m : Int)) = false := by simp; omega
  have c3 : decide (d < 0) = false := by simp; omega
  have c4 : decide (64 < d) = false := by simp; omega
  go_enter Try.func32, Try.ntmps32
  go_wp2_with fail
  clear c1 c2 c3 c4
  have hat : PlAt w m 0 0 0 d (.slice none 0 0) (.slice none 0 0) (.slice none 0 0) _ := ⟨kr, kq, kn, ko, World.ownsRow_nil _ _ _ _, World.ownsRow_nil _ _ _ _, World.ownsRow_nil _ _ _ _, .inl rfl, bc⟩
  clear kr kq kn ko bc
  go_loopw [8] (fun i wr => ∃ k : Nat, k ≤ m ∧ i = .int .i64 k ∧ ∃ vC vD vX, PlAt w m k k k d vC vD vX wr) (fun i _ => m - (intOf i).toNat)
  case atStart => exact ⟨0, by omega, rfl, _, _, _, hat⟩
  case round =>
    obtain ⟨k, hk, rfl, vC, vD, vX, hP⟩ := hrel
    clear hat
    by_cases hlt : k < m
    · obtain ⟨p0, p1, p2, p3, p4, p5, p6, p7⟩ := hP.q.eight
      have l1 := hP.q.lt; have l2 := hP.o.lt
      go_upto_region 9 with (at_builtin; refine wpList_append_own_at _ rfl _ _ 22 rfl (w.heap.size + 4) 4 i0 (.bool false) 1 1 Try.underlying22 hi hz0 hz1 hz2 rfl (by decide) vC k _ rfl (hP.C.alloc _) ⟨wr.heap.size, 0, none⟩ 1 1 [.bool true] rfl rfl (cell_one_new _ _ _) (by simp [Value.oneCell']) (by unfold maxLen; omega) (by omega) (by have := hP.lt; simp; omega) ?_; intro v' w1 hown hgrow _ hat; obtain ⟨A1, cA1, rfl⟩ := own_slice hown; obtain ⟨hQ, s1, f1⟩ := hP.putC hgrow hown hat)
      clear hP hown hgrow hat s1 f1 p0 p1 p2 p3 p4 p5 p6 p7 l1 l2
      generalize w1.setCell ⟨w.heap.size + 1, 6, none⟩ (.slice A1 (k + 1) cA1) = u1 at *
      obtain ⟨p0, p1, p2, -⟩ := hQ.o.three; have l2 := hQ.o.lt
      go_upto_region 10 with (at_builtin; refine wpList_append_own_at _ rfl _ _ 69 rfl (w.heap.size + 4) 3 j0 (.int .i64 0) 1 8 Try.underlying69 hj hy0 hy1 hy2 rfl (by decide) vD k _ rfl (hQ.D.alloc _) ⟨u1.heap.size, 0, none⟩ 1 1 [.int .i64 2] rfl rfl (cell_one_new _ _ _) (by simp [Value.oneCell']) (by unfold maxLen; omega) (by omega) (by have := hQ.lt; simp; omega) ?_; intro v' w1 hown hgrow _ hat; obtain ⟨A2, cA2, rfl⟩ := own_slice hown; obtain ⟨hS, s1, f1⟩ := hQ.putD hgrow hown)
      clear hQ hown hgrow hat s1 f1 p0 p1 p2 l2
      generalize w1.setCell ⟨w.heap.size + 1 + 1 + 1, 0, none⟩ (.slice A2 (k + 1) cA2) = u2 at *
      obtain ⟨p0, p1, p2, -⟩ := hS.o.three; have l2 := hS.o.lt
      go_wp2_with (at_builtin; refine wpList_append_own_at _ rfl _ _ 22 rfl (w.heap.size + 4) 4 i0 (.bool false) 1 1 Try.underlying22 hi hz0 hz1 hz2 rfl (by decide) vX k _ rfl (hS.X.alloc _) ⟨u2.heap.size, 0, none⟩ 1 1 [.bool true] rfl rfl (cell_one_new _ _ _) (by simp [Value.oneCell']) (by unfold maxLen; omega) (by omega) (by have := hS.lt; simp; omega) ?_; intro v' w1 hown hgrow _ hat; obtain ⟨A3, cA3, rfl⟩ := own_slice hown; obtain ⟨hT, s1, f1⟩ := hS.putX hgrow hown hat)
      go_roundw
      case rel => exact ⟨k + 1, by omega, by go_num, _, _, _, hT⟩
      case measure => simp [intOf]; omega
    · obtain rfl : k = m := by omega
      obtain ⟨gc, cc, curC, rfl, bC, kc, hc⟩ := row_block hP.C (by omega)
      obtain ⟨gd, cd, curD, rfl, bD, kd, hd⟩ := row_block hP.D (by omega)
      obtain ⟨gx, cx, curX, rfl, bX, kx, hx⟩ := row_block hP.X (by omega)
      have kr := hP.r; have kb := hP.q; have kn := hP.n; have ko := hP.o; have bc := hP.b; clear hP hi hz0 hz1 hz2 hj hy0 hy1 hy2
      obtain ⟨hp0, hp1⟩ := mul_small (N := (k : Int)) (D := d) (by omega) (by omega) d0 d1
      have e1 : 16 * (k : Int) * d = 16 * ((k : Int) * d) := Int.mul_assoc _ _ _
      obtain ⟨X, hX⟩ : ∃ X, 16 * (k : Int) * d + 16 = X := ⟨_, rfl⟩
      have hX0 : 16 ≤ X ∧ X ≤ 8208 := by rw [← hX, e1]; omega
      obtain ⟨Y, hY⟩ : ∃ Y, 2 * X + 2 + 4 = Y := ⟨_, rfl⟩
      have hY0 : 0 ≤ Y ∧ Y ≤ 20000 := by omega
      obtain ⟨M, hM⟩ : ∃ M, maxAirS (k : Int) (plainB k) = M := ⟨_, rfl⟩
      have har := maxAir_range (k : Int) (plainB k)
      rw [hM] at har
      obtain ⟨Z, hZ⟩ : ∃ Z, 2 * Y + M = Z := ⟨_, rfl⟩
      have hpl : plainM k d = ⟨k, Z, Y, X, d, 1, List.replicate k true, plainB k⟩ := by unfold plainM plainG plainW; rw [hM, hX, show 2 * X + 2 * 1 + 4 = Y by omega, hZ]
      have w1 : IntKind.i64.wrap (16 * (k : Int)) = 16 * (k : Int) := IntWalk.i64_in _ (by omega)
      have w2 : IntKind.i64.wrap (16 * (k : Int) * d) = 16 * (k : Int) * d := IntWalk.i64_in _ (by omega)
      have w3 : IntKind.i64.wrap (16 * (k : Int) * d + 16) = X := by rw [hX]; exact IntWalk.i64_in _ (by omega)
      have w4 : IntKind.i64.wrap (2 * X) = 2 * X := IntWalk.i64_in _ (by omega)
      have w5 : IntKind.i64.wrap (2 * X + 2) = 2 * X + 2 := IntWalk.i64_in _ (by omega)
      have w6 : IntKind.i64.wrap (2 * X + 2 + 4) = Y := by rw [hY]; exact IntWalk.i64_in _ (by omega)
      have w7 : IntKind.i64.wrap (2 * Y) = 2 * Y := IntWalk.i64_in _ (by omega)
      have w8 : IntKind.i64.wrap (2 * Y + M) = Z := by rw [hZ]; exact IntWalk.i64_in _ (by omega)
      have HPL := Lib.hid hpl; have HM := Lib.hid hM; clear hpl hX hY hZ e1 hp0 hp1 hX0 hY0 har hM
      obtain ⟨p0, p1, p2, p3, p4, p5, p6, p7⟩ := kb.eight
      obtain ⟨f0, f1, f2, f3, f4, f5, f6, f7⟩ := kb.eightF
      obtain ⟨q0, q1, q2, -⟩ := ko.three
      have l1 := kb.lt; have l2 := ko.lt
      go_upto_region 14 with fail
      clear p0 p1 p2 p3 p4 p5 p6 p7 f0 f1 f2 f3 f4 f5 f6 f7 q0 q1 q2 w1 w2 w3 w4 w5 w6
      have hG1 := only_setCell (World.grownBy.refl wr (some (w.heap.size + 1))) (p := ⟨w.heap.size + 1, 7, none⟩) (.inl rfl) (.slice (some ⟨wr.heap.size, 0, none⟩) 1 1)
      have hG2 := only_setCell hG1 (p := ⟨w.heap.size + 1, 3, none⟩) (.inl rfl) (.int .i64 X)
      have hG := only_setCell hG2 (p := ⟨w.heap.size + 1, 2, none⟩) (.inl rfl) (.int .i64 Y)
      clear hG1 hG2
      have kb2 : Blk (((wr.setCell ⟨w.heap.size + 1, 7, none⟩ (.slice (some ⟨wr.heap.size, 0, none⟩) 1 1)).setCell ⟨w.heap.size + 1, 3, none⟩ (.int .i64 X)).setCell ⟨w.heap.size + 1, 2, none⟩ (.int .i64 Y)) (w.heap.size + 1) 25 #[.int .i64 (k : Int), .int .i64 0, .int .i64 Y, .int .i64 X, .int .i64 d, .int .i64 1, .slice (some ⟨gc, 0, none⟩) k cc, .slice (some ⟨wr.heap.size, 0, none⟩) 1 1] := by simpa using ((kb.set_ 7 _).set_ 3 (.int .i64 X)).set_ 2 (.int .i64 Y)
      replace kr := (kr.grown hG (some_ne (by omega))).alloc (.cells #[.slice (some ⟨gd, 0, none⟩) k cd, .slice (some ⟨gx, 0, none⟩) k cx, .slice (some ⟨w.heap.size + 1 + 1, 0, none⟩) 1 1] 71)
      replace ko := (ko.grown hG (some_ne (by omega))).alloc (.cells #[.slice (some ⟨gd, 0, none⟩) k cd, .slice (some ⟨gx, 0, none⟩) k cx, .slice (some ⟨w.heap.size + 1 + 1, 0, none⟩) 1 1] 71)
      replace kn := (kn.grown hG (some_ne (by omega))).alloc (.cells #[.slice (some ⟨gd, 0, none⟩) k cd, .slice (some ⟨gx, 0, none⟩) k cx, .slice (some ⟨w.heap.size + 1 + 1, 0, none⟩) 1 1] 71)
      replace kc := (kc.grown hG (some_ne (by omega))).alloc (.cells #[.slice (some ⟨gd, 0, none⟩) k cd, .slice (some ⟨gx, 0, none⟩) k cx, .slice (some ⟨w.heap.size + 1 + 1, 0, none⟩) 1 1] 71)
      replace kd := (kd.grown hG (some_ne (by omega))).alloc (.cells #[.slice (some ⟨gd, 0, none⟩) k cd, .slice (some ⟨gx, 0, none⟩) k cx, .slice (some ⟨w.heap.size + 1 + 1, 0, none⟩) 1 1] 71)
      replace kx := (kx.grown hG (some_ne (by omega))).alloc (.cells #[.slice (some ⟨gd, 0, none⟩) k cd, .slice (some ⟨gx, 0, none⟩) k cx, .slice (some ⟨w.heap.size + 1 + 1, 0, none⟩) 1 1] 71)
      replace kb := kb2.alloc (.cells #[.slice (some ⟨gd, 0, none⟩) k cd, .slice (some ⟨gx, 0, none⟩) k cx, .slice (some ⟨w.heap.size + 1 + 1, 0, none⟩) 1 1] 71)
      have ks := Blk.new (((wr.setCell ⟨w.heap.size + 1, 7, none⟩ (.slice (some ⟨wr.heap.size, 0, none⟩) 1 1)).setCell ⟨w.heap.size + 1, 3, none⟩ (.int .i64 X)).setCell ⟨w.heap.size + 1, 2, none⟩ (.int .i64 Y)) 71 #[.slice (some ⟨gd, 0, none⟩) k cd, .slice (some ⟨gx, 0, none⟩) k cx, .slice (some ⟨w.heap.size + 1 + 1, 0, none⟩) 1 1]
      rw [show (((wr.setCell ⟨w.heap.size + 1, 7, none⟩ (.slice (some ⟨wr.heap.size, 0, none⟩) 1 1)).setCell ⟨w.heap.size + 1, 3, none⟩ (.int .i64 X)).setCell ⟨w.heap.size + 1, 2, none⟩ (.int .i64 Y)).heap.size = wr.heap.size by simp] at ks
      replace bc := below_then (Below.off bc bc.size (by omega) hG) (Below.al (((wr.setCell ⟨w.heap.size + 1, 7, none⟩ (.slice (some ⟨wr.heap.size, 0, none⟩) 1 1)).setCell ⟨w.heap.size + 1, 3, none⟩ (.int .i64 X)).setCell ⟨w.heap.size + 1, 2, none⟩ (.int .i64 Y)) (.cells #[.slice (some ⟨gd, 0, none⟩) k cd, .slice (some ⟨gx, 0, none⟩) k cx, .slice (some ⟨w.heap.size + 1 + 1, 0, none⟩) 1 1] 71))
      clear hG kb2
      have hgs : w.heap.size + 4 ≤ wr.heap.size := l2
      generalize (((wr.setCell ⟨w.heap.size + 1, 7, none⟩ (.slice (some ⟨wr.heap.size, 0, none⟩) 1 1)).setCell ⟨w.heap.size + 1, 3, none⟩ (.int .i64 X)).setCell ⟨w.heap.size + 1, 2, none⟩ (.int .i64 Y)).alloc (.cells #[.slice (some ⟨gd, 0, none⟩) k cd, .slice (some ⟨gx, 0, none⟩) k cx, .slice (some ⟨w.heap.size + 1 + 1, 0, none⟩) 1 1] 71) = u3 at *
      generalize wr.heap.size = gs at *
      have hma := fun U (h : Below u3.heap.size u3 U) => rmaxAir_any ⟨(k : Int), 0, Y, X, d, 1, List.replicate k true, plainB k⟩ ⟨some ⟨gc, 0, none⟩, k, cc⟩ ⟨some ⟨gs, 0, none⟩, 1, 1⟩ U ((med_rows h1 kc hc ks kd hd kx hx kn).on h)
      dsimp only [vM] at hma
      rw [HM.out] at hma
      have HMA := Lib.hid hma; clear hma l1 l2
      have bs : Below u3.heap.size u3 u3.drew := (Below.refl _ _).drew
      replace kr := kr.on bs; replace ko := ko.on bs; replace kn := kn.on bs; replace kc := kc.on bs; replace kd := kd.on bs; replace kx := kx.on bs; replace kb := kb.on bs; replace ks := ks.on bs; replace bc := bc.trans (bs.mono bc.size)
      obtain ⟨p0, p1, p2, p3, p4, p5, p6, p7⟩ := kb.eight
      obtain ⟨f0, f1, f2, f3, f4, f5, f6, f7⟩ := kb.eightF
      have l1 := kb.lt
      go_region_with (go_at_call 31; refine (HMA.out _ bs).mono ?_; rintro e w9 ⟨rfl, hC⟩; (try dsimp only); replace kb := kb.on hC; obtain ⟨p0, p1, p2, p3, p4, p5, p6, p7⟩ := kb.eight; obtain ⟨f0, f1, f2, f3, f4, f5, f6, f7⟩ := kb.eightF)
      all_goals
        clear p0 p1 p2 p3 p4 p5 p6 p7 f0 f1 f2 f3 f4 f5 f6 f7 l1 HMA bs w7 w8
        replace kr := kr.on hC; replace ko := ko.on hC; replace kn := kn.on hC; replace kc := kc.on hC; replace kd := kd.on hC; replace kx := kx.on hC; replace ks := ks.on hC; replace bc := bc.trans (hC.mono bc.size); clear hC
        have hG := only_setCell (World.grownBy.refl w9 (some (w.heap.size + 1))) (p := ⟨w.heap.size + 1, 1, none⟩) (.inl rfl) (.int .i64 Z)
        have kb2 : Blk (w9.setCell ⟨w.heap.size + 1, 1, none⟩ (.int .i64 Z)) (w.heap.size + 1) 25 #[.int .i64 (k : Int), .int .i64 Z, .int .i64 Y, .int .i64 X, .int .i64 d, .int .i64 1, .slice (some ⟨gc, 0, none⟩) k cc, .slice (some ⟨gs, 0, none⟩) 1 1] := by simpa using kb.set_ 1 (.int .i64 Z)
        replace kr := kr.grown hG (some_ne (by omega))
        replace ko := ko.grown hG (some_ne (by omega))
        replace kn := kn.grown hG (some_ne (by omega))
        replace kc := kc.grown hG (some_ne (by omega))
        replace kd := kd.grown hG (some_ne (by omega))
        replace kx := kx.grown hG (some_ne (by omega))
        replace ks := ks.grown hG (some_ne (by omega))
        replace bc := Below.off bc bc.size (by omega) hG
        clear hG kb
        have kb := kb2; clear kb2
        generalize (w9.setCell ⟨w.heap.size + 1, 1, none⟩ (.int .i64 Z)) = u4 at *
        obtain ⟨p0, p1, p2, p3, p4, p5, p6, p7⟩ := kb.eight
        have hst := run_storeVar_row (P := Try.prog) u4 w.heap.size 25 25 _ #[.int .i64 (k : Int), .int .i64 Z, .int .i64 Y, .int .i64 X, .int .i64 d, .int .i64 1, .slice (some ⟨gc, 0, none⟩) k cc, .slice (some ⟨gs, 0, none⟩) 1 1] kr infoM rfl (by simp [Value.oneCell'])
        simp [go_sem] at hst
        have hG := only_setRow u4 w.heap.size #[.int .i64 (k : Int), .int .i64 Z, .int .i64 Y, .int .i64 X, .int .i64 d, .int .i64 1, .slice (some ⟨gc, 0, none⟩) k cc, .slice (some ⟨gs, 0, none⟩) 1 1]
        replace ko := ko.grown hG (some_ne (by omega))
        replace kn := kn.grown hG (some_ne (by omega))
        replace kc := kc.grown hG (some_ne (by omega))
        replace kd := kd.grown hG (some_ne (by omega))
        replace kx := kx.grown hG (some_ne (by omega))
        replace ks := ks.grown hG (some_ne (by omega))
        replace bc := Below.off bc bc.size (Nat.le_refl _) hG
        have kr2 := kr.row8 #[.int .i64 (k : Int), .int .i64 Z, .int .i64 Y, .int .i64 X, .int .i64 d, .int .i64 1, .slice (some ⟨gc, 0, none⟩) k cc, .slice (some ⟨gs, 0, none⟩) 1 1]
        have HMED := Lib.hid (med_rows (N := k) (S := Z) (G := Y) (W := X) (D := d) (L := 1) (cc := cc) h1 kc hc ks kd hd kx hx kn)
        obtain ⟨q0, q1, q2, q3, q4, q5, q6, q7⟩ := kr2.eight
        clear hG kb kr kn kd kx ko kc ks kr2 hc hd hx
        have BC := Lib.hid bc; clear bc
        go_wp2_with fail
        refine bodyPost_ret (v := .tuple #[.agg #[.int .i64 (k : Int), .int .i64 Z, .int .i64 Y, .int .i64 X, .int .i64 d, .int .i64 1, .slice (some ⟨gc, 0, none⟩) k cc, .slice (some ⟨gs, 0, none⟩) 1 1], .int .i64 0]) (by simp [results, Try.results32, go_sem, q0, q1, q2, q3, q4, q5, q6, q7]) rfl ?_
        rw [HPL.out]
        exact ⟨⟨some ⟨gc, 0, none⟩, k, cc⟩, ⟨some ⟨gs, 0, none⟩, 1, 1⟩, rfl, HMED.out, BC.out⟩
end Go.Proofs.Ytlkmipcenlhacaa
