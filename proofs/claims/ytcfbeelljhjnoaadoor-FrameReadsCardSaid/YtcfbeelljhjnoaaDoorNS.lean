/-
  Good and Explicit of package frame: they answer as the document says. Conditions: that the bytes can be read, and that the program's tables hold what its text lays.
-/
import Derived.Test.YtcfbeelljhjnoaaDoorNR
namespace Go.Proofs.YtcfbeelljhjnoaaDoor
open Go.RowKit

set_option maxRecDepth 8000 in
set_option maxHeartbeats 4000000 in
theorem good_any (N : Int) (A : Option Addr) (n c : Nat) (bs : List UInt8) (C : CS) (w : World) (hn : n = bs.length) (hm : n ≤ maxLen) (hA : Byt w.heap.size w A bs) (hT : Tab w) (hW : WTab w) :
    Calls Tryd.prog 20 #[.agg #[.int .i64 N, .slice A n c], .agg C.cells] w (ResG w (goodF N bs C)) := by
  have h1 := fun (W : World) (hb : Below w.heap.size w W) => parse_any N A n c bs C W hn hm (hA.on hb) (hT.on hb) (hW.on hb)
  unfold goodF
  generalize readF N bs C = R at *
  obtain ⟨er, fK, fR, ⟨fT, fP, fM, fN, fE⟩, fF, fd⟩ := R
  obtain ⟨C0, C1, C2, C3, C4⟩ := C
  unfold ResF at h1
  unfold FR.cells CS.cells at h1
  unfold CS.cells
  dsimp only at h1 ⊢
  have H1 := Lib.hid h1; clear h1 hn hm hA
  by_cases e0 : er = 0
  rotate_left
  · rw [if_neg (fun h => absurd h.1 e0)]
    have d1 : (er == 0) = false := by simpa using e0
    obtain ⟨kb, kc, kr, bc⟩ := bx3 w #[.int .i64 N, .slice A n c] #[.int .i64 C0, .int .i64 C1, .int .i64 C2, .int .i64 C3, .int .i64 C4] #[.int .i64 0, .int .i64 0, .int .i64 0, .int .i64 0, .int .i64 0, .int .i64 0, .int .i64 0, .int .i64 0, .slice none 0 0] 28 23 26
    go_enter Tryd.func20, Tryd.ntmps20
    go_wp2_with fail
    generalize ((w.alloc (.cells #[.int .i64 N, .slice A n c] 28)).alloc (.cells #[.int .i64 C0, .int .i64 C1, .int .i64 C2, .int .i64 C3, .int .i64 C4] 23)).alloc (.cells #[.int .i64 0, .int .i64 0, .int .i64 0, .int .i64 0, .int .i64 0, .int .i64 0, .int .i64 0, .int .i64 0, .slice none 0 0] 26) = u1 at *
    refine (H1.out _ bc).mono ?_
    rintro e w1 ⟨A8, n8, c8, rfl, hn8, y8, hC⟩
    dsimp only at y8 ⊢
    replace kb := kb.on hC; replace kc := kc.on hC; replace kr := kr.on hC; replace bc := bc.trans (hC.mono bc.size); clear hC
    have HN8 := Lib.hid hn8; clear hn8
    have z_kf_kb := kb.lt
    have z_kf_kc := kc.lt
    have z_kf_kr := kr.lt
    have zb_kf := bc.size
    have kf := Blk.new w1 26 #[.int .i64 fK, .int .i64 fR, .int .i64 fT, .int .i64 fP, .int .i64 fM, .int .i64 fN, .int .i64 fE, .int .i64 fF, .slice A8 n8 c8]
    have al := Below.al w1 (.cells #[.int .i64 fK, .int .i64 fR, .int .i64 fT, .int .i64 fP, .int .i64 fM, .int .i64 fN, .int .i64 fE, .int .i64 fF, .slice A8 n8 c8] 26)
    replace kb := kb.on al; replace kc := kc.on al; replace kr := kr.on al; replace y8 := y8.on al; replace bc := bc.trans (al.mono bc.size); clear al
    obtain ⟨pkf_0, pkf_1, pkf_2, pkf_3, pkf_4, pkf_5, pkf_6, pkf_7, pkf_8⟩ := kf.nine
    obtain ⟨pkf_0f, pkf_1f, pkf_2f, pkf_3f, pkf_4f, pkf_5f, pkf_6f, pkf_7f, pkf_8f⟩ := kf.nineF
    obtain ⟨⟨pkc_0, pkc_1, pkc_2, pkc_3, pkc_4⟩, pkc_0f, pkc_1f, pkc_2f, pkc_3f, pkc_4f⟩ := kc.five
    have hst := run_storeVar_row (P := Tryd.prog) (w1.alloc (.cells #[.int .i64 fK, .int .i64 fR, .int .i64 fT, .int .i64 fP, .int .i64 fM, .int .i64 fN, .int .i64 fE, .int .i64 fF, .slice A8 n8 c8] 26)) (w.heap.size + 1 + 1) 26 26 _ #[.int .i64 0, .int .i64 0, .int .i64 0, .int .i64 0, .int .i64 0, .int .i64 0, .int .i64 0, .int .i64 0, .slice none 0 0] kr info26 rfl (by simp [Value.oneCell'])
    simp [go_sem, z_kf_kr] at hst
    have hG := only_setRow (w1.alloc (.cells #[.int .i64 fK, .int .i64 fR, .int .i64 fT, .int .i64 fP, .int .i64 fM, .int .i64 fN, .int .i64 fE, .int .i64 fF, .slice A8 n8 c8] 26)) (w.heap.size + 1 + 1) #[.int .i64 0, .int .i64 0, .int .i64 0, .int .i64 0, .int .i64 0, .int .i64 0, .int .i64 0, .int .i64 0, .slice none 0 0]
    replace kb := kb.grown hG (some_ne (by omega)); replace kc := kc.grown hG (some_ne (by omega)); replace kf := kf.grown hG (some_ne (by omega)); replace y8 := y8.off kr (no_u8_9 _ _ _ _ _ _ _ _ _ _ _) hG; replace bc := Below.off bc bc.size (by omega) hG; replace kr := Blk.row kr #[.int .i64 0, .int .i64 0, .int .i64 0, .int .i64 0, .int .i64 0, .int .i64 0, .int .i64 0, .int .i64 0, .slice none 0 0]; clear hG
    go_wp2
    obtain ⟨xkr_0, xkr_1, xkr_2, xkr_3, xkr_4, xkr_5, xkr_6, xkr_7, xkr_8⟩ := kr.nine
    obtain ⟨xkr_0f, xkr_1f, xkr_2f, xkr_3f, xkr_4f, xkr_5f, xkr_6f, xkr_7f, xkr_8f⟩ := kr.nineF
    exact bodyPost_ret (v := .tuple #[.agg #[.int .i64 0, .int .i64 0, .int .i64 0, .int .i64 0, .int .i64 0, .int .i64 0, .int .i64 0, .int .i64 0, .slice none 0 0], .bool false]) (by simp [results, Tryd.results20, go_sem, xkr_0, xkr_1, xkr_2, xkr_3, xkr_4, xkr_5, xkr_6, xkr_7, xkr_8]) rfl ⟨none, 0, 0, rfl, rfl, Byt.none _, bc⟩
  subst e0
  by_cases e1 : fK = 1
  · subst e1
    rw [if_neg (fun h => absurd rfl h.2.1)]
    obtain ⟨kb, kc, kr, bc⟩ := bx3 w #[.int .i64 N, .slice A n c] #[.int .i64 C0, .int .i64 C1, .int .i64 C2, .int .i64 C3, .int .i64 C4] #[.int .i64 0, .int .i64 0, .int .i64 0, .int .i64 0, .int .i64 0, .int .i64 0, .int .i64 0, .int .i64 0, .slice none 0 0] 28 23 26
    go_enter Tryd.func20, Tryd.ntmps20
    go_wp2_with fail
    generalize ((w.alloc (.cells #[.int .i64 N, .slice A n c] 28)).alloc (.cells #[.int .i64 C0, .int .i64 C1, .int .i64 C2, .int .i64 C3, .int .i64 C4] 23)).alloc (.cells #[.int .i64 0, .int .i64 0, .int .i64 0, .int .i64 0, .int .i64 0, .int .i64 0, .int .i64 0, .int .i64 0, .slice none 0 0] 26) = u1 at *
    refine (H1.out _ bc).mono ?_
    rintro e w1 ⟨A8, n8, c8, rfl, hn8, y8, hC⟩
    dsimp only at y8 ⊢
    replace kb := kb.on hC; replace kc := kc.on hC; replace kr := kr.on hC; replace bc := bc.trans (hC.mono bc.size); clear hC
    have HN8 := Lib.hid hn8; clear hn8
    have z_kf_kb := kb.lt
    have z_kf_kc := kc.lt
    have z_kf_kr := kr.lt
    have zb_kf := bc.size
    have kf := Blk.new w1 26 #[.int .i64 1, .int .i64 fR, .int .i64 fT, .int .i64 fP, .int .i64 fM, .int .i64 fN, .int .i64 fE, .int .i64 fF, .slice A8 n8 c8]
    have al := Below.al w1 (.cells #[.int .i64 1, .int .i64 fR, .int .i64 fT, .int .i64 fP, .int .i64 fM, .int .i64 fN, .int .i64 fE, .int .i64 fF, .slice A8 n8 c8] 26)
    replace kb := kb.on al; replace kc := kc.on al; replace kr := kr.on al; replace y8 := y8.on al; replace bc := bc.trans (al.mono bc.size); clear al
    obtain ⟨pkf_0, pkf_1, pkf_2, pkf_3, pkf_4, pkf_5, pkf_6, pkf_7, pkf_8⟩ := kf.nine
    obtain ⟨pkf_0f, pkf_1f, pkf_2f, pkf_3f, pkf_4f, pkf_5f, pkf_6f, pkf_7f, pkf_8f⟩ := kf.nineF
    obtain ⟨⟨pkc_0, pkc_1, pkc_2, pkc_3, pkc_4⟩, pkc_0f, pkc_1f, pkc_2f, pkc_3f, pkc_4f⟩ := kc.five
    have hst := run_storeVar_row (P := Tryd.prog) (w1.alloc (.cells #[.int .i64 1, .int .i64 fR, .int .i64 fT, .int .i64 fP, .int .i64 fM, .int .i64 fN, .int .i64 fE, .int .i64 fF, .slice A8 n8 c8] 26)) (w.heap.size + 1 + 1) 26 26 _ #[.int .i64 0, .int .i64 0, .int .i64 0, .int .i64 0, .int .i64 0, .int .i64 0, .int .i64 0, .int .i64 0, .slice none 0 0] kr info26 rfl (by simp [Value.oneCell'])
    simp [go_sem, z_kf_kr] at hst
    have hG := only_setRow (w1.alloc (.cells #[.int .i64 1, .int .i64 fR, .int .i64 fT, .int .i64 fP, .int .i64 fM, .int .i64 fN, .int .i64 fE, .int .i64 fF, .slice A8 n8 c8] 26)) (w.heap.size + 1 + 1) #[.int .i64 0, .int .i64 0, .int .i64 0, .int .i64 0, .int .i64 0, .int .i64 0, .int .i64 0, .int .i64 0, .slice none 0 0]
    replace kb := kb.grown hG (some_ne (by omega)); replace kc := kc.grown hG (some_ne (by omega)); replace kf := kf.grown hG (some_ne (by omega)); replace y8 := y8.off kr (no_u8_9 _ _ _ _ _ _ _ _ _ _ _) hG; replace bc := Below.off bc bc.size (by omega) hG; replace kr := Blk.row kr #[.int .i64 0, .int .i64 0, .int .i64 0, .int .i64 0, .int .i64 0, .int .i64 0, .int .i64 0, .int .i64 0, .slice none 0 0]; clear hG
    go_wp2
    obtain ⟨xkr_0, xkr_1, xkr_2, xkr_3, xkr_4, xkr_5, xkr_6, xkr_7, xkr_8⟩ := kr.nine
    obtain ⟨xkr_0f, xkr_1f, xkr_2f, xkr_3f, xkr_4f, xkr_5f, xkr_6f, xkr_7f, xkr_8f⟩ := kr.nineF
    exact bodyPost_ret (v := .tuple #[.agg #[.int .i64 0, .int .i64 0, .int .i64 0, .int .i64 0, .int .i64 0, .int .i64 0, .int .i64 0, .int .i64 0, .slice none 0 0], .bool false]) (by simp [results, Tryd.results20, go_sem, xkr_0, xkr_1, xkr_2, xkr_3, xkr_4, xkr_5, xkr_6, xkr_7, xkr_8]) rfl ⟨none, 0, 0, rfl, rfl, Byt.none _, bc⟩
  have d1 : (fK == 1) = false := by simpa using e1
  by_cases e2 : fT = C0 ∧ fP = C1 ∧ fM = C2 ∧ fN = C3 ∧ fE = C4
  · have hp : (0 : Int) = 0 ∧ fK ≠ 1 ∧ sameC ⟨fT, fP, fM, fN, fE⟩ ⟨C0, C1, C2, C3, C4⟩ = true := ⟨rfl, e1, by simpa [sameC] using e2⟩
    rw [if_pos hp]
    clear hp
    obtain ⟨rfl, rfl, rfl, rfl, rfl⟩ := e2
    obtain ⟨kb, kc, kr, bc⟩ := bx3 w #[.int .i64 N, .slice A n c] #[.int .i64 fT, .int .i64 fP, .int .i64 fM, .int .i64 fN, .int .i64 fE] #[.int .i64 0, .int .i64 0, .int .i64 0, .int .i64 0, .int .i64 0, .int .i64 0, .int .i64 0, .int .i64 0, .slice none 0 0] 28 23 26
    go_enter Tryd.func20, Tryd.ntmps20
    go_wp2_with fail
    generalize ((w.alloc (.cells #[.int .i64 N, .slice A n c] 28)).alloc (.cells #[.int .i64 fT, .int .i64 fP, .int .i64 fM, .int .i64 fN, .int .i64 fE] 23)).alloc (.cells #[.int .i64 0, .int .i64 0, .int .i64 0, .int .i64 0, .int .i64 0, .int .i64 0, .int .i64 0, .int .i64 0, .slice none 0 0] 26) = u1 at *
    refine (H1.out _ bc).mono ?_
    rintro e w1 ⟨A8, n8, c8, rfl, hn8, y8, hC⟩
    dsimp only at y8 ⊢
    replace kb := kb.on hC; replace kc := kc.on hC; replace kr := kr.on hC; replace bc := bc.trans (hC.mono bc.size); clear hC
    have HN8 := Lib.hid hn8; clear hn8
    have z_kf_kb := kb.lt
    have z_kf_kc := kc.lt
    have z_kf_kr := kr.lt
    have zb_kf := bc.size
    have kf := Blk.new w1 26 #[.int .i64 fK, .int .i64 fR, .int .i64 fT, .int .i64 fP, .int .i64 fM, .int .i64 fN, .int .i64 fE, .int .i64 fF, .slice A8 n8 c8]
    have al := Below.al w1 (.cells #[.int .i64 fK, .int .i64 fR, .int .i64 fT, .int .i64 fP, .int .i64 fM, .int .i64 fN, .int .i64 fE, .int .i64 fF, .slice A8 n8 c8] 26)
    replace kb := kb.on al; replace kc := kc.on al; replace kr := kr.on al; replace y8 := y8.on al; replace bc := bc.trans (al.mono bc.size); clear al
    obtain ⟨pkf_0, pkf_1, pkf_2, pkf_3, pkf_4, pkf_5, pkf_6, pkf_7, pkf_8⟩ := kf.nine
    obtain ⟨pkf_0f, pkf_1f, pkf_2f, pkf_3f, pkf_4f, pkf_5f, pkf_6f, pkf_7f, pkf_8f⟩ := kf.nineF
    obtain ⟨⟨pkc_0, pkc_1, pkc_2, pkc_3, pkc_4⟩, pkc_0f, pkc_1f, pkc_2f, pkc_3f, pkc_4f⟩ := kc.five
    have hst := run_storeVar_row (P := Tryd.prog) (w1.alloc (.cells #[.int .i64 fK, .int .i64 fR, .int .i64 fT, .int .i64 fP, .int .i64 fM, .int .i64 fN, .int .i64 fE, .int .i64 fF, .slice A8 n8 c8] 26)) (w.heap.size + 1 + 1) 26 26 _ #[.int .i64 fK, .int .i64 fR, .int .i64 fT, .int .i64 fP, .int .i64 fM, .int .i64 fN, .int .i64 fE, .int .i64 fF, .slice A8 n8 c8] kr info26 rfl (by simp [Value.oneCell'])
    simp [go_sem, z_kf_kr] at hst
    have hG := only_setRow (w1.alloc (.cells #[.int .i64 fK, .int .i64 fR, .int .i64 fT, .int .i64 fP, .int .i64 fM, .int .i64 fN, .int .i64 fE, .int .i64 fF, .slice A8 n8 c8] 26)) (w.heap.size + 1 + 1) #[.int .i64 fK, .int .i64 fR, .int .i64 fT, .int .i64 fP, .int .i64 fM, .int .i64 fN, .int .i64 fE, .int .i64 fF, .slice A8 n8 c8]
    replace kb := kb.grown hG (some_ne (by omega)); replace kc := kc.grown hG (some_ne (by omega)); replace kf := kf.grown hG (some_ne (by omega)); replace y8 := y8.off kr (no_u8_9 _ _ _ _ _ _ _ _ _ _ _) hG; replace bc := Below.off bc bc.size (by omega) hG; replace kr := Blk.row kr #[.int .i64 fK, .int .i64 fR, .int .i64 fT, .int .i64 fP, .int .i64 fM, .int .i64 fN, .int .i64 fE, .int .i64 fF, .slice A8 n8 c8]; clear hG
    go_wp2
    obtain ⟨xkr_0, xkr_1, xkr_2, xkr_3, xkr_4, xkr_5, xkr_6, xkr_7, xkr_8⟩ := kr.nine
    obtain ⟨xkr_0f, xkr_1f, xkr_2f, xkr_3f, xkr_4f, xkr_5f, xkr_6f, xkr_7f, xkr_8f⟩ := kr.nineF
    exact bodyPost_ret (v := .tuple #[.agg #[.int .i64 fK, .int .i64 fR, .int .i64 fT, .int .i64 fP, .int .i64 fM, .int .i64 fN, .int .i64 fE, .int .i64 fF, .slice A8 n8 c8], .bool true]) (by simp [results, Tryd.results20, go_sem, xkr_0, xkr_1, xkr_2, xkr_3, xkr_4, xkr_5, xkr_6, xkr_7, xkr_8]) rfl ⟨A8, n8, c8, rfl, HN8.out, y8, bc⟩
  · rw [if_neg (fun h => e2 (by simpa [sameC] using h.2.2))]
    have hop := fun W => agg_no (s0 := fT) (t0 := C0) (s1 := fP) (t1 := C1) (s2 := fM) (t2 := C2) (s3 := fN) (t3 := C3) (s4 := fE) (t4 := C4) e2 W
    clear e2
    obtain ⟨kb, kc, kr, bc⟩ := bx3 w #[.int .i64 N, .slice A n c] #[.int .i64 C0, .int .i64 C1, .int .i64 C2, .int .i64 C3, .int .i64 C4] #[.int .i64 0, .int .i64 0, .int .i64 0, .int .i64 0, .int .i64 0, .int .i64 0, .int .i64 0, .int .i64 0, .slice none 0 0] 28 23 26
    go_enter Tryd.func20, Tryd.ntmps20
    go_wp2_with fail
    generalize ((w.alloc (.cells #[.int .i64 N, .slice A n c] 28)).alloc (.cells #[.int .i64 C0, .int .i64 C1, .int .i64 C2, .int .i64 C3, .int .i64 C4] 23)).alloc (.cells #[.int .i64 0, .int .i64 0, .int .i64 0, .int .i64 0, .int .i64 0, .int .i64 0, .int .i64 0, .int .i64 0, .slice none 0 0] 26) = u1 at *
    refine (H1.out _ bc).mono ?_
    rintro e w1 ⟨A8, n8, c8, rfl, hn8, y8, hC⟩
    dsimp only at y8 ⊢
    replace kb := kb.on hC; replace kc := kc.on hC; replace kr := kr.on hC; replace bc := bc.trans (hC.mono bc.size); clear hC
    have HN8 := Lib.hid hn8; clear hn8
    have z_kf_kb := kb.lt
    have z_kf_kc := kc.lt
    have z_kf_kr := kr.lt
    have zb_kf := bc.size
    have kf := Blk.new w1 26 #[.int .i64 fK, .int .i64 fR, .int .i64 fT, .int .i64 fP, .int .i64 fM, .int .i64 fN, .int .i64 fE, .int .i64 fF, .slice A8 n8 c8]
    have al := Below.al w1 (.cells #[.int .i64 fK, .int .i64 fR, .int .i64 fT, .int .i64 fP, .int .i64 fM, .int .i64 fN, .int .i64 fE, .int .i64 fF, .slice A8 n8 c8] 26)
    replace kb := kb.on al; replace kc := kc.on al; replace kr := kr.on al; replace y8 := y8.on al; replace bc := bc.trans (al.mono bc.size); clear al
    obtain ⟨pkf_0, pkf_1, pkf_2, pkf_3, pkf_4, pkf_5, pkf_6, pkf_7, pkf_8⟩ := kf.nine
    obtain ⟨pkf_0f, pkf_1f, pkf_2f, pkf_3f, pkf_4f, pkf_5f, pkf_6f, pkf_7f, pkf_8f⟩ := kf.nineF
    obtain ⟨⟨pkc_0, pkc_1, pkc_2, pkc_3, pkc_4⟩, pkc_0f, pkc_1f, pkc_2f, pkc_3f, pkc_4f⟩ := kc.five
    have hst := run_storeVar_row (P := Tryd.prog) (w1.alloc (.cells #[.int .i64 fK, .int .i64 fR, .int .i64 fT, .int .i64 fP, .int .i64 fM, .int .i64 fN, .int .i64 fE, .int .i64 fF, .slice A8 n8 c8] 26)) (w.heap.size + 1 + 1) 26 26 _ #[.int .i64 0, .int .i64 0, .int .i64 0, .int .i64 0, .int .i64 0, .int .i64 0, .int .i64 0, .int .i64 0, .slice none 0 0] kr info26 rfl (by simp [Value.oneCell'])
    simp [go_sem, z_kf_kr] at hst
    have hG := only_setRow (w1.alloc (.cells #[.int .i64 fK, .int .i64 fR, .int .i64 fT, .int .i64 fP, .int .i64 fM, .int .i64 fN, .int .i64 fE, .int .i64 fF, .slice A8 n8 c8] 26)) (w.heap.size + 1 + 1) #[.int .i64 0, .int .i64 0, .int .i64 0, .int .i64 0, .int .i64 0, .int .i64 0, .int .i64 0, .int .i64 0, .slice none 0 0]
    replace kb := kb.grown hG (some_ne (by omega)); replace kc := kc.grown hG (some_ne (by omega)); replace kf := kf.grown hG (some_ne (by omega)); replace y8 := y8.off kr (no_u8_9 _ _ _ _ _ _ _ _ _ _ _) hG; replace bc := Below.off bc bc.size (by omega) hG; replace kr := Blk.row kr #[.int .i64 0, .int .i64 0, .int .i64 0, .int .i64 0, .int .i64 0, .int .i64 0, .int .i64 0, .int .i64 0, .slice none 0 0]; clear hG
    go_wp2
    obtain ⟨xkr_0, xkr_1, xkr_2, xkr_3, xkr_4, xkr_5, xkr_6, xkr_7, xkr_8⟩ := kr.nine
    obtain ⟨xkr_0f, xkr_1f, xkr_2f, xkr_3f, xkr_4f, xkr_5f, xkr_6f, xkr_7f, xkr_8f⟩ := kr.nineF
    exact bodyPost_ret (v := .tuple #[.agg #[.int .i64 0, .int .i64 0, .int .i64 0, .int .i64 0, .int .i64 0, .int .i64 0, .int .i64 0, .int .i64 0, .slice none 0 0], .bool false]) (by simp [results, Tryd.results20, go_sem, xkr_0, xkr_1, xkr_2, xkr_3, xkr_4, xkr_5, xkr_6, xkr_7, xkr_8]) rfl ⟨none, 0, 0, rfl, rfl, Byt.none _, bc⟩
set_option maxRecDepth 8000 in
set_option maxHeartbeats 4000000 in
theorem expl_any (N : Int) (A : Option Addr) (n c : Nat) (bs : List UInt8) (w : World) (hn : n = bs.length) (hm : n ≤ maxLen) (hA : Byt w.heap.size w A bs) (hT : Tab w) (hW : WTab w) :
    Calls Tryd.prog 22 #[.agg #[.int .i64 N, .slice A n c]] w (ResG w (explF N bs)) := by
  have h1 := fun (W : World) (hb : Below w.heap.size w W) => parse_any N A n c bs zeroC W hn hm (hA.on hb) (hT.on hb) (hW.on hb)
  unfold explF
  generalize readF N bs zeroC = R at *
  obtain ⟨er, fK, fR, ⟨fT, fP, fM, fN, fE⟩, fF, fd⟩ := R
  unfold ResF at h1
  unfold FR.cells CS.cells at h1
  unfold zeroC at h1
  dsimp only at h1 ⊢
  have H1 := Lib.hid h1; clear h1 hn hm hA
  by_cases e0 : er = 0
  rotate_left
  · rw [if_neg (fun h => absurd h.1 e0)]
    have d1 : (er == 0) = false := by simpa using e0
    obtain ⟨kb, kr, bc⟩ := bx2 w #[.int .i64 N, .slice A n c] #[.int .i64 0, .int .i64 0, .int .i64 0, .int .i64 0, .int .i64 0, .int .i64 0, .int .i64 0, .int .i64 0, .slice none 0 0] 28 26
    go_enter Tryd.func22, Tryd.ntmps22
    go_wp2_with fail
    generalize (w.alloc (.cells #[.int .i64 N, .slice A n c] 28)).alloc (.cells #[.int .i64 0, .int .i64 0, .int .i64 0, .int .i64 0, .int .i64 0, .int .i64 0, .int .i64 0, .int .i64 0, .slice none 0 0] 26) = u1 at *
    refine (H1.out _ bc).mono ?_
    rintro e w1 ⟨A8, n8, c8, rfl, hn8, y8, hC⟩
    dsimp only at y8 ⊢
    replace kb := kb.on hC; replace kr := kr.on hC; replace bc := bc.trans (hC.mono bc.size); clear hC
    have HN8 := Lib.hid hn8; clear hn8
    have z_kf_kb := kb.lt
    have z_kf_kr := kr.lt
    have zb_kf := bc.size
    have kf := Blk.new w1 26 #[.int .i64 fK, .int .i64 fR, .int .i64 fT, .int .i64 fP, .int .i64 fM, .int .i64 fN, .int .i64 fE, .int .i64 fF, .slice A8 n8 c8]
    have al := Below.al w1 (.cells #[.int .i64 fK, .int .i64 fR, .int .i64 fT, .int .i64 fP, .int .i64 fM, .int .i64 fN, .int .i64 fE, .int .i64 fF, .slice A8 n8 c8] 26)
    replace kb := kb.on al; replace kr := kr.on al; replace y8 := y8.on al; replace bc := bc.trans (al.mono bc.size); clear al
    obtain ⟨pkf_0, pkf_1, pkf_2, pkf_3, pkf_4, pkf_5, pkf_6, pkf_7, pkf_8⟩ := kf.nine
    obtain ⟨pkf_0f, pkf_1f, pkf_2f, pkf_3f, pkf_4f, pkf_5f, pkf_6f, pkf_7f, pkf_8f⟩ := kf.nineF
    have hst := run_storeVar_row (P := Tryd.prog) (w1.alloc (.cells #[.int .i64 fK, .int .i64 fR, .int .i64 fT, .int .i64 fP, .int .i64 fM, .int .i64 fN, .int .i64 fE, .int .i64 fF, .slice A8 n8 c8] 26)) (w.heap.size + 1) 26 26 _ #[.int .i64 0, .int .i64 0, .int .i64 0, .int .i64 0, .int .i64 0, .int .i64 0, .int .i64 0, .int .i64 0, .slice none 0 0] kr info26 rfl (by simp [Value.oneCell'])
    simp [go_sem, z_kf_kr] at hst
    have hG := only_setRow (w1.alloc (.cells #[.int .i64 fK, .int .i64 fR, .int .i64 fT, .int .i64 fP, .int .i64 fM, .int .i64 fN, .int .i64 fE, .int .i64 fF, .slice A8 n8 c8] 26)) (w.heap.size + 1) #[.int .i64 0, .int .i64 0, .int .i64 0, .int .i64 0, .int .i64 0, .int .i64 0, .int .i64 0, .int .i64 0, .slice none 0 0]
    replace kb := kb.grown hG (some_ne (by omega)); replace kf := kf.grown hG (some_ne (by omega)); replace y8 := y8.off kr (no_u8_9 _ _ _ _ _ _ _ _ _ _ _) hG; replace bc := Below.off bc bc.size (by omega) hG; replace kr := Blk.row kr #[.int .i64 0, .int .i64 0, .int .i64 0, .int .i64 0, .int .i64 0, .int .i64 0, .int .i64 0, .int .i64 0, .slice none 0 0]; clear hG
    go_wp2
    obtain ⟨xkr_0, xkr_1, xkr_2, xkr_3, xkr_4, xkr_5, xkr_6, xkr_7, xkr_8⟩ := kr.nine
    obtain ⟨xkr_0f, xkr_1f, xkr_2f, xkr_3f, xkr_4f, xkr_5f, xkr_6f, xkr_7f, xkr_8f⟩ := kr.nineF
    exact bodyPost_ret (v := .tuple #[.agg #[.int .i64 0, .int .i64 0, .int .i64 0, .int .i64 0, .int .i64 0, .int .i64 0, .int .i64 0, .int .i64 0, .slice none 0 0], .bool false]) (by simp [results, Tryd.results22, go_sem, xkr_0, xkr_1, xkr_2, xkr_3, xkr_4, xkr_5, xkr_6, xkr_7, xkr_8]) rfl ⟨none, 0, 0, rfl, rfl, Byt.none _, bc⟩
  subst e0
  by_cases e1 : fK = 2
  · subst e1
    rw [if_neg (fun h => absurd rfl h.2)]
    obtain ⟨kb, kr, bc⟩ := bx2 w #[.int .i64 N, .slice A n c] #[.int .i64 0, .int .i64 0, .int .i64 0, .int .i64 0, .int .i64 0, .int .i64 0, .int .i64 0, .int .i64 0, .slice none 0 0] 28 26
    go_enter Tryd.func22, Tryd.ntmps22
    go_wp2_with fail
    generalize (w.alloc (.cells #[.int .i64 N, .slice A n c] 28)).alloc (.cells #[.int .i64 0, .int .i64 0, .int .i64 0, .int .i64 0, .int .i64 0, .int .i64 0, .int .i64 0, .int .i64 0, .slice none 0 0] 26) = u1 at *
    refine (H1.out _ bc).mono ?_
    rintro e w1 ⟨A8, n8, c8, rfl, hn8, y8, hC⟩
    dsimp only at y8 ⊢
    replace kb := kb.on hC; replace kr := kr.on hC; replace bc := bc.trans (hC.mono bc.size); clear hC
    have HN8 := Lib.hid hn8; clear hn8
    have z_kf_kb := kb.lt
    have z_kf_kr := kr.lt
    have zb_kf := bc.size
    have kf := Blk.new w1 26 #[.int .i64 2, .int .i64 fR, .int .i64 fT, .int .i64 fP, .int .i64 fM, .int .i64 fN, .int .i64 fE, .int .i64 fF, .slice A8 n8 c8]
    have al := Below.al w1 (.cells #[.int .i64 2, .int .i64 fR, .int .i64 fT, .int .i64 fP, .int .i64 fM, .int .i64 fN, .int .i64 fE, .int .i64 fF, .slice A8 n8 c8] 26)
    replace kb := kb.on al; replace kr := kr.on al; replace y8 := y8.on al; replace bc := bc.trans (al.mono bc.size); clear al
    obtain ⟨pkf_0, pkf_1, pkf_2, pkf_3, pkf_4, pkf_5, pkf_6, pkf_7, pkf_8⟩ := kf.nine
    obtain ⟨pkf_0f, pkf_1f, pkf_2f, pkf_3f, pkf_4f, pkf_5f, pkf_6f, pkf_7f, pkf_8f⟩ := kf.nineF
    have hst := run_storeVar_row (P := Tryd.prog) (w1.alloc (.cells #[.int .i64 2, .int .i64 fR, .int .i64 fT, .int .i64 fP, .int .i64 fM, .int .i64 fN, .int .i64 fE, .int .i64 fF, .slice A8 n8 c8] 26)) (w.heap.size + 1) 26 26 _ #[.int .i64 0, .int .i64 0, .int .i64 0, .int .i64 0, .int .i64 0, .int .i64 0, .int .i64 0, .int .i64 0, .slice none 0 0] kr info26 rfl (by simp [Value.oneCell'])
    simp [go_sem, z_kf_kr] at hst
    have hG := only_setRow (w1.alloc (.cells #[.int .i64 2, .int .i64 fR, .int .i64 fT, .int .i64 fP, .int .i64 fM, .int .i64 fN, .int .i64 fE, .int .i64 fF, .slice A8 n8 c8] 26)) (w.heap.size + 1) #[.int .i64 0, .int .i64 0, .int .i64 0, .int .i64 0, .int .i64 0, .int .i64 0, .int .i64 0, .int .i64 0, .slice none 0 0]
    replace kb := kb.grown hG (some_ne (by omega)); replace kf := kf.grown hG (some_ne (by omega)); replace y8 := y8.off kr (no_u8_9 _ _ _ _ _ _ _ _ _ _ _) hG; replace bc := Below.off bc bc.size (by omega) hG; replace kr := Blk.row kr #[.int .i64 0, .int .i64 0, .int .i64 0, .int .i64 0, .int .i64 0, .int .i64 0, .int .i64 0, .int .i64 0, .slice none 0 0]; clear hG
    go_wp2
    obtain ⟨xkr_0, xkr_1, xkr_2, xkr_3, xkr_4, xkr_5, xkr_6, xkr_7, xkr_8⟩ := kr.nine
    obtain ⟨xkr_0f, xkr_1f, xkr_2f, xkr_3f, xkr_4f, xkr_5f, xkr_6f, xkr_7f, xkr_8f⟩ := kr.nineF
    exact bodyPost_ret (v := .tuple #[.agg #[.int .i64 0, .int .i64 0, .int .i64 0, .int .i64 0, .int .i64 0, .int .i64 0, .int .i64 0, .int .i64 0, .slice none 0 0], .bool false]) (by simp [results, Tryd.results22, go_sem, xkr_0, xkr_1, xkr_2, xkr_3, xkr_4, xkr_5, xkr_6, xkr_7, xkr_8]) rfl ⟨none, 0, 0, rfl, rfl, Byt.none _, bc⟩
  have d1 : (fK == 2) = false := by simpa using e1
  rw [if_pos ⟨rfl, e1⟩]
  obtain ⟨kb, kr, bc⟩ := bx2 w #[.int .i64 N, .slice A n c] #[.int .i64 0, .int .i64 0, .int .i64 0, .int .i64 0, .int .i64 0, .int .i64 0, .int .i64 0, .int .i64 0, .slice none 0 0] 28 26
  go_enter Tryd.func22, Tryd.ntmps22
  go_wp2_with fail
  generalize (w.alloc (.cells #[.int .i64 N, .slice A n c] 28)).alloc (.cells #[.int .i64 0, .int .i64 0, .int .i64 0, .int .i64 0, .int .i64 0, .int .i64 0, .int .i64 0, .int .i64 0, .slice none 0 0] 26) = u1 at *
  refine (H1.out _ bc).mono ?_
  rintro e w1 ⟨A8, n8, c8, rfl, hn8, y8, hC⟩
  dsimp only at y8 ⊢
  replace kb := kb.on hC; replace kr := kr.on hC; replace bc := bc.trans (hC.mono bc.size); clear hC
  have HN8 := Lib.hid hn8; clear hn8
  have z_kf_kb := kb.lt
  have z_kf_kr := kr.lt
  have zb_kf := bc.size
  have kf := Blk.new w1 26 #[.int .i64 fK, .int .i64 fR, .int .i64 fT, .int .i64 fP, .int .i64 fM, .int .i64 fN, .int .i64 fE, .int .i64 fF, .slice A8 n8 c8]
  have al := Below.al w1 (.cells #[.int .i64 fK, .int .i64 fR, .int .i64 fT, .int .i64 fP, .int .i64 fM, .int .i64 fN, .int .i64 fE, .int .i64 fF, .slice A8 n8 c8] 26)
  replace kb := kb.on al; replace kr := kr.on al; replace y8 := y8.on al; replace bc := bc.trans (al.mono bc.size); clear al
  obtain ⟨pkf_0, pkf_1, pkf_2, pkf_3, pkf_4, pkf_5, pkf_6, pkf_7, pkf_8⟩ := kf.nine
  obtain ⟨pkf_0f, pkf_1f, pkf_2f, pkf_3f, pkf_4f, pkf_5f, pkf_6f, pkf_7f, pkf_8f⟩ := kf.nineF
  have hst := run_storeVar_row (P := Tryd.prog) (w1.alloc (.cells #[.int .i64 fK, .int .i64 fR, .int .i64 fT, .int .i64 fP, .int .i64 fM, .int .i64 fN, .int .i64 fE, .int .i64 fF, .slice A8 n8 c8] 26)) (w.heap.size + 1) 26 26 _ #[.int .i64 fK, .int .i64 fR, .int .i64 fT, .int .i64 fP, .int .i64 fM, .int .i64 fN, .int .i64 fE, .int .i64 fF, .slice A8 n8 c8] kr info26 rfl (by simp [Value.oneCell'])
  simp [go_sem, z_kf_kr] at hst
  have hG := only_setRow (w1.alloc (.cells #[.int .i64 fK, .int .i64 fR, .int .i64 fT, .int .i64 fP, .int .i64 fM, .int .i64 fN, .int .i64 fE, .int .i64 fF, .slice A8 n8 c8] 26)) (w.heap.size + 1) #[.int .i64 fK, .int .i64 fR, .int .i64 fT, .int .i64 fP, .int .i64 fM, .int .i64 fN, .int .i64 fE, .int .i64 fF, .slice A8 n8 c8]
  replace kb := kb.grown hG (some_ne (by omega)); replace kf := kf.grown hG (some_ne (by omega)); replace y8 := y8.off kr (no_u8_9 _ _ _ _ _ _ _ _ _ _ _) hG; replace bc := Below.off bc bc.size (by omega) hG; replace kr := Blk.row kr #[.int .i64 fK, .int .i64 fR, .int .i64 fT, .int .i64 fP, .int .i64 fM, .int .i64 fN, .int .i64 fE, .int .i64 fF, .slice A8 n8 c8]; clear hG
  go_wp2
  obtain ⟨xkr_0, xkr_1, xkr_2, xkr_3, xkr_4, xkr_5, xkr_6, xkr_7, xkr_8⟩ := kr.nine
  obtain ⟨xkr_0f, xkr_1f, xkr_2f, xkr_3f, xkr_4f, xkr_5f, xkr_6f, xkr_7f, xkr_8f⟩ := kr.nineF
  exact bodyPost_ret (v := .tuple #[.agg #[.int .i64 fK, .int .i64 fR, .int .i64 fT, .int .i64 fP, .int .i64 fM, .int .i64 fN, .int .i64 fE, .int .i64 fF, .slice A8 n8 c8], .bool true]) (by simp [results, Tryd.results22, go_sem, xkr_0, xkr_1, xkr_2, xkr_3, xkr_4, xkr_5, xkr_6, xkr_7, xkr_8]) rfl ⟨A8, n8, c8, rfl, HN8.out, y8, bc⟩
end Go.Proofs.YtcfbeelljhjnoaaDoor
