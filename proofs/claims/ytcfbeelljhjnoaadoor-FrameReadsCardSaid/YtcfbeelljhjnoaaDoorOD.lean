/-
  The document's Parse, by Kind (3). Conditions: that the bits can be read and are as long as a frame of their Kind, and that the state may be.
-/
import Derived.Test.YtcfbeelljhjnoaaDoorOC
import Derived.Test.YtcfbeelljhjnoaaDoorNK
import Derived.Test.YtcfbeelljhjnoaaDoorN4
namespace Go.Proofs.YtcfbeelljhjnoaaDoor
open Go.RowKit
theorem rcheck_list {w : World} {L : List Bool} {A : Option Addr} {n : Nat} (h : Bv w L A n) (c : Nat) :
    Calls Tryd.prog 49 #[.agg #[.int .i64 L.length, .slice A n c]] w fun e w' => e = .returned (.int .i64 0) ∧ Below w.heap.size w w' := by
  obtain ⟨bs, h1, h2, h3, h4, h5, h6, h7⟩ := h.parts
  have hp := rcheck_any L.length A n c bs w h1 h2 h5
  rw [chk_yes h6] at hp
  exact hp

set_option maxRecDepth 8000 in
set_option maxHeartbeats 8000000 in
theorem rparse_3 {w : World} {L : List Bool} {A : Option Addr} {n : Nat} (h : Bv w L A n) (c : Nat) (C : CS) (hk : kindL L = 3) (hlong : longF 3 L.length = true) (hl : L.length = 54) (hC : mayC C 8 = true) :
    Calls Tryd.prog 19 #[.agg #[.int .i64 L.length, .slice A n c], .agg C.cells] w (ResF w (readL L C)) := by
  obtain ⟨R, hR⟩ : ∃ R, R = readL L C := ⟨_, rfl⟩
  rw [← hR]
  have q1 := fun (hz : zeroL 3 L = false) => read_no_zero (c := C) hk hz
  have q2 := fun (hz : zeroL 3 L = true) (hs : sumsL 3 L C = false) => read_no_sum hk hlong hz hs
  have q3 := fun (hz : zeroL 3 L = true) (hs : sumsL 3 L C = true) (hm : ¬ mayF (toldF 3 L C) = true) => read_no_may hk hlong hz hs hm
  have q4 := fun (hz : zeroL 3 L = true) (hs : sumsL 3 L C = true) (hm : mayF (toldF 3 L C) = true) => read_yes hk hlong hz hs hm
  rw [← hR] at q1 q2 q3 q4
  have h1 := fun (W : World) (hb : Below w.heap.size w W) => rcheck_list (h.on hb) c
  have h2 := fun (W : World) => rcheckC_any C 8 W
  rw [checkC_yes hC] at h2
  have h3 := fun (W : World) (hb : Below w.heap.size w W) => rnumber_list (h.on hb) c (N := L.length) (ai := 0) (Wi := 2) (a := 0) (W := 2) rfl rfl rfl (by decide) (by omega)
  have hkk : numOf ((L.drop 0).take 2) = 2 := by unfold kindL at hk; rw [List.drop_zero]; omega
  rw [hkk] at h3
  have hw1 : IntKind.i64.wrap (2 + 1) = 3 := by decide
  have h4 := fun (W : World) => rlong_any 3 L.length W (by decide)
  rw [hlong] at h4
  have h5 := fun (W : World) (hb : Below w.heap.size w W) => rzero_3 (h.on hb) c (by omega)
  have h6 := fun (W : World) (hb : Below w.heap.size w W) => rstated_3 (h.on hb) c C hl
  generalize zeroL 3 L = zz at *
  have hno := fun (hx : ¬ mayC (fieldsOf (stateL 3 L)) 8 = true) (hm : mayF (toldF 3 L C) = true) => hx (by rw [told_3] at hm; exact ((mayF_iff _).1 hm).2.2.1)
  generalize fieldsOf (stateL 3 L) = X at *
  generalize sumsL 3 L C = zs at *
  generalize toldF 3 L C = f at *
  have h8 := fun (A8 : Option Addr) (n8 c8 : Nat) (W : World) (hn : n8 = f.ds.length) => rcheckF_any f A8 n8 c8 W hn
  obtain ⟨C0, C1, C2, C3, C4⟩ := C
  obtain ⟨fK, fR, ⟨fT, fP, fM, fN, fE⟩, fF, fd⟩ := f
  unfold ResF at h6
  unfold CS.cells FR.cells at *
  have H1 := Lib.hid h1; have H2 := Lib.hid h2; have H3 := Lib.hid h3; have H4 := Lib.hid h4; have H5 := Lib.hid h5; have H8 := Lib.hid h8; have Q1 := Lib.hid q1; have Q2 := Lib.hid q2; have Q3 := Lib.hid q3; have Q4 := Lib.hid q4
  clear h1 h2 h3 h4 h5 h8 q1 q2 q3 q4 hR hk hlong hl hC hkk h
  have HNO := Lib.hid hno; clear hno
  cases zz
  · have hr := Q1.out rfl; have HRR := Lib.hid hr; clear hr h6
    obtain ⟨kb, kc, kr, bc⟩ := bx3 w #[.int .i64 L.length, .slice A n c] #[.int .i64 C0, .int .i64 C1, .int .i64 C2, .int .i64 C3, .int .i64 C4] #[.int .i64 0, .int .i64 0, .int .i64 0, .int .i64 0, .int .i64 0, .int .i64 0, .int .i64 0, .int .i64 0, .slice none 0 0] 28 23 26
    go_enter Tryd.func19, Tryd.ntmps19
    go_wp2_with fail
    generalize ((w.alloc (.cells #[.int .i64 L.length, .slice A n c] 28)).alloc (.cells #[.int .i64 C0, .int .i64 C1, .int .i64 C2, .int .i64 C3, .int .i64 C4] 23)).alloc (.cells #[.int .i64 0, .int .i64 0, .int .i64 0, .int .i64 0, .int .i64 0, .int .i64 0, .int .i64 0, .int .i64 0, .slice none 0 0] 26) = u1 at *
    refine (H1.out _ bc).mono ?_
    rintro e w1 ⟨rfl, hC⟩
    dsimp only
    replace kb := kb.on hC; replace kc := kc.on hC; replace kr := kr.on hC; replace bc := bc.trans (hC.mono bc.size); clear hC
    obtain ⟨pkb_0, pkb_1, pkb_0f, pkb_1f⟩ := kb.two
    obtain ⟨⟨pkc_0, pkc_1, pkc_2, pkc_3, pkc_4⟩, pkc_0f, pkc_1f, pkc_2f, pkc_3f, pkc_4f⟩ := kc.five
    go_wp2_with fail
    clear pkb_0 pkb_1 pkb_0f pkb_1f pkc_0 pkc_1 pkc_2 pkc_3 pkc_4 pkc_0f pkc_1f pkc_2f pkc_3f pkc_4f
    refine (H2.out _).mono ?_
    rintro e w2 ⟨rfl, hC⟩
    dsimp only
    replace kb := kb.on hC; replace kc := kc.on hC; replace kr := kr.on hC; replace bc := bc.trans (hC.mono bc.size); clear hC
    obtain ⟨pkb_0, pkb_1, pkb_0f, pkb_1f⟩ := kb.two
    obtain ⟨⟨pkc_0, pkc_1, pkc_2, pkc_3, pkc_4⟩, pkc_0f, pkc_1f, pkc_2f, pkc_3f, pkc_4f⟩ := kc.five
    go_wp2_with fail
    clear pkb_0 pkb_1 pkb_0f pkb_1f pkc_0 pkc_1 pkc_2 pkc_3 pkc_4 pkc_0f pkc_1f pkc_2f pkc_3f pkc_4f
    refine (H3.out _ bc).mono ?_
    rintro e w3 ⟨rfl, hC⟩
    dsimp only
    replace kb := kb.on hC; replace kc := kc.on hC; replace kr := kr.on hC; replace bc := bc.trans (hC.mono bc.size); clear hC
    obtain ⟨pkb_0, pkb_1, pkb_0f, pkb_1f⟩ := kb.two
    obtain ⟨⟨pkc_0, pkc_1, pkc_2, pkc_3, pkc_4⟩, pkc_0f, pkc_1f, pkc_2f, pkc_3f, pkc_4f⟩ := kc.five
    go_wp2_with fail
    clear pkb_0 pkb_1 pkb_0f pkb_1f pkc_0 pkc_1 pkc_2 pkc_3 pkc_4 pkc_0f pkc_1f pkc_2f pkc_3f pkc_4f
    refine (H4.out _).mono ?_
    rintro e w4 ⟨rfl, hC⟩
    dsimp only
    replace kb := kb.on hC; replace kc := kc.on hC; replace kr := kr.on hC; replace bc := bc.trans (hC.mono bc.size); clear hC
    obtain ⟨pkb_0, pkb_1, pkb_0f, pkb_1f⟩ := kb.two
    obtain ⟨⟨pkc_0, pkc_1, pkc_2, pkc_3, pkc_4⟩, pkc_0f, pkc_1f, pkc_2f, pkc_3f, pkc_4f⟩ := kc.five
    go_wp2_with fail
    clear pkb_0 pkb_1 pkb_0f pkb_1f pkc_0 pkc_1 pkc_2 pkc_3 pkc_4 pkc_0f pkc_1f pkc_2f pkc_3f pkc_4f
    refine (H5.out _ bc).mono ?_
    rintro e w5 ⟨rfl, hC⟩
    dsimp only
    replace kb := kb.on hC; replace kc := kc.on hC; replace kr := kr.on hC; replace bc := bc.trans (hC.mono bc.size); clear hC
    have hst := run_storeVar_row (P := Tryd.prog) w5 (w.heap.size + 1 + 1) 26 26 _ #[.int .i64 0, .int .i64 0, .int .i64 0, .int .i64 0, .int .i64 0, .int .i64 0, .int .i64 0, .int .i64 0, .slice none 0 0] kr info26 rfl (by simp [Value.oneCell'])
    simp [go_sem] at hst
    have hG := only_setRow w5 (w.heap.size + 1 + 1) #[.int .i64 0, .int .i64 0, .int .i64 0, .int .i64 0, .int .i64 0, .int .i64 0, .int .i64 0, .int .i64 0, .slice none 0 0]
    replace kb := kb.grown hG (some_ne (by omega)); replace kc := kc.grown hG (some_ne (by omega)); replace bc := Below.off bc bc.size (by omega) hG; replace kr := Blk.row kr #[.int .i64 0, .int .i64 0, .int .i64 0, .int .i64 0, .int .i64 0, .int .i64 0, .int .i64 0, .int .i64 0, .slice none 0 0]; clear hG
    go_wp2
    obtain ⟨xkr_0, xkr_1, xkr_2, xkr_3, xkr_4, xkr_5, xkr_6, xkr_7, xkr_8⟩ := kr.nine
    obtain ⟨xkr_0f, xkr_1f, xkr_2f, xkr_3f, xkr_4f, xkr_5f, xkr_6f, xkr_7f, xkr_8f⟩ := kr.nineF
    rw [HRR.out]
    exact bodyPost_ret (v := .tuple #[.agg #[.int .i64 0, .int .i64 0, .int .i64 0, .int .i64 0, .int .i64 0, .int .i64 0, .int .i64 0, .int .i64 0, .slice none 0 0], .int .i64 51]) (by simp [results, Tryd.results19, go_sem, xkr_0, xkr_1, xkr_2, xkr_3, xkr_4, xkr_5, xkr_6, xkr_7, xkr_8]) rfl ⟨none, 0, 0, rfl, rfl, Byt.none _, bc⟩
  cases zs
  · have hr := Q2.out (by simp) rfl; have HRR := Lib.hid hr; simp only [Bool.false_eq_true, if_false] at h6; have H6 := Lib.hid h6; clear hr h6
    obtain ⟨kb, kc, kr, bc⟩ := bx3 w #[.int .i64 L.length, .slice A n c] #[.int .i64 C0, .int .i64 C1, .int .i64 C2, .int .i64 C3, .int .i64 C4] #[.int .i64 0, .int .i64 0, .int .i64 0, .int .i64 0, .int .i64 0, .int .i64 0, .int .i64 0, .int .i64 0, .slice none 0 0] 28 23 26
    go_enter Tryd.func19, Tryd.ntmps19
    go_wp2_with fail
    generalize ((w.alloc (.cells #[.int .i64 L.length, .slice A n c] 28)).alloc (.cells #[.int .i64 C0, .int .i64 C1, .int .i64 C2, .int .i64 C3, .int .i64 C4] 23)).alloc (.cells #[.int .i64 0, .int .i64 0, .int .i64 0, .int .i64 0, .int .i64 0, .int .i64 0, .int .i64 0, .int .i64 0, .slice none 0 0] 26) = u1 at *
    refine (H1.out _ bc).mono ?_
    rintro e w1 ⟨rfl, hC⟩
    dsimp only
    replace kb := kb.on hC; replace kc := kc.on hC; replace kr := kr.on hC; replace bc := bc.trans (hC.mono bc.size); clear hC
    obtain ⟨pkb_0, pkb_1, pkb_0f, pkb_1f⟩ := kb.two
    obtain ⟨⟨pkc_0, pkc_1, pkc_2, pkc_3, pkc_4⟩, pkc_0f, pkc_1f, pkc_2f, pkc_3f, pkc_4f⟩ := kc.five
    go_wp2_with fail
    clear pkb_0 pkb_1 pkb_0f pkb_1f pkc_0 pkc_1 pkc_2 pkc_3 pkc_4 pkc_0f pkc_1f pkc_2f pkc_3f pkc_4f
    refine (H2.out _).mono ?_
    rintro e w2 ⟨rfl, hC⟩
    dsimp only
    replace kb := kb.on hC; replace kc := kc.on hC; replace kr := kr.on hC; replace bc := bc.trans (hC.mono bc.size); clear hC
    obtain ⟨pkb_0, pkb_1, pkb_0f, pkb_1f⟩ := kb.two
    obtain ⟨⟨pkc_0, pkc_1, pkc_2, pkc_3, pkc_4⟩, pkc_0f, pkc_1f, pkc_2f, pkc_3f, pkc_4f⟩ := kc.five
    go_wp2_with fail
    clear pkb_0 pkb_1 pkb_0f pkb_1f pkc_0 pkc_1 pkc_2 pkc_3 pkc_4 pkc_0f pkc_1f pkc_2f pkc_3f pkc_4f
    refine (H3.out _ bc).mono ?_
    rintro e w3 ⟨rfl, hC⟩
    dsimp only
    replace kb := kb.on hC; replace kc := kc.on hC; replace kr := kr.on hC; replace bc := bc.trans (hC.mono bc.size); clear hC
    obtain ⟨pkb_0, pkb_1, pkb_0f, pkb_1f⟩ := kb.two
    obtain ⟨⟨pkc_0, pkc_1, pkc_2, pkc_3, pkc_4⟩, pkc_0f, pkc_1f, pkc_2f, pkc_3f, pkc_4f⟩ := kc.five
    go_wp2_with fail
    clear pkb_0 pkb_1 pkb_0f pkb_1f pkc_0 pkc_1 pkc_2 pkc_3 pkc_4 pkc_0f pkc_1f pkc_2f pkc_3f pkc_4f
    refine (H4.out _).mono ?_
    rintro e w4 ⟨rfl, hC⟩
    dsimp only
    replace kb := kb.on hC; replace kc := kc.on hC; replace kr := kr.on hC; replace bc := bc.trans (hC.mono bc.size); clear hC
    obtain ⟨pkb_0, pkb_1, pkb_0f, pkb_1f⟩ := kb.two
    obtain ⟨⟨pkc_0, pkc_1, pkc_2, pkc_3, pkc_4⟩, pkc_0f, pkc_1f, pkc_2f, pkc_3f, pkc_4f⟩ := kc.five
    go_wp2_with fail
    clear pkb_0 pkb_1 pkb_0f pkb_1f pkc_0 pkc_1 pkc_2 pkc_3 pkc_4 pkc_0f pkc_1f pkc_2f pkc_3f pkc_4f
    refine (H5.out _ bc).mono ?_
    rintro e w5 ⟨rfl, hC⟩
    dsimp only
    replace kb := kb.on hC; replace kc := kc.on hC; replace kr := kr.on hC; replace bc := bc.trans (hC.mono bc.size); clear hC
    have z_kf_kb := kb.lt
    have z_kf_kc := kc.lt
    have z_kf_kr := kr.lt
    have zb_kf := bc.size
    have kf := Blk.new w5 26 #[.int .i64 0, .int .i64 0, .int .i64 0, .int .i64 0, .int .i64 0, .int .i64 0, .int .i64 0, .int .i64 0, .slice none 0 0]
    have al := Below.al w5 (.cells #[.int .i64 0, .int .i64 0, .int .i64 0, .int .i64 0, .int .i64 0, .int .i64 0, .int .i64 0, .int .i64 0, .slice none 0 0] 26)
    replace kb := kb.on al; replace kc := kc.on al; replace kr := kr.on al; replace bc := bc.trans (al.mono bc.size); clear al
    obtain ⟨pkb_0, pkb_1, pkb_0f, pkb_1f⟩ := kb.two
    obtain ⟨⟨pkc_0, pkc_1, pkc_2, pkc_3, pkc_4⟩, pkc_0f, pkc_1f, pkc_2f, pkc_3f, pkc_4f⟩ := kc.five
    obtain ⟨pkf_0, pkf_1, pkf_2, pkf_3, pkf_4, pkf_5, pkf_6, pkf_7, pkf_8⟩ := kf.nine
    obtain ⟨pkf_0f, pkf_1f, pkf_2f, pkf_3f, pkf_4f, pkf_5f, pkf_6f, pkf_7f, pkf_8f⟩ := kf.nineF
    go_wp2_with fail
    clear pkb_0 pkb_1 pkb_0f pkb_1f pkc_0 pkc_1 pkc_2 pkc_3 pkc_4 pkc_0f pkc_1f pkc_2f pkc_3f pkc_4f pkf_0 pkf_1 pkf_2 pkf_3 pkf_4 pkf_5 pkf_6 pkf_7 pkf_8 pkf_0f pkf_1f pkf_2f pkf_3f pkf_4f pkf_5f pkf_6f pkf_7f pkf_8f
    generalize w5.alloc (.cells #[.int .i64 0, .int .i64 0, .int .i64 0, .int .i64 0, .int .i64 0, .int .i64 0, .int .i64 0, .int .i64 0, .slice none 0 0] 26) = u2 at *
    generalize w5.heap.size = g2 at *
    refine (H6.out _ bc).mono ?_
    rintro e w6 ⟨A8, n8, c8, rfl, hn8, y8, hC⟩
    dsimp only at y8 ⊢
    replace kb := kb.on hC; replace kc := kc.on hC; replace kr := kr.on hC; replace kf := kf.on hC; replace bc := bc.trans (hC.mono bc.size); clear hC
    clear hn8
    unfold zeroF zeroC
    dsimp only
    have hst := run_storeVar_row (P := Tryd.prog) w6 (g2) 26 26 _ #[.int .i64 0, .int .i64 0, .int .i64 0, .int .i64 0, .int .i64 0, .int .i64 0, .int .i64 0, .int .i64 0, .slice A8 n8 c8] kf info26 rfl (by simp [Value.oneCell'])
    simp [go_sem] at hst
    have hG := only_setRow w6 (g2) #[.int .i64 0, .int .i64 0, .int .i64 0, .int .i64 0, .int .i64 0, .int .i64 0, .int .i64 0, .int .i64 0, .slice A8 n8 c8]
    replace kb := kb.grown hG (some_ne (by omega)); replace kc := kc.grown hG (some_ne (by omega)); replace kr := kr.grown hG (some_ne (by omega)); replace y8 := y8.off kf (no_u8_9 _ _ _ _ _ _ _ _ _ _ _) hG; replace bc := Below.off bc bc.size (by omega) hG; replace kf := Blk.row kf #[.int .i64 0, .int .i64 0, .int .i64 0, .int .i64 0, .int .i64 0, .int .i64 0, .int .i64 0, .int .i64 0, .slice A8 n8 c8]; clear hG
    have hst := run_storeVar_row (P := Tryd.prog) (w6.setRow (g2) #[.int .i64 0, .int .i64 0, .int .i64 0, .int .i64 0, .int .i64 0, .int .i64 0, .int .i64 0, .int .i64 0, .slice A8 n8 c8]) (w.heap.size + 1 + 1) 26 26 _ #[.int .i64 0, .int .i64 0, .int .i64 0, .int .i64 0, .int .i64 0, .int .i64 0, .int .i64 0, .int .i64 0, .slice none 0 0] kr info26 rfl (by simp [Value.oneCell'])
    simp [go_sem] at hst
    have hG := only_setRow (w6.setRow (g2) #[.int .i64 0, .int .i64 0, .int .i64 0, .int .i64 0, .int .i64 0, .int .i64 0, .int .i64 0, .int .i64 0, .slice A8 n8 c8]) (w.heap.size + 1 + 1) #[.int .i64 0, .int .i64 0, .int .i64 0, .int .i64 0, .int .i64 0, .int .i64 0, .int .i64 0, .int .i64 0, .slice none 0 0]
    replace kb := kb.grown hG (some_ne (by omega)); replace kc := kc.grown hG (some_ne (by omega)); replace kf := kf.grown hG (some_ne (by omega)); replace y8 := y8.off kr (no_u8_9 _ _ _ _ _ _ _ _ _ _ _) hG; replace bc := Below.off bc bc.size (by omega) hG; replace kr := Blk.row kr #[.int .i64 0, .int .i64 0, .int .i64 0, .int .i64 0, .int .i64 0, .int .i64 0, .int .i64 0, .int .i64 0, .slice none 0 0]; clear hG
    go_wp2
    obtain ⟨xkr_0, xkr_1, xkr_2, xkr_3, xkr_4, xkr_5, xkr_6, xkr_7, xkr_8⟩ := kr.nine
    obtain ⟨xkr_0f, xkr_1f, xkr_2f, xkr_3f, xkr_4f, xkr_5f, xkr_6f, xkr_7f, xkr_8f⟩ := kr.nineF
    rw [HRR.out]
    exact bodyPost_ret (v := .tuple #[.agg #[.int .i64 0, .int .i64 0, .int .i64 0, .int .i64 0, .int .i64 0, .int .i64 0, .int .i64 0, .int .i64 0, .slice none 0 0], .int .i64 21]) (by simp [results, Tryd.results19, go_sem, xkr_0, xkr_1, xkr_2, xkr_3, xkr_4, xkr_5, xkr_6, xkr_7, xkr_8]) rfl ⟨none, 0, 0, rfl, rfl, Byt.none _, bc⟩
  by_cases hx : mayC X 8 = true
  rotate_left
  · have hr := Q3.out (by simp) rfl (fun hm => HNO.out hx hm); have HRR := Lib.hid hr; simp only [if_true, if_neg hx] at h6; have H6 := Lib.hid h6; clear hr h6
    obtain ⟨kb, kc, kr, bc⟩ := bx3 w #[.int .i64 L.length, .slice A n c] #[.int .i64 C0, .int .i64 C1, .int .i64 C2, .int .i64 C3, .int .i64 C4] #[.int .i64 0, .int .i64 0, .int .i64 0, .int .i64 0, .int .i64 0, .int .i64 0, .int .i64 0, .int .i64 0, .slice none 0 0] 28 23 26
    go_enter Tryd.func19, Tryd.ntmps19
    go_wp2_with fail
    generalize ((w.alloc (.cells #[.int .i64 L.length, .slice A n c] 28)).alloc (.cells #[.int .i64 C0, .int .i64 C1, .int .i64 C2, .int .i64 C3, .int .i64 C4] 23)).alloc (.cells #[.int .i64 0, .int .i64 0, .int .i64 0, .int .i64 0, .int .i64 0, .int .i64 0, .int .i64 0, .int .i64 0, .slice none 0 0] 26) = u1 at *
    refine (H1.out _ bc).mono ?_
    rintro e w1 ⟨rfl, hC⟩
    dsimp only
    replace kb := kb.on hC; replace kc := kc.on hC; replace kr := kr.on hC; replace bc := bc.trans (hC.mono bc.size); clear hC
    obtain ⟨pkb_0, pkb_1, pkb_0f, pkb_1f⟩ := kb.two
    obtain ⟨⟨pkc_0, pkc_1, pkc_2, pkc_3, pkc_4⟩, pkc_0f, pkc_1f, pkc_2f, pkc_3f, pkc_4f⟩ := kc.five
    go_wp2_with fail
    clear pkb_0 pkb_1 pkb_0f pkb_1f pkc_0 pkc_1 pkc_2 pkc_3 pkc_4 pkc_0f pkc_1f pkc_2f pkc_3f pkc_4f
    refine (H2.out _).mono ?_
    rintro e w2 ⟨rfl, hC⟩
    dsimp only
    replace kb := kb.on hC; replace kc := kc.on hC; replace kr := kr.on hC; replace bc := bc.trans (hC.mono bc.size); clear hC
    obtain ⟨pkb_0, pkb_1, pkb_0f, pkb_1f⟩ := kb.two
    obtain ⟨⟨pkc_0, pkc_1, pkc_2, pkc_3, pkc_4⟩, pkc_0f, pkc_1f, pkc_2f, pkc_3f, pkc_4f⟩ := kc.five
    go_wp2_with fail
    clear pkb_0 pkb_1 pkb_0f pkb_1f pkc_0 pkc_1 pkc_2 pkc_3 pkc_4 pkc_0f pkc_1f pkc_2f pkc_3f pkc_4f
    refine (H3.out _ bc).mono ?_
    rintro e w3 ⟨rfl, hC⟩
    dsimp only
    replace kb := kb.on hC; replace kc := kc.on hC; replace kr := kr.on hC; replace bc := bc.trans (hC.mono bc.size); clear hC
    obtain ⟨pkb_0, pkb_1, pkb_0f, pkb_1f⟩ := kb.two
    obtain ⟨⟨pkc_0, pkc_1, pkc_2, pkc_3, pkc_4⟩, pkc_0f, pkc_1f, pkc_2f, pkc_3f, pkc_4f⟩ := kc.five
    go_wp2_with fail
    clear pkb_0 pkb_1 pkb_0f pkb_1f pkc_0 pkc_1 pkc_2 pkc_3 pkc_4 pkc_0f pkc_1f pkc_2f pkc_3f pkc_4f
    refine (H4.out _).mono ?_
    rintro e w4 ⟨rfl, hC⟩
    dsimp only
    replace kb := kb.on hC; replace kc := kc.on hC; replace kr := kr.on hC; replace bc := bc.trans (hC.mono bc.size); clear hC
    obtain ⟨pkb_0, pkb_1, pkb_0f, pkb_1f⟩ := kb.two
    obtain ⟨⟨pkc_0, pkc_1, pkc_2, pkc_3, pkc_4⟩, pkc_0f, pkc_1f, pkc_2f, pkc_3f, pkc_4f⟩ := kc.five
    go_wp2_with fail
    clear pkb_0 pkb_1 pkb_0f pkb_1f pkc_0 pkc_1 pkc_2 pkc_3 pkc_4 pkc_0f pkc_1f pkc_2f pkc_3f pkc_4f
    refine (H5.out _ bc).mono ?_
    rintro e w5 ⟨rfl, hC⟩
    dsimp only
    replace kb := kb.on hC; replace kc := kc.on hC; replace kr := kr.on hC; replace bc := bc.trans (hC.mono bc.size); clear hC
    have z_kf_kb := kb.lt
    have z_kf_kc := kc.lt
    have z_kf_kr := kr.lt
    have zb_kf := bc.size
    have kf := Blk.new w5 26 #[.int .i64 0, .int .i64 0, .int .i64 0, .int .i64 0, .int .i64 0, .int .i64 0, .int .i64 0, .int .i64 0, .slice none 0 0]
    have al := Below.al w5 (.cells #[.int .i64 0, .int .i64 0, .int .i64 0, .int .i64 0, .int .i64 0, .int .i64 0, .int .i64 0, .int .i64 0, .slice none 0 0] 26)
    replace kb := kb.on al; replace kc := kc.on al; replace kr := kr.on al; replace bc := bc.trans (al.mono bc.size); clear al
    obtain ⟨pkb_0, pkb_1, pkb_0f, pkb_1f⟩ := kb.two
    obtain ⟨⟨pkc_0, pkc_1, pkc_2, pkc_3, pkc_4⟩, pkc_0f, pkc_1f, pkc_2f, pkc_3f, pkc_4f⟩ := kc.five
    obtain ⟨pkf_0, pkf_1, pkf_2, pkf_3, pkf_4, pkf_5, pkf_6, pkf_7, pkf_8⟩ := kf.nine
    obtain ⟨pkf_0f, pkf_1f, pkf_2f, pkf_3f, pkf_4f, pkf_5f, pkf_6f, pkf_7f, pkf_8f⟩ := kf.nineF
    go_wp2_with fail
    clear pkb_0 pkb_1 pkb_0f pkb_1f pkc_0 pkc_1 pkc_2 pkc_3 pkc_4 pkc_0f pkc_1f pkc_2f pkc_3f pkc_4f pkf_0 pkf_1 pkf_2 pkf_3 pkf_4 pkf_5 pkf_6 pkf_7 pkf_8 pkf_0f pkf_1f pkf_2f pkf_3f pkf_4f pkf_5f pkf_6f pkf_7f pkf_8f
    generalize w5.alloc (.cells #[.int .i64 0, .int .i64 0, .int .i64 0, .int .i64 0, .int .i64 0, .int .i64 0, .int .i64 0, .int .i64 0, .slice none 0 0] 26) = u2 at *
    generalize w5.heap.size = g2 at *
    refine (H6.out _ bc).mono ?_
    rintro e w6 ⟨A8, n8, c8, rfl, hn8, y8, hC⟩
    dsimp only at y8 ⊢
    replace kb := kb.on hC; replace kc := kc.on hC; replace kr := kr.on hC; replace kf := kf.on hC; replace bc := bc.trans (hC.mono bc.size); clear hC
    clear hn8
    unfold zeroF zeroC
    dsimp only
    have hst := run_storeVar_row (P := Tryd.prog) w6 (g2) 26 26 _ #[.int .i64 0, .int .i64 0, .int .i64 0, .int .i64 0, .int .i64 0, .int .i64 0, .int .i64 0, .int .i64 0, .slice A8 n8 c8] kf info26 rfl (by simp [Value.oneCell'])
    simp [go_sem] at hst
    have hG := only_setRow w6 (g2) #[.int .i64 0, .int .i64 0, .int .i64 0, .int .i64 0, .int .i64 0, .int .i64 0, .int .i64 0, .int .i64 0, .slice A8 n8 c8]
    replace kb := kb.grown hG (some_ne (by omega)); replace kc := kc.grown hG (some_ne (by omega)); replace kr := kr.grown hG (some_ne (by omega)); replace y8 := y8.off kf (no_u8_9 _ _ _ _ _ _ _ _ _ _ _) hG; replace bc := Below.off bc bc.size (by omega) hG; replace kf := Blk.row kf #[.int .i64 0, .int .i64 0, .int .i64 0, .int .i64 0, .int .i64 0, .int .i64 0, .int .i64 0, .int .i64 0, .slice A8 n8 c8]; clear hG
    have hst := run_storeVar_row (P := Tryd.prog) (w6.setRow (g2) #[.int .i64 0, .int .i64 0, .int .i64 0, .int .i64 0, .int .i64 0, .int .i64 0, .int .i64 0, .int .i64 0, .slice A8 n8 c8]) (w.heap.size + 1 + 1) 26 26 _ #[.int .i64 0, .int .i64 0, .int .i64 0, .int .i64 0, .int .i64 0, .int .i64 0, .int .i64 0, .int .i64 0, .slice none 0 0] kr info26 rfl (by simp [Value.oneCell'])
    simp [go_sem] at hst
    have hG := only_setRow (w6.setRow (g2) #[.int .i64 0, .int .i64 0, .int .i64 0, .int .i64 0, .int .i64 0, .int .i64 0, .int .i64 0, .int .i64 0, .slice A8 n8 c8]) (w.heap.size + 1 + 1) #[.int .i64 0, .int .i64 0, .int .i64 0, .int .i64 0, .int .i64 0, .int .i64 0, .int .i64 0, .int .i64 0, .slice none 0 0]
    replace kb := kb.grown hG (some_ne (by omega)); replace kc := kc.grown hG (some_ne (by omega)); replace kf := kf.grown hG (some_ne (by omega)); replace y8 := y8.off kr (no_u8_9 _ _ _ _ _ _ _ _ _ _ _) hG; replace bc := Below.off bc bc.size (by omega) hG; replace kr := Blk.row kr #[.int .i64 0, .int .i64 0, .int .i64 0, .int .i64 0, .int .i64 0, .int .i64 0, .int .i64 0, .int .i64 0, .slice none 0 0]; clear hG
    go_wp2
    obtain ⟨xkr_0, xkr_1, xkr_2, xkr_3, xkr_4, xkr_5, xkr_6, xkr_7, xkr_8⟩ := kr.nine
    obtain ⟨xkr_0f, xkr_1f, xkr_2f, xkr_3f, xkr_4f, xkr_5f, xkr_6f, xkr_7f, xkr_8f⟩ := kr.nineF
    rw [HRR.out]
    exact bodyPost_ret (v := .tuple #[.agg #[.int .i64 0, .int .i64 0, .int .i64 0, .int .i64 0, .int .i64 0, .int .i64 0, .int .i64 0, .int .i64 0, .slice none 0 0], .int .i64 51]) (by simp [results, Tryd.results19, go_sem, xkr_0, xkr_1, xkr_2, xkr_3, xkr_4, xkr_5, xkr_6, xkr_7, xkr_8]) rfl ⟨none, 0, 0, rfl, rfl, Byt.none _, bc⟩
  simp only [if_true, if_pos hx] at h6
  have H6 := Lib.hid h6; clear h6
  obtain ⟨kb, kc, kr, bc⟩ := bx3 w #[.int .i64 L.length, .slice A n c] #[.int .i64 C0, .int .i64 C1, .int .i64 C2, .int .i64 C3, .int .i64 C4] #[.int .i64 0, .int .i64 0, .int .i64 0, .int .i64 0, .int .i64 0, .int .i64 0, .int .i64 0, .int .i64 0, .slice none 0 0] 28 23 26
  go_enter Tryd.func19, Tryd.ntmps19
  go_wp2_with fail
  generalize ((w.alloc (.cells #[.int .i64 L.length, .slice A n c] 28)).alloc (.cells #[.int .i64 C0, .int .i64 C1, .int .i64 C2, .int .i64 C3, .int .i64 C4] 23)).alloc (.cells #[.int .i64 0, .int .i64 0, .int .i64 0, .int .i64 0, .int .i64 0, .int .i64 0, .int .i64 0, .int .i64 0, .slice none 0 0] 26) = u1 at *
  refine (H1.out _ bc).mono ?_
  rintro e w1 ⟨rfl, hC⟩
  dsimp only
  replace kb := kb.on hC; replace kc := kc.on hC; replace kr := kr.on hC; replace bc := bc.trans (hC.mono bc.size); clear hC
  obtain ⟨pkb_0, pkb_1, pkb_0f, pkb_1f⟩ := kb.two
  obtain ⟨⟨pkc_0, pkc_1, pkc_2, pkc_3, pkc_4⟩, pkc_0f, pkc_1f, pkc_2f, pkc_3f, pkc_4f⟩ := kc.five
  go_wp2_with fail
  clear pkb_0 pkb_1 pkb_0f pkb_1f pkc_0 pkc_1 pkc_2 pkc_3 pkc_4 pkc_0f pkc_1f pkc_2f pkc_3f pkc_4f
  refine (H2.out _).mono ?_
  rintro e w2 ⟨rfl, hC⟩
  dsimp only
  replace kb := kb.on hC; replace kc := kc.on hC; replace kr := kr.on hC; replace bc := bc.trans (hC.mono bc.size); clear hC
  obtain ⟨pkb_0, pkb_1, pkb_0f, pkb_1f⟩ := kb.two
  obtain ⟨⟨pkc_0, pkc_1, pkc_2, pkc_3, pkc_4⟩, pkc_0f, pkc_1f, pkc_2f, pkc_3f, pkc_4f⟩ := kc.five
  go_wp2_with fail
  clear pkb_0 pkb_1 pkb_0f pkb_1f pkc_0 pkc_1 pkc_2 pkc_3 pkc_4 pkc_0f pkc_1f pkc_2f pkc_3f pkc_4f
  refine (H3.out _ bc).mono ?_
  rintro e w3 ⟨rfl, hC⟩
  dsimp only
  replace kb := kb.on hC; replace kc := kc.on hC; replace kr := kr.on hC; replace bc := bc.trans (hC.mono bc.size); clear hC
  obtain ⟨pkb_0, pkb_1, pkb_0f, pkb_1f⟩ := kb.two
  obtain ⟨⟨pkc_0, pkc_1, pkc_2, pkc_3, pkc_4⟩, pkc_0f, pkc_1f, pkc_2f, pkc_3f, pkc_4f⟩ := kc.five
  go_wp2_with fail
  clear pkb_0 pkb_1 pkb_0f pkb_1f pkc_0 pkc_1 pkc_2 pkc_3 pkc_4 pkc_0f pkc_1f pkc_2f pkc_3f pkc_4f
  refine (H4.out _).mono ?_
  rintro e w4 ⟨rfl, hC⟩
  dsimp only
  replace kb := kb.on hC; replace kc := kc.on hC; replace kr := kr.on hC; replace bc := bc.trans (hC.mono bc.size); clear hC
  obtain ⟨pkb_0, pkb_1, pkb_0f, pkb_1f⟩ := kb.two
  obtain ⟨⟨pkc_0, pkc_1, pkc_2, pkc_3, pkc_4⟩, pkc_0f, pkc_1f, pkc_2f, pkc_3f, pkc_4f⟩ := kc.five
  go_wp2_with fail
  clear pkb_0 pkb_1 pkb_0f pkb_1f pkc_0 pkc_1 pkc_2 pkc_3 pkc_4 pkc_0f pkc_1f pkc_2f pkc_3f pkc_4f
  refine (H5.out _ bc).mono ?_
  rintro e w5 ⟨rfl, hC⟩
  dsimp only
  replace kb := kb.on hC; replace kc := kc.on hC; replace kr := kr.on hC; replace bc := bc.trans (hC.mono bc.size); clear hC
  have z_kf_kb := kb.lt
  have z_kf_kc := kc.lt
  have z_kf_kr := kr.lt
  have zb_kf := bc.size
  have kf := Blk.new w5 26 #[.int .i64 0, .int .i64 0, .int .i64 0, .int .i64 0, .int .i64 0, .int .i64 0, .int .i64 0, .int .i64 0, .slice none 0 0]
  have al := Below.al w5 (.cells #[.int .i64 0, .int .i64 0, .int .i64 0, .int .i64 0, .int .i64 0, .int .i64 0, .int .i64 0, .int .i64 0, .slice none 0 0] 26)
  replace kb := kb.on al; replace kc := kc.on al; replace kr := kr.on al; replace bc := bc.trans (al.mono bc.size); clear al
  obtain ⟨pkb_0, pkb_1, pkb_0f, pkb_1f⟩ := kb.two
  obtain ⟨⟨pkc_0, pkc_1, pkc_2, pkc_3, pkc_4⟩, pkc_0f, pkc_1f, pkc_2f, pkc_3f, pkc_4f⟩ := kc.five
  obtain ⟨pkf_0, pkf_1, pkf_2, pkf_3, pkf_4, pkf_5, pkf_6, pkf_7, pkf_8⟩ := kf.nine
  obtain ⟨pkf_0f, pkf_1f, pkf_2f, pkf_3f, pkf_4f, pkf_5f, pkf_6f, pkf_7f, pkf_8f⟩ := kf.nineF
  go_wp2_with fail
  clear pkb_0 pkb_1 pkb_0f pkb_1f pkc_0 pkc_1 pkc_2 pkc_3 pkc_4 pkc_0f pkc_1f pkc_2f pkc_3f pkc_4f pkf_0 pkf_1 pkf_2 pkf_3 pkf_4 pkf_5 pkf_6 pkf_7 pkf_8 pkf_0f pkf_1f pkf_2f pkf_3f pkf_4f pkf_5f pkf_6f pkf_7f pkf_8f
  generalize w5.alloc (.cells #[.int .i64 0, .int .i64 0, .int .i64 0, .int .i64 0, .int .i64 0, .int .i64 0, .int .i64 0, .int .i64 0, .slice none 0 0] 26) = u2 at *
  generalize w5.heap.size = g2 at *
  refine (H6.out _ bc).mono ?_
  rintro e w6 ⟨A8, n8, c8, rfl, hn8, y8, hC⟩
  dsimp only at y8 ⊢
  replace kb := kb.on hC; replace kc := kc.on hC; replace kr := kr.on hC; replace kf := kf.on hC; replace bc := bc.trans (hC.mono bc.size); clear hC
  have HN8 := Lib.hid hn8; clear hn8
  have hst := run_storeVar_row (P := Tryd.prog) w6 (g2) 26 26 _ #[.int .i64 fK, .int .i64 fR, .int .i64 fT, .int .i64 fP, .int .i64 fM, .int .i64 fN, .int .i64 fE, .int .i64 fF, .slice A8 n8 c8] kf info26 rfl (by simp [Value.oneCell'])
  simp [go_sem] at hst
  have hG := only_setRow w6 (g2) #[.int .i64 fK, .int .i64 fR, .int .i64 fT, .int .i64 fP, .int .i64 fM, .int .i64 fN, .int .i64 fE, .int .i64 fF, .slice A8 n8 c8]
  replace kb := kb.grown hG (some_ne (by omega)); replace kc := kc.grown hG (some_ne (by omega)); replace kr := kr.grown hG (some_ne (by omega)); replace y8 := y8.off kf (no_u8_9 _ _ _ _ _ _ _ _ _ _ _) hG; replace bc := Below.off bc bc.size (by omega) hG; replace kf := Blk.row kf #[.int .i64 fK, .int .i64 fR, .int .i64 fT, .int .i64 fP, .int .i64 fM, .int .i64 fN, .int .i64 fE, .int .i64 fF, .slice A8 n8 c8]; clear hG
  by_cases hm : mayF ⟨fK, fR, ⟨fT, fP, fM, fN, fE⟩, fF, fd⟩ = true
  · have hr := Q4.out (by simp) (by simp) hm; have HRR := Lib.hid hr
    have hck := H8.out A8 n8 c8; rw [checkF_yes hm] at hck; have HCK := Lib.hid hck; clear hck hr hm
    obtain ⟨pkf_0, pkf_1, pkf_2, pkf_3, pkf_4, pkf_5, pkf_6, pkf_7, pkf_8⟩ := kf.nine
    obtain ⟨pkf_0f, pkf_1f, pkf_2f, pkf_3f, pkf_4f, pkf_5f, pkf_6f, pkf_7f, pkf_8f⟩ := kf.nineF
    go_wp2_with fail
    clear pkf_0 pkf_1 pkf_2 pkf_3 pkf_4 pkf_5 pkf_6 pkf_7 pkf_8 pkf_0f pkf_1f pkf_2f pkf_3f pkf_4f pkf_5f pkf_6f pkf_7f pkf_8f
    generalize w6.setRow (g2) #[.int .i64 fK, .int .i64 fR, .int .i64 fT, .int .i64 fP, .int .i64 fM, .int .i64 fN, .int .i64 fE, .int .i64 fF, .slice A8 n8 c8] = u3 at *
    refine (HCK.out _ HN8.out).mono ?_
    rintro e w11 ⟨rfl, hC⟩
    dsimp only
    replace kb := kb.on hC; replace kc := kc.on hC; replace kr := kr.on hC; replace kf := kf.on hC; replace y8 := y8.on hC; replace bc := bc.trans (hC.mono bc.size); clear hC
    obtain ⟨pkf_0, pkf_1, pkf_2, pkf_3, pkf_4, pkf_5, pkf_6, pkf_7, pkf_8⟩ := kf.nine
    obtain ⟨pkf_0f, pkf_1f, pkf_2f, pkf_3f, pkf_4f, pkf_5f, pkf_6f, pkf_7f, pkf_8f⟩ := kf.nineF
    have hst := run_storeVar_row (P := Tryd.prog) w11 (w.heap.size + 1 + 1) 26 26 _ #[.int .i64 fK, .int .i64 fR, .int .i64 fT, .int .i64 fP, .int .i64 fM, .int .i64 fN, .int .i64 fE, .int .i64 fF, .slice A8 n8 c8] kr info26 rfl (by simp [Value.oneCell'])
    simp [go_sem] at hst
    have hG := only_setRow w11 (w.heap.size + 1 + 1) #[.int .i64 fK, .int .i64 fR, .int .i64 fT, .int .i64 fP, .int .i64 fM, .int .i64 fN, .int .i64 fE, .int .i64 fF, .slice A8 n8 c8]
    replace kb := kb.grown hG (some_ne (by omega)); replace kc := kc.grown hG (some_ne (by omega)); replace kf := kf.grown hG (some_ne (by omega)); replace y8 := y8.off kr (no_u8_9 _ _ _ _ _ _ _ _ _ _ _) hG; replace bc := Below.off bc bc.size (by omega) hG; replace kr := Blk.row kr #[.int .i64 fK, .int .i64 fR, .int .i64 fT, .int .i64 fP, .int .i64 fM, .int .i64 fN, .int .i64 fE, .int .i64 fF, .slice A8 n8 c8]; clear hG
    go_wp2
    obtain ⟨xkr_0, xkr_1, xkr_2, xkr_3, xkr_4, xkr_5, xkr_6, xkr_7, xkr_8⟩ := kr.nine
    obtain ⟨xkr_0f, xkr_1f, xkr_2f, xkr_3f, xkr_4f, xkr_5f, xkr_6f, xkr_7f, xkr_8f⟩ := kr.nineF
    rw [HRR.out]
    exact bodyPost_ret (v := .tuple #[.agg #[.int .i64 fK, .int .i64 fR, .int .i64 fT, .int .i64 fP, .int .i64 fM, .int .i64 fN, .int .i64 fE, .int .i64 fF, .slice A8 n8 c8], .int .i64 0]) (by simp [results, Tryd.results19, go_sem, xkr_0, xkr_1, xkr_2, xkr_3, xkr_4, xkr_5, xkr_6, xkr_7, xkr_8]) rfl ⟨A8, n8, c8, rfl, HN8.out, y8, bc⟩
  · have hr := Q3.out (by simp) (by simp) hm; have HRR := Lib.hid hr
    have hck := H8.out A8 n8 c8; rw [checkF_no hm] at hck; have HCK := Lib.hid hck; clear hck hr hm
    obtain ⟨pkf_0, pkf_1, pkf_2, pkf_3, pkf_4, pkf_5, pkf_6, pkf_7, pkf_8⟩ := kf.nine
    obtain ⟨pkf_0f, pkf_1f, pkf_2f, pkf_3f, pkf_4f, pkf_5f, pkf_6f, pkf_7f, pkf_8f⟩ := kf.nineF
    go_wp2_with fail
    clear pkf_0 pkf_1 pkf_2 pkf_3 pkf_4 pkf_5 pkf_6 pkf_7 pkf_8 pkf_0f pkf_1f pkf_2f pkf_3f pkf_4f pkf_5f pkf_6f pkf_7f pkf_8f
    generalize w6.setRow (g2) #[.int .i64 fK, .int .i64 fR, .int .i64 fT, .int .i64 fP, .int .i64 fM, .int .i64 fN, .int .i64 fE, .int .i64 fF, .slice A8 n8 c8] = u3 at *
    refine (HCK.out _ HN8.out).mono ?_
    rintro e w11 ⟨rfl, hC⟩
    dsimp only
    replace kb := kb.on hC; replace kc := kc.on hC; replace kr := kr.on hC; replace kf := kf.on hC; replace y8 := y8.on hC; replace bc := bc.trans (hC.mono bc.size); clear hC
    have hst := run_storeVar_row (P := Tryd.prog) w11 (w.heap.size + 1 + 1) 26 26 _ #[.int .i64 0, .int .i64 0, .int .i64 0, .int .i64 0, .int .i64 0, .int .i64 0, .int .i64 0, .int .i64 0, .slice none 0 0] kr info26 rfl (by simp [Value.oneCell'])
    simp [go_sem] at hst
    have hG := only_setRow w11 (w.heap.size + 1 + 1) #[.int .i64 0, .int .i64 0, .int .i64 0, .int .i64 0, .int .i64 0, .int .i64 0, .int .i64 0, .int .i64 0, .slice none 0 0]
    replace kb := kb.grown hG (some_ne (by omega)); replace kc := kc.grown hG (some_ne (by omega)); replace kf := kf.grown hG (some_ne (by omega)); replace y8 := y8.off kr (no_u8_9 _ _ _ _ _ _ _ _ _ _ _) hG; replace bc := Below.off bc bc.size (by omega) hG; replace kr := Blk.row kr #[.int .i64 0, .int .i64 0, .int .i64 0, .int .i64 0, .int .i64 0, .int .i64 0, .int .i64 0, .int .i64 0, .slice none 0 0]; clear hG
    go_wp2
    obtain ⟨xkr_0, xkr_1, xkr_2, xkr_3, xkr_4, xkr_5, xkr_6, xkr_7, xkr_8⟩ := kr.nine
    obtain ⟨xkr_0f, xkr_1f, xkr_2f, xkr_3f, xkr_4f, xkr_5f, xkr_6f, xkr_7f, xkr_8f⟩ := kr.nineF
    rw [HRR.out]
    exact bodyPost_ret (v := .tuple #[.agg #[.int .i64 0, .int .i64 0, .int .i64 0, .int .i64 0, .int .i64 0, .int .i64 0, .int .i64 0, .int .i64 0, .slice none 0 0], .int .i64 51]) (by simp [results, Tryd.results19, go_sem, xkr_0, xkr_1, xkr_2, xkr_3, xkr_4, xkr_5, xkr_6, xkr_7, xkr_8]) rfl ⟨none, 0, 0, rfl, rfl, Byt.none _, bc⟩
end Go.Proofs.YtcfbeelljhjnoaaDoor
