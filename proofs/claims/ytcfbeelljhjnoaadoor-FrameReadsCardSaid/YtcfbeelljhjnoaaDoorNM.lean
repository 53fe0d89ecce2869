/-
  Parse of package frame, by Kind (3): it answers as the document says. Conditions: that the bits can be read and are as long as a frame of their Kind, that the state may be, and that the program's tables hold what its text lays.
-/
import Derived.Test.YtcfbeelljhjnoaaDoorNK
namespace Go.Proofs.YtcfbeelljhjnoaaDoor
open Go.RowKit

set_option maxRecDepth 8000 in
set_option maxHeartbeats 8000000 in
theorem parse_3 {w : World} {L : List Bool} {A : Option Addr} {n : Nat} (h : Bv w L A n) (c : Nat) (C : CS) (hk : kindL L = 3) (hlong : longF 3 L.length = true) (hl : L.length = 54) (hC : mayC C 8 = true) (hT : Tab w) (hW : WTab w) :
    Calls Tryd.prog 18 #[.agg #[.int .i64 L.length, .slice A n c], .agg C.cells] w (ResF w (readL L C)) := by
  obtain ⟨R, hR⟩ : ∃ R, R = readL L C := ⟨_, rfl⟩
  rw [← hR]
  have q1 := fun (hz : zeroL 3 L = false) => read_no_zero (c := C) hk hz
  have q2 := fun (hz : zeroL 3 L = true) (hs : sumsL 3 L C = false) => read_no_sum hk hlong hz hs
  have q3 := fun (hz : zeroL 3 L = true) (hs : sumsL 3 L C = true) (hm : ¬ mayF (toldF 3 L C) = true) => read_no_may hk hlong hz hs hm
  have q4 := fun (hz : zeroL 3 L = true) (hs : sumsL 3 L C = true) (hm : mayF (toldF 3 L C) = true) => read_yes hk hlong hz hs hm
  rw [← hR] at q1 q2 q3 q4
  have h1 := fun (W : World) (hb : Below w.heap.size w W) => check_list (h.on hb) c
  have h2 := fun (W : World) (hb : Below w.heap.size w W) => bits_list C (w := W) hC (hW.on hb)
  have h3 := fun (W : World) (hb : Below w.heap.size w W) => kindOf_yes (h.on hb) c hk hlong
  have h4 := fun (W : World) (hb : Below w.heap.size w W) => number_list (h.on hb) c (N := L.length) (ai := 5) (Wi := 1) (a := 5) (W := 1) rfl rfl rfl (by decide) (by omega)
  have hSl := bitsOf_length C
  have h5 := fun (W : World) (hb : Below w.heap.size w W) => slice_list (h.on hb) c (N := L.length) (ai := 6) (bi := 30) (a := 6) (b := 30) rfl rfl rfl (by decide) (by omega)
  rw [show (L.drop 6).take (30 - 6) = stateL 3 L by unfold stateL; simp] at h5
  have hUl : (stateL 3 L).length = 24 := by unfold stateL; simp; omega
  have hwa : IntKind.i64.wrap 6 = 6 := by decide
  have h6 := fun (W : World) (hb : Below w.heap.size w W) (B : Option Addr) (m d : Nat) (hu : Bv W (stateL 3 L) B m) => sums_3 (h.on hb) hu c d hl (hT.on hb)
  have h7 := fun (W : World) (hb : Below w.heap.size w W) (B : Option Addr) (m d : Nat) (hu : Bv W (stateL 3 L) B m) => said_3 (h.on hb) hu c d hUl hl (hW.on hb)
  have hsm : decide (rem 0 L = 0) = sumsL 3 L C := by simp [sumsL]
  rw [hsm] at h6
  generalize sumsL 3 L C = zs at *
  have hzl : zeroL 3 L = decide (numOf ((L.drop 5).take 1) = 0) := by simp [zeroL]
  rw [hzl] at q1 q2 q3 q4
  generalize numOf ((L.drop 5).take 1) = zv at *
  have ht := told_3 L C
  have hno := fun (hx : ¬ mayC (fieldsOf (stateL 3 L)) 8 = true) (hm : mayF (toldF 3 L C) = true) => hx (by rw [told_3] at hm; exact ((mayF_iff _).1 hm).2.2.1)
  rw [← ht] at h7
  clear ht
  generalize toldF 3 L C = f at *
  generalize fieldsOf (stateL 3 L) = X at *
  generalize stateL 3 L = U at *
  have h8 := fun (A8 : Option Addr) (n8 c8 : Nat) (W : World) (hn : n8 = f.ds.length) => checkF_any f A8 n8 c8 W hn
  generalize bitsOf C = S at *
  obtain ⟨C0, C1, C2, C3, C4⟩ := C
  obtain ⟨fK, fR, ⟨fT, fP, fM, fN, fE⟩, fF, fd⟩ := f
  unfold ResG at h7
  unfold CS.cells FR.cells at *
  dsimp only at h7 h8
  have H1 := Lib.hid h1; have H2 := Lib.hid h2; have H3 := Lib.hid h3; have H4 := Lib.hid h4; have H6 := Lib.hid h6; have H7 := Lib.hid h7; have H8 := Lib.hid h8; have Q1 := Lib.hid q1; have Q2 := Lib.hid q2; have Q3 := Lib.hid q3; have Q4 := Lib.hid q4; have HSL := Lib.hid hSl
  clear h1 h2 h3 h4 h6 h7 h8 q1 q2 q3 q4 hSl hR hk hlong hl hC hsm hzl h
  have H5 := Lib.hid h5; have HUL := Lib.hid hUl; have HNO := Lib.hid hno; clear h5 hUl hno
  obtain ⟨kb, kc, kr, bc⟩ := bx3 w #[.int .i64 L.length, .slice A n c] #[.int .i64 C0, .int .i64 C1, .int .i64 C2, .int .i64 C3, .int .i64 C4] #[.int .i64 0, .int .i64 0, .int .i64 0, .int .i64 0, .int .i64 0, .int .i64 0, .int .i64 0, .int .i64 0, .slice none 0 0] 28 23 26
  go_enter Tryd.func18, Tryd.ntmps18
  go_wp2_with fail
  generalize ((w.alloc (.cells #[.int .i64 L.length, .slice A n c] 28)).alloc (.cells #[.int .i64 C0, .int .i64 C1, .int .i64 C2, .int .i64 C3, .int .i64 C4] 23)).alloc (.cells #[.int .i64 0, .int .i64 0, .int .i64 0, .int .i64 0, .int .i64 0, .int .i64 0, .int .i64 0, .int .i64 0, .slice none 0 0] 26) = u1 at *
  refine (H1.out _ bc).mono ?_
  rintro e w1 ⟨rfl, hC⟩
  dsimp only
  replace kb := kb.on hC; replace kc := kc.on hC; replace kr := kr.on hC; replace bc := bc.trans (hC.mono bc.size); clear hC
  obtain ⟨pkb_0, pkb_1, pkb_0f, pkb_1f⟩ := kb.two
  obtain ⟨⟨pkc_0, pkc_1, pkc_2, pkc_3, pkc_4⟩, pkc_0f, pkc_1f, pkc_2f, pkc_3f, pkc_4f⟩ := kc.five
  go_wp2_with fail
  clear pkb_0 pkb_1 pkb_0f pkb_1f pkc_0 pkc_1 pkc_2 pkc_3 pkc_4 pkc_0f pkc_1f pkc_2f pkc_3f pkc_4f
  refine (H2.out _ bc).mono ?_
  rintro e w2 ⟨A2, n2, c2, rfl, v2, hC⟩
  dsimp only at v2 ⊢
  replace kb := kb.on hC; replace kc := kc.on hC; replace kr := kr.on hC; replace bc := bc.trans (hC.mono bc.size); clear hC
  have z_ks_kb := kb.lt
  have z_ks_kc := kc.lt
  have z_ks_kr := kr.lt
  have zb_ks := bc.size
  have ks := Blk.new w2 28 #[.int .i64 S.length, .slice A2 n2 c2]
  have al := Below.al w2 (.cells #[.int .i64 S.length, .slice A2 n2 c2] 28)
  replace kb := kb.on al; replace kc := kc.on al; replace kr := kr.on al; replace v2 := v2.on al; replace bc := bc.trans (al.mono bc.size); clear al
  obtain ⟨pkb_0, pkb_1, pkb_0f, pkb_1f⟩ := kb.two
  obtain ⟨⟨pkc_0, pkc_1, pkc_2, pkc_3, pkc_4⟩, pkc_0f, pkc_1f, pkc_2f, pkc_3f, pkc_4f⟩ := kc.five
  go_wp2_with fail
  clear pkb_0 pkb_1 pkb_0f pkb_1f pkc_0 pkc_1 pkc_2 pkc_3 pkc_4 pkc_0f pkc_1f pkc_2f pkc_3f pkc_4f
  generalize w2.alloc (.cells #[.int .i64 S.length, .slice A2 n2 c2] 28) = u2 at *
  generalize w2.heap.size = g2 at *
  refine (H3.out _ bc).mono ?_
  rintro e w3 ⟨rfl, hC⟩
  dsimp only
  replace kb := kb.on hC; replace kc := kc.on hC; replace kr := kr.on hC; replace ks := ks.on hC; replace v2 := v2.on hC; replace bc := bc.trans (hC.mono bc.size); clear hC
  obtain ⟨pkb_0, pkb_1, pkb_0f, pkb_1f⟩ := kb.two
  obtain ⟨⟨pkc_0, pkc_1, pkc_2, pkc_3, pkc_4⟩, pkc_0f, pkc_1f, pkc_2f, pkc_3f, pkc_4f⟩ := kc.five
  go_wp2_with fail
  clear pkb_0 pkb_1 pkb_0f pkb_1f pkc_0 pkc_1 pkc_2 pkc_3 pkc_4 pkc_0f pkc_1f pkc_2f pkc_3f pkc_4f
  refine (partsOf_3 _).mono ?_
  rintro e w4 ⟨rfl, hC⟩
  dsimp only
  replace kb := kb.on hC; replace kc := kc.on hC; replace kr := kr.on hC; replace ks := ks.on hC; replace v2 := v2.on hC; replace bc := bc.trans (hC.mono bc.size); clear hC
  have z_kp_kb := kb.lt
  have z_kp_kc := kc.lt
  have z_kp_kr := kr.lt
  have z_kp_ks := ks.lt
  have zb_kp := bc.size
  have kp := Blk.new w4 51 #[.int .i64 3, .int .i64 1, .int .i64 24, .int .i64 24, .int .i64 0]
  have al := Below.al w4 (.cells #[.int .i64 3, .int .i64 1, .int .i64 24, .int .i64 24, .int .i64 0] 51)
  replace kb := kb.on al; replace kc := kc.on al; replace kr := kr.on al; replace ks := ks.on al; replace v2 := v2.on al; replace bc := bc.trans (al.mono bc.size); clear al
  obtain ⟨pkb_0, pkb_1, pkb_0f, pkb_1f⟩ := kb.two
  obtain ⟨⟨pkp_0, pkp_1, pkp_2, pkp_3, pkp_4⟩, pkp_0f, pkp_1f, pkp_2f, pkp_3f, pkp_4f⟩ := kp.five
  go_wp2_with fail
  clear pkb_0 pkb_1 pkb_0f pkb_1f pkp_0 pkp_1 pkp_2 pkp_3 pkp_4 pkp_0f pkp_1f pkp_2f pkp_3f pkp_4f
  generalize w4.alloc (.cells #[.int .i64 3, .int .i64 1, .int .i64 24, .int .i64 24, .int .i64 0] 51) = u3 at *
  generalize w4.heap.size = g3 at *
  refine (H4.out _ bc).mono ?_
  rintro e w5 ⟨rfl, hC⟩
  dsimp only
  replace kb := kb.on hC; replace kc := kc.on hC; replace kr := kr.on hC; replace ks := ks.on hC; replace kp := kp.on hC; replace v2 := v2.on hC; replace bc := bc.trans (hC.mono bc.size); clear hC
  by_cases hz : zv = 0
  rotate_left
  · have d1 : ((zv : Int) == 0) = false := by simpa using hz
    have d2 : (zv == 0) = false := by simpa using hz
    have hr := Q1.out (by simpa using hz); have HRR := Lib.hid hr; clear hr hz
    have hst := run_storeVar_row (P := Tryd.prog) w5 (w.heap.size + 1 + 1) 26 26 _ #[.int .i64 0, .int .i64 0, .int .i64 0, .int .i64 0, .int .i64 0, .int .i64 0, .int .i64 0, .int .i64 0, .slice none 0 0] kr info26 rfl (by simp [Value.oneCell'])
    simp [go_sem] at hst
    have hG := only_setRow w5 (w.heap.size + 1 + 1) #[.int .i64 0, .int .i64 0, .int .i64 0, .int .i64 0, .int .i64 0, .int .i64 0, .int .i64 0, .int .i64 0, .slice none 0 0]
    replace kb := kb.grown hG (some_ne (by omega)); replace kc := kc.grown hG (some_ne (by omega)); replace ks := ks.grown hG (some_ne (by omega)); replace kp := kp.grown hG (some_ne (by omega)); replace v2 := v2.off kr (no_u8_9 _ _ _ _ _ _ _ _ _ _ _) hG; replace bc := Below.off bc bc.size (by omega) hG; replace kr := Blk.row kr #[.int .i64 0, .int .i64 0, .int .i64 0, .int .i64 0, .int .i64 0, .int .i64 0, .int .i64 0, .int .i64 0, .slice none 0 0]; clear hG
    go_wp2
    obtain ⟨xkr_0, xkr_1, xkr_2, xkr_3, xkr_4, xkr_5, xkr_6, xkr_7, xkr_8⟩ := kr.nine
    obtain ⟨xkr_0f, xkr_1f, xkr_2f, xkr_3f, xkr_4f, xkr_5f, xkr_6f, xkr_7f, xkr_8f⟩ := kr.nineF
    rw [HRR.out]
    exact bodyPost_ret (v := .tuple #[.agg #[.int .i64 0, .int .i64 0, .int .i64 0, .int .i64 0, .int .i64 0, .int .i64 0, .int .i64 0, .int .i64 0, .slice none 0 0], .int .i64 51]) (by simp [results, Tryd.results18, go_sem, xkr_0, xkr_1, xkr_2, xkr_3, xkr_4, xkr_5, xkr_6, xkr_7, xkr_8]) rfl ⟨none, 0, 0, rfl, rfl, Byt.none _, bc⟩
  subst hz
  obtain ⟨pkb_0, pkb_1, pkb_0f, pkb_1f⟩ := kb.two
  obtain ⟨⟨pkp_0, pkp_1, pkp_2, pkp_3, pkp_4⟩, pkp_0f, pkp_1f, pkp_2f, pkp_3f, pkp_4f⟩ := kp.five
  obtain ⟨pks_0, pks_1, pks_0f, pks_1f⟩ := ks.two
  go_wp2_with fail
  clear pkb_0 pkb_1 pkb_0f pkb_1f pkp_0 pkp_1 pkp_2 pkp_3 pkp_4 pkp_0f pkp_1f pkp_2f pkp_3f pkp_4f pks_0 pks_1 pks_0f pks_1f
  have hdr : Below w5.heap.size w5 w5.drew := (Below.refl _ _).drew
  replace kb := kb.on hdr; replace kc := kc.on hdr; replace kr := kr.on hdr; replace ks := ks.on hdr; replace kp := kp.on hdr; replace v2 := v2.on hdr; replace bc := bc.trans (hdr.mono bc.size)
  clear hdr
  obtain ⟨pkb_0, pkb_1, pkb_0f, pkb_1f⟩ := kb.two
  obtain ⟨⟨pkp_0, pkp_1, pkp_2, pkp_3, pkp_4⟩, pkp_0f, pkp_1f, pkp_2f, pkp_3f, pkp_4f⟩ := kp.five
  go_region_held3 (fun w' => w'.cell? ⟨w.heap.size, 0, none⟩ = some (.int .i64 L.length) ∧ w'.cell? ⟨w.heap.size, 1, none⟩ = some (.slice A n c) ∧ w'.cell? ⟨g3, 0, none⟩ = some (.int .i64 3) ∧ w'.cell? ⟨g3, 1, none⟩ = some (.int .i64 1) ∧ w'.cell? ⟨g3, 2, none⟩ = some (.int .i64 24) ∧ w'.cell? ⟨g3, 3, none⟩ = some (.int .i64 24) ∧ w'.cell? ⟨g3, 4, none⟩ = some (.int .i64 0)) (first | exact ⟨zkb_0, zkb_1, zkp_0, zkp_1, zkp_2, zkp_3, zkp_4⟩ | exact ⟨qkb_0, qkb_1, qkp_0, qkp_1, qkp_2, qkp_3, qkp_4⟩ | exact ⟨pkb_0, pkb_1, pkp_0, pkp_1, pkp_2, pkp_3, pkp_4⟩) (first | (have _ := hh2; go_at_call 46; refine (H5.out _ bc).mono ?_; rintro e w8 ⟨A7, n7, c7, rfl, v7, hC⟩; dsimp only at v7 ⊢; replace kb := kb.on hC; replace kc := kc.on hC; replace kr := kr.on hC; replace ks := ks.on hC; replace kp := kp.on hC; replace v2 := v2.on hC; replace bc := bc.trans (hC.mono bc.size); clear hC; clear pkb_0 pkb_1 pkb_0f pkb_1f pkp_0 pkp_1 pkp_2 pkp_3 pkp_4 pkp_0f pkp_1f pkp_2f pkp_3f pkp_4f; obtain ⟨pkb_0, pkb_1, pkb_0f, pkb_1f⟩ := kb.two; obtain ⟨⟨pkp_0, pkp_1, pkp_2, pkp_3, pkp_4⟩, pkp_0f, pkp_1f, pkp_2f, pkp_3f, pkp_4f⟩ := kp.five; obtain ⟨oks_0, oks_1, oks_0f, oks_1f⟩ := ks.two; have hG := st2 w8 (g2) (.int .i64 U.length) (.slice A7 n7 c7); replace kb := kb.grown hG (some_ne (by omega)); replace kc := kc.grown hG (some_ne (by omega)); replace kr := kr.grown hG (some_ne (by omega)); replace kp := kp.grown hG (some_ne (by omega)); replace v2 := v2.off ks (no_u8 _ _ _ _) hG; replace v7 := v7.off ks (no_u8 _ _ _ _) hG; replace bc := Below.off bc bc.size (by omega) hG; replace ks := ks.put2 (.int .i64 U.length) (.slice A7 n7 c7); clear hG; obtain ⟨zkb_0, zkb_1, zkb_0f, zkb_1f⟩ := kb.two; obtain ⟨⟨zkp_0, zkp_1, zkp_2, zkp_3, zkp_4⟩, zkp_0f, zkp_1f, zkp_2f, zkp_3f, zkp_4f⟩ := kp.five) | (have _ := hh1; go_at_call 41; refine (head_3 _).mono ?_; rintro e w7 ⟨rfl, hC⟩; dsimp only; replace kb := kb.on hC; replace kc := kc.on hC; replace kr := kr.on hC; replace ks := ks.on hC; replace kp := kp.on hC; replace v2 := v2.on hC; replace bc := bc.trans (hC.mono bc.size); clear hC; have hh2 := 0; clear pkb_0 pkb_1 pkb_0f pkb_1f pkp_0 pkp_1 pkp_2 pkp_3 pkp_4 pkp_0f pkp_1f pkp_2f pkp_3f pkp_4f; obtain ⟨pkb_0, pkb_1, pkb_0f, pkb_1f⟩ := kb.two; obtain ⟨⟨pkp_0, pkp_1, pkp_2, pkp_3, pkp_4⟩, pkp_0f, pkp_1f, pkp_2f, pkp_3f, pkp_4f⟩ := kp.five) | (go_at_call 41; refine (head_3 _).mono ?_; rintro e w6 ⟨rfl, hC⟩; dsimp only; replace kb := kb.on hC; replace kc := kc.on hC; replace kr := kr.on hC; replace ks := ks.on hC; replace kp := kp.on hC; replace v2 := v2.on hC; replace bc := bc.trans (hC.mono bc.size); clear hC; have hh1 := 0; clear pkb_0 pkb_1 pkb_0f pkb_1f pkp_0 pkp_1 pkp_2 pkp_3 pkp_4 pkp_0f pkp_1f pkp_2f pkp_3f pkp_4f; obtain ⟨pkb_0, pkb_1, pkb_0f, pkb_1f⟩ := kb.two; obtain ⟨⟨pkp_0, pkp_1, pkp_2, pkp_3, pkp_4⟩, pkp_0f, pkp_1f, pkp_2f, pkp_3f, pkp_4f⟩ := kp.five))
  all_goals
    obtain ⟨pkb_0, pkb_1, pkb_0f, pkb_1f⟩ := kb.two
    obtain ⟨⟨pkp_0, pkp_1, pkp_2, pkp_3, pkp_4⟩, pkp_0f, pkp_1f, pkp_2f, pkp_3f, pkp_4f⟩ := kp.five
    obtain ⟨pks_0, pks_1, pks_0f, pks_1f⟩ := ks.two
    go_wp2_with fail
    clear pkb_0 pkb_1 pkb_0f pkb_1f pkp_0 pkp_1 pkp_2 pkp_3 pkp_4 pkp_0f pkp_1f pkp_2f pkp_3f pkp_4f pks_0 pks_1 pks_0f pks_1f
    generalize (w8.setCell ⟨g2, 0, none⟩ (.int .i64 U.length)).setCell ⟨g2, 1, none⟩ (.slice A7 n7 c7) = u4 at *
    refine (H6.out _ bc A7 n7 c7 v7).mono ?_
    rintro e w9 ⟨rfl, hC⟩
    dsimp only
    replace kb := kb.on hC; replace kc := kc.on hC; replace kr := kr.on hC; replace ks := ks.on hC; replace kp := kp.on hC; replace v2 := v2.on hC; replace v7 := v7.on hC; replace bc := bc.trans (hC.mono bc.size); clear hC
    cases zs
    case' false =>
      have hr := Q2.out (by simp) (by simp); have HRR := Lib.hid hr; clear hr
      have hst := run_storeVar_row (P := Tryd.prog) w9 (w.heap.size + 1 + 1) 26 26 _ #[.int .i64 0, .int .i64 0, .int .i64 0, .int .i64 0, .int .i64 0, .int .i64 0, .int .i64 0, .int .i64 0, .slice none 0 0] kr info26 rfl (by simp [Value.oneCell'])
      simp [go_sem] at hst
      have hG := only_setRow w9 (w.heap.size + 1 + 1) #[.int .i64 0, .int .i64 0, .int .i64 0, .int .i64 0, .int .i64 0, .int .i64 0, .int .i64 0, .int .i64 0, .slice none 0 0]
      replace kb := kb.grown hG (some_ne (by omega)); replace kc := kc.grown hG (some_ne (by omega)); replace ks := ks.grown hG (some_ne (by omega)); replace kp := kp.grown hG (some_ne (by omega)); replace v2 := v2.off kr (no_u8_9 _ _ _ _ _ _ _ _ _ _ _) hG; replace v7 := v7.off kr (no_u8_9 _ _ _ _ _ _ _ _ _ _ _) hG; replace bc := Below.off bc bc.size (by omega) hG; replace kr := Blk.row kr #[.int .i64 0, .int .i64 0, .int .i64 0, .int .i64 0, .int .i64 0, .int .i64 0, .int .i64 0, .int .i64 0, .slice none 0 0]; clear hG
      go_wp2
      obtain ⟨xkr_0, xkr_1, xkr_2, xkr_3, xkr_4, xkr_5, xkr_6, xkr_7, xkr_8⟩ := kr.nine
      obtain ⟨xkr_0f, xkr_1f, xkr_2f, xkr_3f, xkr_4f, xkr_5f, xkr_6f, xkr_7f, xkr_8f⟩ := kr.nineF
      rw [HRR.out]
      exact bodyPost_ret (v := .tuple #[.agg #[.int .i64 0, .int .i64 0, .int .i64 0, .int .i64 0, .int .i64 0, .int .i64 0, .int .i64 0, .int .i64 0, .slice none 0 0], .int .i64 21]) (by simp [results, Tryd.results18, go_sem, xkr_0, xkr_1, xkr_2, xkr_3, xkr_4, xkr_5, xkr_6, xkr_7, xkr_8]) rfl ⟨none, 0, 0, rfl, rfl, Byt.none _, bc⟩
    case' true =>
      obtain ⟨pkb_0, pkb_1, pkb_0f, pkb_1f⟩ := kb.two
      obtain ⟨⟨pkp_0, pkp_1, pkp_2, pkp_3, pkp_4⟩, pkp_0f, pkp_1f, pkp_2f, pkp_3f, pkp_4f⟩ := kp.five
      obtain ⟨pks_0, pks_1, pks_0f, pks_1f⟩ := ks.two
      go_wp2_with fail
      clear pkb_0 pkb_1 pkb_0f pkb_1f pkp_0 pkp_1 pkp_2 pkp_3 pkp_4 pkp_0f pkp_1f pkp_2f pkp_3f pkp_4f pks_0 pks_1 pks_0f pks_1f
      by_cases hx : mayC X 8 = true
      · have h7 := H7.out; simp only [if_pos hx] at h7; have H7 := Lib.hid h7; clear h7
        refine (H7.out _ bc A7 n7 c7 v7).mono ?_
        rintro e w10 ⟨A8, n8, c8, rfl, hn8, y8, hC⟩
        dsimp only at y8 ⊢
        replace kb := kb.on hC; replace kc := kc.on hC; replace kr := kr.on hC; replace ks := ks.on hC; replace kp := kp.on hC; replace v2 := v2.on hC; replace v7 := v7.on hC; replace bc := bc.trans (hC.mono bc.size); clear hC
        have HN8 := Lib.hid hn8; clear hn8
        have z_kq_kb := kb.lt
        have z_kq_kc := kc.lt
        have z_kq_kr := kr.lt
        have z_kq_ks := ks.lt
        have z_kq_kp := kp.lt
        have zb_kq := bc.size
        have kq := Blk.new w10 26 #[.int .i64 fK, .int .i64 fR, .int .i64 fT, .int .i64 fP, .int .i64 fM, .int .i64 fN, .int .i64 fE, .int .i64 fF, .slice A8 n8 c8]
        have al := Below.al w10 (.cells #[.int .i64 fK, .int .i64 fR, .int .i64 fT, .int .i64 fP, .int .i64 fM, .int .i64 fN, .int .i64 fE, .int .i64 fF, .slice A8 n8 c8] 26)
        replace kb := kb.on al; replace kc := kc.on al; replace kr := kr.on al; replace ks := ks.on al; replace kp := kp.on al; replace v2 := v2.on al; replace v7 := v7.on al; replace y8 := y8.on al; replace bc := bc.trans (al.mono bc.size); clear al
        by_cases hm : mayF ⟨fK, fR, ⟨fT, fP, fM, fN, fE⟩, fF, fd⟩ = true
        · have hr := Q4.out (by simp) (by simp) hm; have HRR := Lib.hid hr
          have hck := H8.out A8 n8 c8; rw [checkF_yes hm] at hck; have HCK := Lib.hid hck; clear hck hr hm
          obtain ⟨pkq_0, pkq_1, pkq_2, pkq_3, pkq_4, pkq_5, pkq_6, pkq_7, pkq_8⟩ := kq.nine
          obtain ⟨pkq_0f, pkq_1f, pkq_2f, pkq_3f, pkq_4f, pkq_5f, pkq_6f, pkq_7f, pkq_8f⟩ := kq.nineF
          go_wp2_with fail
          clear pkq_0 pkq_1 pkq_2 pkq_3 pkq_4 pkq_5 pkq_6 pkq_7 pkq_8 pkq_0f pkq_1f pkq_2f pkq_3f pkq_4f pkq_5f pkq_6f pkq_7f pkq_8f
          generalize w10.alloc (.cells #[.int .i64 fK, .int .i64 fR, .int .i64 fT, .int .i64 fP, .int .i64 fM, .int .i64 fN, .int .i64 fE, .int .i64 fF, .slice A8 n8 c8] 26) = u5 at *
          generalize w10.heap.size = g5 at *
          refine (HCK.out _ HN8.out).mono ?_
          rintro e w11 ⟨rfl, hC⟩
          dsimp only
          replace kb := kb.on hC; replace kc := kc.on hC; replace kr := kr.on hC; replace ks := ks.on hC; replace kp := kp.on hC; replace kq := kq.on hC; replace v2 := v2.on hC; replace v7 := v7.on hC; replace y8 := y8.on hC; replace bc := bc.trans (hC.mono bc.size); clear hC
          obtain ⟨pkq_0, pkq_1, pkq_2, pkq_3, pkq_4, pkq_5, pkq_6, pkq_7, pkq_8⟩ := kq.nine
          obtain ⟨pkq_0f, pkq_1f, pkq_2f, pkq_3f, pkq_4f, pkq_5f, pkq_6f, pkq_7f, pkq_8f⟩ := kq.nineF
          have hst := run_storeVar_row (P := Tryd.prog) w11 (w.heap.size + 1 + 1) 26 26 _ #[.int .i64 fK, .int .i64 fR, .int .i64 fT, .int .i64 fP, .int .i64 fM, .int .i64 fN, .int .i64 fE, .int .i64 fF, .slice A8 n8 c8] kr info26 rfl (by simp [Value.oneCell'])
          simp [go_sem] at hst
          have hG := only_setRow w11 (w.heap.size + 1 + 1) #[.int .i64 fK, .int .i64 fR, .int .i64 fT, .int .i64 fP, .int .i64 fM, .int .i64 fN, .int .i64 fE, .int .i64 fF, .slice A8 n8 c8]
          replace kb := kb.grown hG (some_ne (by omega)); replace kc := kc.grown hG (some_ne (by omega)); replace ks := ks.grown hG (some_ne (by omega)); replace kp := kp.grown hG (some_ne (by omega)); replace kq := kq.grown hG (some_ne (by omega)); replace v2 := v2.off kr (no_u8_9 _ _ _ _ _ _ _ _ _ _ _) hG; replace v7 := v7.off kr (no_u8_9 _ _ _ _ _ _ _ _ _ _ _) hG; replace y8 := y8.off kr (no_u8_9 _ _ _ _ _ _ _ _ _ _ _) hG; replace bc := Below.off bc bc.size (by omega) hG; replace kr := Blk.row kr #[.int .i64 fK, .int .i64 fR, .int .i64 fT, .int .i64 fP, .int .i64 fM, .int .i64 fN, .int .i64 fE, .int .i64 fF, .slice A8 n8 c8]; clear hG
          go_wp2
          obtain ⟨xkr_0, xkr_1, xkr_2, xkr_3, xkr_4, xkr_5, xkr_6, xkr_7, xkr_8⟩ := kr.nine
          obtain ⟨xkr_0f, xkr_1f, xkr_2f, xkr_3f, xkr_4f, xkr_5f, xkr_6f, xkr_7f, xkr_8f⟩ := kr.nineF
          rw [HRR.out]
          exact bodyPost_ret (v := .tuple #[.agg #[.int .i64 fK, .int .i64 fR, .int .i64 fT, .int .i64 fP, .int .i64 fM, .int .i64 fN, .int .i64 fE, .int .i64 fF, .slice A8 n8 c8], .int .i64 0]) (by simp [results, Tryd.results18, go_sem, xkr_0, xkr_1, xkr_2, xkr_3, xkr_4, xkr_5, xkr_6, xkr_7, xkr_8]) rfl ⟨A8, n8, c8, rfl, HN8.out, y8, bc⟩
        · have hr := Q3.out (by simp) (by simp) hm; have HRR := Lib.hid hr
          have hck := H8.out A8 n8 c8; rw [checkF_no hm] at hck; have HCK := Lib.hid hck; clear hck hr hm
          obtain ⟨pkq_0, pkq_1, pkq_2, pkq_3, pkq_4, pkq_5, pkq_6, pkq_7, pkq_8⟩ := kq.nine
          obtain ⟨pkq_0f, pkq_1f, pkq_2f, pkq_3f, pkq_4f, pkq_5f, pkq_6f, pkq_7f, pkq_8f⟩ := kq.nineF
          go_wp2_with fail
          clear pkq_0 pkq_1 pkq_2 pkq_3 pkq_4 pkq_5 pkq_6 pkq_7 pkq_8 pkq_0f pkq_1f pkq_2f pkq_3f pkq_4f pkq_5f pkq_6f pkq_7f pkq_8f
          generalize w10.alloc (.cells #[.int .i64 fK, .int .i64 fR, .int .i64 fT, .int .i64 fP, .int .i64 fM, .int .i64 fN, .int .i64 fE, .int .i64 fF, .slice A8 n8 c8] 26) = u5 at *
          generalize w10.heap.size = g5 at *
          refine (HCK.out _ HN8.out).mono ?_
          rintro e w11 ⟨rfl, hC⟩
          dsimp only
          replace kb := kb.on hC; replace kc := kc.on hC; replace kr := kr.on hC; replace ks := ks.on hC; replace kp := kp.on hC; replace kq := kq.on hC; replace v2 := v2.on hC; replace v7 := v7.on hC; replace y8 := y8.on hC; replace bc := bc.trans (hC.mono bc.size); clear hC
          have hst := run_storeVar_row (P := Tryd.prog) w11 (w.heap.size + 1 + 1) 26 26 _ #[.int .i64 0, .int .i64 0, .int .i64 0, .int .i64 0, .int .i64 0, .int .i64 0, .int .i64 0, .int .i64 0, .slice none 0 0] kr info26 rfl (by simp [Value.oneCell'])
          simp [go_sem] at hst
          have hG := only_setRow w11 (w.heap.size + 1 + 1) #[.int .i64 0, .int .i64 0, .int .i64 0, .int .i64 0, .int .i64 0, .int .i64 0, .int .i64 0, .int .i64 0, .slice none 0 0]
          replace kb := kb.grown hG (some_ne (by omega)); replace kc := kc.grown hG (some_ne (by omega)); replace ks := ks.grown hG (some_ne (by omega)); replace kp := kp.grown hG (some_ne (by omega)); replace kq := kq.grown hG (some_ne (by omega)); replace v2 := v2.off kr (no_u8_9 _ _ _ _ _ _ _ _ _ _ _) hG; replace v7 := v7.off kr (no_u8_9 _ _ _ _ _ _ _ _ _ _ _) hG; replace y8 := y8.off kr (no_u8_9 _ _ _ _ _ _ _ _ _ _ _) hG; replace bc := Below.off bc bc.size (by omega) hG; replace kr := Blk.row kr #[.int .i64 0, .int .i64 0, .int .i64 0, .int .i64 0, .int .i64 0, .int .i64 0, .int .i64 0, .int .i64 0, .slice none 0 0]; clear hG
          go_wp2
          obtain ⟨xkr_0, xkr_1, xkr_2, xkr_3, xkr_4, xkr_5, xkr_6, xkr_7, xkr_8⟩ := kr.nine
          obtain ⟨xkr_0f, xkr_1f, xkr_2f, xkr_3f, xkr_4f, xkr_5f, xkr_6f, xkr_7f, xkr_8f⟩ := kr.nineF
          rw [HRR.out]
          exact bodyPost_ret (v := .tuple #[.agg #[.int .i64 0, .int .i64 0, .int .i64 0, .int .i64 0, .int .i64 0, .int .i64 0, .int .i64 0, .int .i64 0, .slice none 0 0], .int .i64 51]) (by simp [results, Tryd.results18, go_sem, xkr_0, xkr_1, xkr_2, xkr_3, xkr_4, xkr_5, xkr_6, xkr_7, xkr_8]) rfl ⟨none, 0, 0, rfl, rfl, Byt.none _, bc⟩
      · have h7 := H7.out; simp only [if_neg hx] at h7; have H7 := Lib.hid h7; clear h7
        have hr := Q3.out (by simp) (by simp) (fun hm => HNO.out hx hm); have HRR := Lib.hid hr; clear hr
        refine (H7.out _ bc A7 n7 c7 v7).mono ?_
        rintro e w10 ⟨A8, n8, c8, rfl, hn8, y8, hC⟩
        dsimp only
        replace kb := kb.on hC; replace kc := kc.on hC; replace kr := kr.on hC; replace ks := ks.on hC; replace kp := kp.on hC; replace v2 := v2.on hC; replace v7 := v7.on hC; replace bc := bc.trans (hC.mono bc.size); clear hC
        unfold zeroF zeroC; clear y8 hn8
        have z_kq_kb := kb.lt
        have z_kq_kc := kc.lt
        have z_kq_kr := kr.lt
        have z_kq_ks := ks.lt
        have z_kq_kp := kp.lt
        have zb_kq := bc.size
        have kq := Blk.new w10 26 #[.int .i64 0, .int .i64 0, .int .i64 0, .int .i64 0, .int .i64 0, .int .i64 0, .int .i64 0, .int .i64 0, .slice A8 n8 c8]
        have al := Below.al w10 (.cells #[.int .i64 0, .int .i64 0, .int .i64 0, .int .i64 0, .int .i64 0, .int .i64 0, .int .i64 0, .int .i64 0, .slice A8 n8 c8] 26)
        replace kb := kb.on al; replace kc := kc.on al; replace kr := kr.on al; replace ks := ks.on al; replace kp := kp.on al; replace v2 := v2.on al; replace v7 := v7.on al; replace bc := bc.trans (al.mono bc.size); clear al
        have hst := run_storeVar_row (P := Tryd.prog) (w10.alloc (.cells #[.int .i64 0, .int .i64 0, .int .i64 0, .int .i64 0, .int .i64 0, .int .i64 0, .int .i64 0, .int .i64 0, .slice A8 n8 c8] 26)) (w.heap.size + 1 + 1) 26 26 _ #[.int .i64 0, .int .i64 0, .int .i64 0, .int .i64 0, .int .i64 0, .int .i64 0, .int .i64 0, .int .i64 0, .slice none 0 0] kr info26 rfl (by simp [Value.oneCell'])
        simp [go_sem, z_kq_kr] at hst
        have hG := only_setRow (w10.alloc (.cells #[.int .i64 0, .int .i64 0, .int .i64 0, .int .i64 0, .int .i64 0, .int .i64 0, .int .i64 0, .int .i64 0, .slice A8 n8 c8] 26)) (w.heap.size + 1 + 1) #[.int .i64 0, .int .i64 0, .int .i64 0, .int .i64 0, .int .i64 0, .int .i64 0, .int .i64 0, .int .i64 0, .slice none 0 0]
        replace kb := kb.grown hG (some_ne (by omega)); replace kc := kc.grown hG (some_ne (by omega)); replace ks := ks.grown hG (some_ne (by omega)); replace kp := kp.grown hG (some_ne (by omega)); replace kq := kq.grown hG (some_ne (by omega)); replace v2 := v2.off kr (no_u8_9 _ _ _ _ _ _ _ _ _ _ _) hG; replace v7 := v7.off kr (no_u8_9 _ _ _ _ _ _ _ _ _ _ _) hG; replace bc := Below.off bc bc.size (by omega) hG; replace kr := Blk.row kr #[.int .i64 0, .int .i64 0, .int .i64 0, .int .i64 0, .int .i64 0, .int .i64 0, .int .i64 0, .int .i64 0, .slice none 0 0]; clear hG
        go_wp2
        obtain ⟨xkr_0, xkr_1, xkr_2, xkr_3, xkr_4, xkr_5, xkr_6, xkr_7, xkr_8⟩ := kr.nine
        obtain ⟨xkr_0f, xkr_1f, xkr_2f, xkr_3f, xkr_4f, xkr_5f, xkr_6f, xkr_7f, xkr_8f⟩ := kr.nineF
        rw [HRR.out]
        exact bodyPost_ret (v := .tuple #[.agg #[.int .i64 0, .int .i64 0, .int .i64 0, .int .i64 0, .int .i64 0, .int .i64 0, .int .i64 0, .int .i64 0, .slice none 0 0], .int .i64 51]) (by simp [results, Tryd.results18, go_sem, xkr_0, xkr_1, xkr_2, xkr_3, xkr_4, xkr_5, xkr_6, xkr_7, xkr_8]) rfl ⟨none, 0, 0, rfl, rfl, Byt.none _, bc⟩
end Go.Proofs.YtcfbeelljhjnoaaDoor
