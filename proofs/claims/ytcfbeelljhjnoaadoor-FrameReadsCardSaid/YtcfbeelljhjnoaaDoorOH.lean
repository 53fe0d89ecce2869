/-
  The document's Parse of the Kinds FrCold and FrN. Conditions: that the bits can be read and are as long as a frame of their Kind, and that the state may be. (Printed by tools/gen05oh.py.)
-/
import Derived.Test.YtcfbeelljhjnoaaDoorOE
namespace Go.Proofs.YtcfbeelljhjnoaaDoor
open Go.RowKit

theorem rcold_yes {w : World} {L : List Bool} {A : Option Addr} {n : Nat} (h : Bv w L A n) (c : Nat) (hl : L.length = 40) (C : CS) (hr : rem 0 L = 0) :
    Calls Tryd.prog 53 #[.agg #[.int .i64 L.length, .slice A n c]] w (ResF w (0, toldF 1 L C)) := by
  rw [told_1]
  refine (rcold_at h c hl).mono ?_
  rintro e w' ⟨er, t, v, rfl, hy, -, hC⟩
  obtain ⟨rfl, rfl, rfl⟩ := hy hr
  exact ⟨none, 0, 0, rfl, rfl, Byt.none _, hC⟩
theorem rcold_no {w : World} {L : List Bool} {A : Option Addr} {n : Nat} (h : Bv w L A n) (c : Nat) (hl : L.length = 40) (hr : rem 0 L ≠ 0) :
    Calls Tryd.prog 53 #[.agg #[.int .i64 L.length, .slice A n c]] w fun e w' => ∃ t v : Int, e = .returned (.tuple #[.agg #[.int .i64 1, .int .i64 0, .int .i64 t, .int .i64 0, .int .i64 0, .int .i64 0, .int .i64 0, .int .i64 v, .slice none 0 0], .int .i64 21]) ∧ Below w.heap.size w w' := by
  refine (rcold_at h c hl).mono ?_
  rintro e w' ⟨er, t, v, rfl, -, hn, hC⟩
  obtain rfl := hn hr
  exact ⟨t, v, rfl, hC⟩
set_option maxRecDepth 8000 in
set_option maxHeartbeats 2000000 in
theorem rdata_none (N a : Nat) (A : Option Addr) (n c : Nat) (w : World) (h1 : N < a + 8) (h2 : a ≤ 200) :
    Calls Tryd.prog 55 #[.agg #[.int .i64 N, .slice A n c], .int .i64 a] w fun e w' => e = .returned (.slice none 0 0) ∧ Below w.heap.size w w' := by
  obtain ⟨kb, bc⟩ := bx1 w #[.int .i64 N, .slice A n c] 28
  have hw8 : IntKind.i64.wrap ((a : Int) + 8) = (a : Int) + 8 := IntWalk.i64_in _ (by omega)
  have d1 : decide ((a : Int) + 8 ≤ (N : Int)) = false := by simp; omega
  obtain ⟨p0, p1, f0, f1⟩ := kb.two
  go_enter Tryd.func55, Tryd.ntmps55
  go_wp2_with fail
  go_loopw [1, 5] (fun i lv wr => i = .int .i64 (a : Int) ∧ lv = .slice none 0 0 ∧ wr = w.alloc (.cells #[.int .i64 N, .slice A n c] 28)) (fun _ _ _ => 0)
  case atStart => exact ⟨rfl, rfl, rfl⟩
  case round =>
    obtain ⟨rfl, rfl, rfl⟩ := hrel
    go_wp2_with fail
    go_ret
    exact ⟨rfl, bc⟩
theorem rdata_all {w : World} {X : List Bool} {A : Option Addr} {n : Nat} (h : Bv w X A n) (c : Nat) (a : Nat) (ha : a ≤ 200) :
    Calls Tryd.prog 55 #[.agg #[.int .i64 X.length, .slice A n c], .int .i64 a] w fun e w' => ∃ (B : Option Addr) (m d : Nat), e = .returned (.slice B m d) ∧ m = (bytesL (X.drop a)).length ∧ Byt w'.heap.size w' B (bytesL (X.drop a)) ∧ Below w.heap.size w w' := by
  by_cases hx : a ≤ X.length
  · exact rdata_at h c a hx
  · refine (rdata_none X.length a A n c w (by omega) ha).mono ?_
    rintro e w' ⟨rfl, hC⟩
    rw [List.drop_eq_nil_of_le (by omega)]
    exact ⟨none, 0, 0, rfl, rfl, Byt.none _, hC⟩
theorem front_data (L : List Bool) : (frontOf L).drop 5 = (L.drop 5).take (L.length - 29) := by
  unfold frontOf
  rw [List.drop_take]
  congr 1

set_option maxRecDepth 8000 in
set_option maxHeartbeats 8000000 in
theorem rparse_1 {w : World} {L : List Bool} {A : Option Addr} {n : Nat} (h : Bv w L A n) (c : Nat) (C : CS) (hk : kindL L = 1) (hlong : longF 1 L.length = true) (hl : L.length = 40) (hC : mayC C 8 = true) :
    Calls Tryd.prog 19 #[.agg #[.int .i64 L.length, .slice A n c], .agg C.cells] w (ResF w (readL L C)) := by
  obtain ⟨R, hR⟩ : ∃ R, R = readL L C := ⟨_, rfl⟩
  rw [← hR]
  have q1 := fun (hz : zeroL 1 L = false) => read_no_zero (c := C) hk hz
  have q2 := fun (hz : zeroL 1 L = true) (hs : sumsL 1 L C = false) => read_no_sum hk hlong hz hs
  have q3 := fun (hz : zeroL 1 L = true) (hs : sumsL 1 L C = true) (hm : ¬ mayF (toldF 1 L C) = true) => read_no_may hk hlong hz hs hm
  have q4 := fun (hz : zeroL 1 L = true) (hs : sumsL 1 L C = true) (hm : mayF (toldF 1 L C) = true) => read_yes hk hlong hz hs hm
  rw [← hR] at q1 q2 q3 q4
  have h1 := fun (W : World) (hb : Below w.heap.size w W) => rcheck_list (h.on hb) c
  have h2 := fun (W : World) => rcheckC_any C 8 W
  rw [checkC_yes hC] at h2
  have h3 := fun (W : World) (hb : Below w.heap.size w W) => rnumber_list (h.on hb) c (N := L.length) (ai := 0) (Wi := 2) (a := 0) (W := 2) rfl rfl rfl (by decide) (by omega)
  have hkk : numOf ((L.drop 0).take 2) = 0 := by unfold kindL at hk; rw [List.drop_zero]; omega
  rw [hkk] at h3
  have hw1 : IntKind.i64.wrap (0 + 1) = 1 := by decide
  have h4 := fun (W : World) => rlong_any 1 L.length W (by decide)
  rw [hlong] at h4
  have h5 := fun (W : World) (hb : Below w.heap.size w W) => rzero_1 (h.on hb) c (by omega)
  have h6 := fun (hr : rem 0 L = 0) (W : World) (hb : Below w.heap.size w W) => rcold_yes (h.on hb) c hl C hr
  have h7 := fun (hr : rem 0 L ≠ 0) (W : World) (hb : Below w.heap.size w W) => rcold_no (h.on hb) c hl hr
  have hsm : sumsL 1 L C = decide (rem 0 L = 0) := by simp [sumsL]
  rw [hsm] at q2 q3 q4
  generalize zeroL 1 L = zz at *
  generalize toldF 1 L C = f at *
  have h8 := fun (A8 : Option Addr) (n8 c8 : Nat) (W : World) (hn : n8 = f.ds.length) => rcheckF_any f A8 n8 c8 W hn
  obtain ⟨C0, C1, C2, C3, C4⟩ := C
  obtain ⟨fK, fR, ⟨fT, fP, fM, fN, fE⟩, fF, fd⟩ := f
  unfold ResF at h6
  unfold CS.cells FR.cells at *
  have H1 := Lib.hid h1; have H2 := Lib.hid h2; have H3 := Lib.hid h3; have H4 := Lib.hid h4; have H5 := Lib.hid h5; have H8 := Lib.hid h8; have Q1 := Lib.hid q1; have Q2 := Lib.hid q2; have Q3 := Lib.hid q3; have Q4 := Lib.hid q4
  clear h1 h2 h3 h4 h5 h8 q1 q2 q3 q4 hR hk hlong hl hC hkk h hsm
  cases zz
  · have hr := Q1.out rfl; have HRR := Lib.hid hr; clear hr h6 h7
    obtain ⟨kb, kc, kr, bc⟩ := bx3 w #[.int .i64 L.length, .slice A n c] #[.int .i64 C0, .int .i64 C1, .int .i64 C2, .int .i64 C3, .int .i64 C4] #[.int .i64 0, .int .i64 0, .int .i64 0, .int .i64 0, .int .i64 0, .int .i64 0, .int .i64 0, .int .i64 0, .slice none 0 0] 28 23 26
    go_enter Tryd.func19, Tryd.ntmps19
    go_wp2_with fail
    generalize ((w.alloc (.cells #[.int .i64 L.length, .slice A n c] 28)).alloc (.cells #[.int .i64 C0, .int .i64 C1, .int .i64 C2, .int .i64 C3, .int .i64 C4] 23)).alloc (.cells #[.int .i64 0, .int .i64 0, .int .i64 0, .int .i64 0, .int .i64 0, .int .i64 0, .int .i64 0, .int .i64 0, .slice none 0 0] 26) = u1 at *
    refine (H1.out _ bc).mono ?_
    rintro e w1 ⟨rfl, hC⟩
    dsimp only
    replace kb := kb.on hC; replace kc := kc.on hC; replace kr := kr.on hC; replace bc := bc.trans (hC.mono bc.size); clear hC
    obtain ⟨pkb_0, pkb_1, pkb_0f, pkb_1f⟩ := kb.two
    obtain ⟨⟨pkc_0, pkc_1, pkc_2, pkc_3, pkc_4⟩, pkc_0f, pkc_1f, pkc_2f, pkc_3f, pkc_4f⟩ := kc.five
    go_wp2_with fail
    clear pkb_0 pkb_1 pkb_0f pkb_1f pkc_0 pkc_1 pkc_2 pkc_3 pkc_4 pkc_0f pkc_1f pkc_2f pkc_3f pkc_4f
    refine (H2.out _).mono ?_
    rintro e w2 ⟨rfl, hC⟩
    dsimp only
    replace kb := kb.on hC; replace kc := kc.on hC; replace kr := kr.on hC; replace bc := bc.trans (hC.mono bc.size); clear hC
    obtain ⟨pkb_0, pkb_1, pkb_0f, pkb_1f⟩ := kb.two
    obtain ⟨⟨pkc_0, pkc_1, pkc_2, pkc_3, pkc_4⟩, pkc_0f, pkc_1f, pkc_2f, pkc_3f, pkc_4f⟩ := kc.five
    go_wp2_with fail
    clear pkb_0 pkb_1 pkb_0f pkb_1f pkc_0 pkc_1 pkc_2 pkc_3 pkc_4 pkc_0f pkc_1f pkc_2f pkc_3f pkc_4f
    refine (H3.out _ bc).mono ?_
    rintro e w3 ⟨rfl, hC⟩
    dsimp only
    replace kb := kb.on hC; replace kc := kc.on hC; replace kr := kr.on hC; replace bc := bc.trans (hC.mono bc.size); clear hC
    obtain ⟨pkb_0, pkb_1, pkb_0f, pkb_1f⟩ := kb.two
    obtain ⟨⟨pkc_0, pkc_1, pkc_2, pkc_3, pkc_4⟩, pkc_0f, pkc_1f, pkc_2f, pkc_3f, pkc_4f⟩ := kc.five
    go_wp2_with fail
    clear pkb_0 pkb_1 pkb_0f pkb_1f pkc_0 pkc_1 pkc_2 pkc_3 pkc_4 pkc_0f pkc_1f pkc_2f pkc_3f pkc_4f
    refine (H4.out _).mono ?_
    rintro e w4 ⟨rfl, hC⟩
    dsimp only
    replace kb := kb.on hC; replace kc := kc.on hC; replace kr := kr.on hC; replace bc := bc.trans (hC.mono bc.size); clear hC
    obtain ⟨pkb_0, pkb_1, pkb_0f, pkb_1f⟩ := kb.two
    obtain ⟨⟨pkc_0, pkc_1, pkc_2, pkc_3, pkc_4⟩, pkc_0f, pkc_1f, pkc_2f, pkc_3f, pkc_4f⟩ := kc.five
    go_wp2_with fail
    clear pkb_0 pkb_1 pkb_0f pkb_1f pkc_0 pkc_1 pkc_2 pkc_3 pkc_4 pkc_0f pkc_1f pkc_2f pkc_3f pkc_4f
    refine (H5.out _ bc).mono ?_
    rintro e w5 ⟨rfl, hC⟩
    dsimp only
    replace kb := kb.on hC; replace kc := kc.on hC; replace kr := kr.on hC; replace bc := bc.trans (hC.mono bc.size); clear hC
    have hst := run_storeVar_row (P := Tryd.prog) w5 (w.heap.size + 1 + 1) 26 26 _ #[.int .i64 0, .int .i64 0, .int .i64 0, .int .i64 0, .int .i64 0, .int .i64 0, .int .i64 0, .int .i64 0, .slice none 0 0] kr info26 rfl (by simp [Value.oneCell'])
    simp [go_sem] at hst
    have hG := only_setRow w5 (w.heap.size + 1 + 1) #[.int .i64 0, .int .i64 0, .int .i64 0, .int .i64 0, .int .i64 0, .int .i64 0, .int .i64 0, .int .i64 0, .slice none 0 0]
    replace kb := kb.grown hG (some_ne (by omega)); replace kc := kc.grown hG (some_ne (by omega)); replace bc := Below.off bc bc.size (by omega) hG; replace kr := Blk.row kr #[.int .i64 0, .int .i64 0, .int .i64 0, .int .i64 0, .int .i64 0, .int .i64 0, .int .i64 0, .int .i64 0, .slice none 0 0]; clear hG
    go_wp2
    obtain ⟨xkr_0, xkr_1, xkr_2, xkr_3, xkr_4, xkr_5, xkr_6, xkr_7, xkr_8⟩ := kr.nine
    obtain ⟨xkr_0f, xkr_1f, xkr_2f, xkr_3f, xkr_4f, xkr_5f, xkr_6f, xkr_7f, xkr_8f⟩ := kr.nineF
    rw [HRR.out]
    exact bodyPost_ret (v := .tuple #[.agg #[.int .i64 0, .int .i64 0, .int .i64 0, .int .i64 0, .int .i64 0, .int .i64 0, .int .i64 0, .int .i64 0, .slice none 0 0], .int .i64 51]) (by simp [results, Tryd.results19, go_sem, xkr_0, xkr_1, xkr_2, xkr_3, xkr_4, xkr_5, xkr_6, xkr_7, xkr_8]) rfl ⟨none, 0, 0, rfl, rfl, Byt.none _, bc⟩
  by_cases hz : rem 0 L = 0
  rotate_left
  · have hr := Q2.out (by simp) (by simpa using hz); have HRR := Lib.hid hr; have H6 := Lib.hid (h7 hz); clear hr h6 h7 hz
    obtain ⟨kb, kc, kr, bc⟩ := bx3 w #[.int .i64 L.length, .slice A n c] #[.int .i64 C0, .int .i64 C1, .int .i64 C2, .int .i64 C3, .int .i64 C4] #[.int .i64 0, .int .i64 0, .int .i64 0, .int .i64 0, .int .i64 0, .int .i64 0, .int .i64 0, .int .i64 0, .slice none 0 0] 28 23 26
    go_enter Tryd.func19, Tryd.ntmps19
    go_wp2_with fail
    generalize ((w.alloc (.cells #[.int .i64 L.length, .slice A n c] 28)).alloc (.cells #[.int .i64 C0, .int .i64 C1, .int .i64 C2, .int .i64 C3, .int .i64 C4] 23)).alloc (.cells #[.int .i64 0, .int .i64 0, .int .i64 0, .int .i64 0, .int .i64 0, .int .i64 0, .int .i64 0, .int .i64 0, .slice none 0 0] 26) = u1 at *
    refine (H1.out _ bc).mono ?_
    rintro e w1 ⟨rfl, hC⟩
    dsimp only
    replace kb := kb.on hC; replace kc := kc.on hC; replace kr := kr.on hC; replace bc := bc.trans (hC.mono bc.size); clear hC
    obtain ⟨pkb_0, pkb_1, pkb_0f, pkb_1f⟩ := kb.two
    obtain ⟨⟨pkc_0, pkc_1, pkc_2, pkc_3, pkc_4⟩, pkc_0f, pkc_1f, pkc_2f, pkc_3f, pkc_4f⟩ := kc.five
    go_wp2_with fail
    clear pkb_0 pkb_1 pkb_0f pkb_1f pkc_0 pkc_1 pkc_2 pkc_3 pkc_4 pkc_0f pkc_1f pkc_2f pkc_3f pkc_4f
    refine (H2.out _).mono ?_
    rintro e w2 ⟨rfl, hC⟩
    dsimp only
    replace kb := kb.on hC; replace kc := kc.on hC; replace kr := kr.on hC; replace bc := bc.trans (hC.mono bc.size); clear hC
    obtain ⟨pkb_0, pkb_1, pkb_0f, pkb_1f⟩ := kb.two
    obtain ⟨⟨pkc_0, pkc_1, pkc_2, pkc_3, pkc_4⟩, pkc_0f, pkc_1f, pkc_2f, pkc_3f, pkc_4f⟩ := kc.five
    go_wp2_with fail
    clear pkb_0 pkb_1 pkb_0f pkb_1f pkc_0 pkc_1 pkc_2 pkc_3 pkc_4 pkc_0f pkc_1f pkc_2f pkc_3f pkc_4f
    refine (H3.out _ bc).mono ?_
    rintro e w3 ⟨rfl, hC⟩
    dsimp only
    replace kb := kb.on hC; replace kc := kc.on hC; replace kr := kr.on hC; replace bc := bc.trans (hC.mono bc.size); clear hC
    obtain ⟨pkb_0, pkb_1, pkb_0f, pkb_1f⟩ := kb.two
    obtain ⟨⟨pkc_0, pkc_1, pkc_2, pkc_3, pkc_4⟩, pkc_0f, pkc_1f, pkc_2f, pkc_3f, pkc_4f⟩ := kc.five
    go_wp2_with fail
    clear pkb_0 pkb_1 pkb_0f pkb_1f pkc_0 pkc_1 pkc_2 pkc_3 pkc_4 pkc_0f pkc_1f pkc_2f pkc_3f pkc_4f
    refine (H4.out _).mono ?_
    rintro e w4 ⟨rfl, hC⟩
    dsimp only
    replace kb := kb.on hC; replace kc := kc.on hC; replace kr := kr.on hC; replace bc := bc.trans (hC.mono bc.size); clear hC
    obtain ⟨pkb_0, pkb_1, pkb_0f, pkb_1f⟩ := kb.two
    obtain ⟨⟨pkc_0, pkc_1, pkc_2, pkc_3, pkc_4⟩, pkc_0f, pkc_1f, pkc_2f, pkc_3f, pkc_4f⟩ := kc.five
    go_wp2_with fail
    clear pkb_0 pkb_1 pkb_0f pkb_1f pkc_0 pkc_1 pkc_2 pkc_3 pkc_4 pkc_0f pkc_1f pkc_2f pkc_3f pkc_4f
    refine (H5.out _ bc).mono ?_
    rintro e w5 ⟨rfl, hC⟩
    dsimp only
    replace kb := kb.on hC; replace kc := kc.on hC; replace kr := kr.on hC; replace bc := bc.trans (hC.mono bc.size); clear hC
    have z_kf_kb := kb.lt
    have z_kf_kc := kc.lt
    have z_kf_kr := kr.lt
    have zb_kf := bc.size
    have kf := Blk.new w5 26 #[.int .i64 0, .int .i64 0, .int .i64 0, .int .i64 0, .int .i64 0, .int .i64 0, .int .i64 0, .int .i64 0, .slice none 0 0]
    have al := Below.al w5 (.cells #[.int .i64 0, .int .i64 0, .int .i64 0, .int .i64 0, .int .i64 0, .int .i64 0, .int .i64 0, .int .i64 0, .slice none 0 0] 26)
    replace kb := kb.on al; replace kc := kc.on al; replace kr := kr.on al; replace bc := bc.trans (al.mono bc.size); clear al
    obtain ⟨pkb_0, pkb_1, pkb_0f, pkb_1f⟩ := kb.two
    obtain ⟨⟨pkc_0, pkc_1, pkc_2, pkc_3, pkc_4⟩, pkc_0f, pkc_1f, pkc_2f, pkc_3f, pkc_4f⟩ := kc.five
    obtain ⟨pkf_0, pkf_1, pkf_2, pkf_3, pkf_4, pkf_5, pkf_6, pkf_7, pkf_8⟩ := kf.nine
    obtain ⟨pkf_0f, pkf_1f, pkf_2f, pkf_3f, pkf_4f, pkf_5f, pkf_6f, pkf_7f, pkf_8f⟩ := kf.nineF
    go_wp2_with fail
    clear pkb_0 pkb_1 pkb_0f pkb_1f pkc_0 pkc_1 pkc_2 pkc_3 pkc_4 pkc_0f pkc_1f pkc_2f pkc_3f pkc_4f pkf_0 pkf_1 pkf_2 pkf_3 pkf_4 pkf_5 pkf_6 pkf_7 pkf_8 pkf_0f pkf_1f pkf_2f pkf_3f pkf_4f pkf_5f pkf_6f pkf_7f pkf_8f
    generalize w5.alloc (.cells #[.int .i64 0, .int .i64 0, .int .i64 0, .int .i64 0, .int .i64 0, .int .i64 0, .int .i64 0, .int .i64 0, .slice none 0 0] 26) = u2 at *
    generalize w5.heap.size = g2 at *
    refine (H6.out _ bc).mono ?_
    rintro e w6 ⟨t1, v1, rfl, hC⟩
    dsimp only
    replace kb := kb.on hC; replace kc := kc.on hC; replace kr := kr.on hC; replace kf := kf.on hC; replace bc := bc.trans (hC.mono bc.size); clear hC
    have hst := run_storeVar_row (P := Tryd.prog) w6 (g2) 26 26 _ #[.int .i64 1, .int .i64 0, .int .i64 t1, .int .i64 0, .int .i64 0, .int .i64 0, .int .i64 0, .int .i64 v1, .slice none 0 0] kf info26 rfl (by simp [Value.oneCell'])
    simp [go_sem] at hst
    have hG := only_setRow w6 (g2) #[.int .i64 1, .int .i64 0, .int .i64 t1, .int .i64 0, .int .i64 0, .int .i64 0, .int .i64 0, .int .i64 v1, .slice none 0 0]
    replace kb := kb.grown hG (some_ne (by omega)); replace kc := kc.grown hG (some_ne (by omega)); replace kr := kr.grown hG (some_ne (by omega)); replace bc := Below.off bc bc.size (by omega) hG; replace kf := Blk.row kf #[.int .i64 1, .int .i64 0, .int .i64 t1, .int .i64 0, .int .i64 0, .int .i64 0, .int .i64 0, .int .i64 v1, .slice none 0 0]; clear hG
    have hst := run_storeVar_row (P := Tryd.prog) (w6.setRow (g2) #[.int .i64 1, .int .i64 0, .int .i64 t1, .int .i64 0, .int .i64 0, .int .i64 0, .int .i64 0, .int .i64 v1, .slice none 0 0]) (w.heap.size + 1 + 1) 26 26 _ #[.int .i64 0, .int .i64 0, .int .i64 0, .int .i64 0, .int .i64 0, .int .i64 0, .int .i64 0, .int .i64 0, .slice none 0 0] kr info26 rfl (by simp [Value.oneCell'])
    simp [go_sem] at hst
    have hG := only_setRow (w6.setRow (g2) #[.int .i64 1, .int .i64 0, .int .i64 t1, .int .i64 0, .int .i64 0, .int .i64 0, .int .i64 0, .int .i64 v1, .slice none 0 0]) (w.heap.size + 1 + 1) #[.int .i64 0, .int .i64 0, .int .i64 0, .int .i64 0, .int .i64 0, .int .i64 0, .int .i64 0, .int .i64 0, .slice none 0 0]
    replace kb := kb.grown hG (some_ne (by omega)); replace kc := kc.grown hG (some_ne (by omega)); replace kf := kf.grown hG (some_ne (by omega)); replace bc := Below.off bc bc.size (by omega) hG; replace kr := Blk.row kr #[.int .i64 0, .int .i64 0, .int .i64 0, .int .i64 0, .int .i64 0, .int .i64 0, .int .i64 0, .int .i64 0, .slice none 0 0]; clear hG
    go_wp2
    obtain ⟨xkr_0, xkr_1, xkr_2, xkr_3, xkr_4, xkr_5, xkr_6, xkr_7, xkr_8⟩ := kr.nine
    obtain ⟨xkr_0f, xkr_1f, xkr_2f, xkr_3f, xkr_4f, xkr_5f, xkr_6f, xkr_7f, xkr_8f⟩ := kr.nineF
    rw [HRR.out]
    exact bodyPost_ret (v := .tuple #[.agg #[.int .i64 0, .int .i64 0, .int .i64 0, .int .i64 0, .int .i64 0, .int .i64 0, .int .i64 0, .int .i64 0, .slice none 0 0], .int .i64 21]) (by simp [results, Tryd.results19, go_sem, xkr_0, xkr_1, xkr_2, xkr_3, xkr_4, xkr_5, xkr_6, xkr_7, xkr_8]) rfl ⟨none, 0, 0, rfl, rfl, Byt.none _, bc⟩
  have H6 := Lib.hid (h6 hz); clear h6 h7
  replace Q3 := Lib.hid (fun (_ : true = true) (_ : true = true) hm => Q3.out rfl (by simpa using hz) hm); replace Q4 := Lib.hid (fun (_ : true = true) (_ : true = true) hm => Q4.out rfl (by simpa using hz) hm)
  clear hz
  obtain ⟨kb, kc, kr, bc⟩ := bx3 w #[.int .i64 L.length, .slice A n c] #[.int .i64 C0, .int .i64 C1, .int .i64 C2, .int .i64 C3, .int .i64 C4] #[.int .i64 0, .int .i64 0, .int .i64 0, .int .i64 0, .int .i64 0, .int .i64 0, .int .i64 0, .int .i64 0, .slice none 0 0] 28 23 26
  go_enter Tryd.func19, Tryd.ntmps19
  go_wp2_with fail
  generalize ((w.alloc (.cells #[.int .i64 L.length, .slice A n c] 28)).alloc (.cells #[.int .i64 C0, .int .i64 C1, .int .i64 C2, .int .i64 C3, .int .i64 C4] 23)).alloc (.cells #[.int .i64 0, .int .i64 0, .int .i64 0, .int .i64 0, .int .i64 0, .int .i64 0, .int .i64 0, .int .i64 0, .slice none 0 0] 26) = u1 at *
  refine (H1.out _ bc).mono ?_
  rintro e w1 ⟨rfl, hC⟩
  dsimp only
  replace kb := kb.on hC; replace kc := kc.on hC; replace kr := kr.on hC; replace bc := bc.trans (hC.mono bc.size); clear hC
  obtain ⟨pkb_0, pkb_1, pkb_0f, pkb_1f⟩ := kb.two
  obtain ⟨⟨pkc_0, pkc_1, pkc_2, pkc_3, pkc_4⟩, pkc_0f, pkc_1f, pkc_2f, pkc_3f, pkc_4f⟩ := kc.five
  go_wp2_with fail
  clear pkb_0 pkb_1 pkb_0f pkb_1f pkc_0 pkc_1 pkc_2 pkc_3 pkc_4 pkc_0f pkc_1f pkc_2f pkc_3f pkc_4f
  refine (H2.out _).mono ?_
  rintro e w2 ⟨rfl, hC⟩
  dsimp only
  replace kb := kb.on hC; replace kc := kc.on hC; replace kr := kr.on hC; replace bc := bc.trans (hC.mono bc.size); clear hC
  obtain ⟨pkb_0, pkb_1, pkb_0f, pkb_1f⟩ := kb.two
  obtain ⟨⟨pkc_0, pkc_1, pkc_2, pkc_3, pkc_4⟩, pkc_0f, pkc_1f, pkc_2f, pkc_3f, pkc_4f⟩ := kc.five
  go_wp2_with fail
  clear pkb_0 pkb_1 pkb_0f pkb_1f pkc_0 pkc_1 pkc_2 pkc_3 pkc_4 pkc_0f pkc_1f pkc_2f pkc_3f pkc_4f
  refine (H3.out _ bc).mono ?_
  rintro e w3 ⟨rfl, hC⟩
  dsimp only
  replace kb := kb.on hC; replace kc := kc.on hC; replace kr := kr.on hC; replace bc := bc.trans (hC.mono bc.size); clear hC
  obtain ⟨pkb_0, pkb_1, pkb_0f, pkb_1f⟩ := kb.two
  obtain ⟨⟨pkc_0, pkc_1, pkc_2, pkc_3, pkc_4⟩, pkc_0f, pkc_1f, pkc_2f, pkc_3f, pkc_4f⟩ := kc.five
  go_wp2_with fail
  clear pkb_0 pkb_1 pkb_0f pkb_1f pkc_0 pkc_1 pkc_2 pkc_3 pkc_4 pkc_0f pkc_1f pkc_2f pkc_3f pkc_4f
  refine (H4.out _).mono ?_
  rintro e w4 ⟨rfl, hC⟩
  dsimp only
  replace kb := kb.on hC; replace kc := kc.on hC; replace kr := kr.on hC; replace bc := bc.trans (hC.mono bc.size); clear hC
  obtain ⟨pkb_0, pkb_1, pkb_0f, pkb_1f⟩ := kb.two
  obtain ⟨⟨pkc_0, pkc_1, pkc_2, pkc_3, pkc_4⟩, pkc_0f, pkc_1f, pkc_2f, pkc_3f, pkc_4f⟩ := kc.five
  go_wp2_with fail
  clear pkb_0 pkb_1 pkb_0f pkb_1f pkc_0 pkc_1 pkc_2 pkc_3 pkc_4 pkc_0f pkc_1f pkc_2f pkc_3f pkc_4f
  refine (H5.out _ bc).mono ?_
  rintro e w5 ⟨rfl, hC⟩
  dsimp only
  replace kb := kb.on hC; replace kc := kc.on hC; replace kr := kr.on hC; replace bc := bc.trans (hC.mono bc.size); clear hC
  have z_kf_kb := kb.lt
  have z_kf_kc := kc.lt
  have z_kf_kr := kr.lt
  have zb_kf := bc.size
  have kf := Blk.new w5 26 #[.int .i64 0, .int .i64 0, .int .i64 0, .int .i64 0, .int .i64 0, .int .i64 0, .int .i64 0, .int .i64 0, .slice none 0 0]
  have al := Below.al w5 (.cells #[.int .i64 0, .int .i64 0, .int .i64 0, .int .i64 0, .int .i64 0, .int .i64 0, .int .i64 0, .int .i64 0, .slice none 0 0] 26)
  replace kb := kb.on al; replace kc := kc.on al; replace kr := kr.on al; replace bc := bc.trans (al.mono bc.size); clear al
  obtain ⟨pkb_0, pkb_1, pkb_0f, pkb_1f⟩ := kb.two
  obtain ⟨⟨pkc_0, pkc_1, pkc_2, pkc_3, pkc_4⟩, pkc_0f, pkc_1f, pkc_2f, pkc_3f, pkc_4f⟩ := kc.five
  obtain ⟨pkf_0, pkf_1, pkf_2, pkf_3, pkf_4, pkf_5, pkf_6, pkf_7, pkf_8⟩ := kf.nine
  obtain ⟨pkf_0f, pkf_1f, pkf_2f, pkf_3f, pkf_4f, pkf_5f, pkf_6f, pkf_7f, pkf_8f⟩ := kf.nineF
  go_wp2_with fail
  clear pkb_0 pkb_1 pkb_0f pkb_1f pkc_0 pkc_1 pkc_2 pkc_3 pkc_4 pkc_0f pkc_1f pkc_2f pkc_3f pkc_4f pkf_0 pkf_1 pkf_2 pkf_3 pkf_4 pkf_5 pkf_6 pkf_7 pkf_8 pkf_0f pkf_1f pkf_2f pkf_3f pkf_4f pkf_5f pkf_6f pkf_7f pkf_8f
  generalize w5.alloc (.cells #[.int .i64 0, .int .i64 0, .int .i64 0, .int .i64 0, .int .i64 0, .int .i64 0, .int .i64 0, .int .i64 0, .slice none 0 0] 26) = u2 at *
  generalize w5.heap.size = g2 at *
  refine (H6.out _ bc).mono ?_
  rintro e w6 ⟨A8, n8, c8, rfl, hn8, y8, hC⟩
  dsimp only at y8 ⊢
  replace kb := kb.on hC; replace kc := kc.on hC; replace kr := kr.on hC; replace kf := kf.on hC; replace bc := bc.trans (hC.mono bc.size); clear hC
  have HN8 := Lib.hid hn8; clear hn8
  have hst := run_storeVar_row (P := Tryd.prog) w6 (g2) 26 26 _ #[.int .i64 fK, .int .i64 fR, .int .i64 fT, .int .i64 fP, .int .i64 fM, .int .i64 fN, .int .i64 fE, .int .i64 fF, .slice A8 n8 c8] kf info26 rfl (by simp [Value.oneCell'])
  simp [go_sem] at hst
  have hG := only_setRow w6 (g2) #[.int .i64 fK, .int .i64 fR, .int .i64 fT, .int .i64 fP, .int .i64 fM, .int .i64 fN, .int .i64 fE, .int .i64 fF, .slice A8 n8 c8]
  replace kb := kb.grown hG (some_ne (by omega)); replace kc := kc.grown hG (some_ne (by omega)); replace kr := kr.grown hG (some_ne (by omega)); replace y8 := y8.off kf (no_u8_9 _ _ _ _ _ _ _ _ _ _ _) hG; replace bc := Below.off bc bc.size (by omega) hG; replace kf := Blk.row kf #[.int .i64 fK, .int .i64 fR, .int .i64 fT, .int .i64 fP, .int .i64 fM, .int .i64 fN, .int .i64 fE, .int .i64 fF, .slice A8 n8 c8]; clear hG
  by_cases hm : mayF ⟨fK, fR, ⟨fT, fP, fM, fN, fE⟩, fF, fd⟩ = true
  · have hr := Q4.out (by simp) (by simp) hm; have HRR := Lib.hid hr
    have hck := H8.out A8 n8 c8; rw [checkF_yes hm] at hck; have HCK := Lib.hid hck; clear hck hr hm
    obtain ⟨pkf_0, pkf_1, pkf_2, pkf_3, pkf_4, pkf_5, pkf_6, pkf_7, pkf_8⟩ := kf.nine
    obtain ⟨pkf_0f, pkf_1f, pkf_2f, pkf_3f, pkf_4f, pkf_5f, pkf_6f, pkf_7f, pkf_8f⟩ := kf.nineF
    go_wp2_with fail
    clear pkf_0 pkf_1 pkf_2 pkf_3 pkf_4 pkf_5 pkf_6 pkf_7 pkf_8 pkf_0f pkf_1f pkf_2f pkf_3f pkf_4f pkf_5f pkf_6f pkf_7f pkf_8f
    generalize w6.setRow (g2) #[.int .i64 fK, .int .i64 fR, .int .i64 fT, .int .i64 fP, .int .i64 fM, .int .i64 fN, .int .i64 fE, .int .i64 fF, .slice A8 n8 c8] = u3 at *
    refine (HCK.out _ HN8.out).mono ?_
    rintro e w11 ⟨rfl, hC⟩
    dsimp only
    replace kb := kb.on hC; replace kc := kc.on hC; replace kr := kr.on hC; replace kf := kf.on hC; replace y8 := y8.on hC; replace bc := bc.trans (hC.mono bc.size); clear hC
    obtain ⟨pkf_0, pkf_1, pkf_2, pkf_3, pkf_4, pkf_5, pkf_6, pkf_7, pkf_8⟩ := kf.nine
    obtain ⟨pkf_0f, pkf_1f, pkf_2f, pkf_3f, pkf_4f, pkf_5f, pkf_6f, pkf_7f, pkf_8f⟩ := kf.nineF
    have hst := run_storeVar_row (P := Tryd.prog) w11 (w.heap.size + 1 + 1) 26 26 _ #[.int .i64 fK, .int .i64 fR, .int .i64 fT, .int .i64 fP, .int .i64 fM, .int .i64 fN, .int .i64 fE, .int .i64 fF, .slice A8 n8 c8] kr info26 rfl (by simp [Value.oneCell'])
    simp [go_sem] at hst
    have hG := only_setRow w11 (w.heap.size + 1 + 1) #[.int .i64 fK, .int .i64 fR, .int .i64 fT, .int .i64 fP, .int .i64 fM, .int .i64 fN, .int .i64 fE, .int .i64 fF, .slice A8 n8 c8]
    replace kb := kb.grown hG (some_ne (by omega)); replace kc := kc.grown hG (some_ne (by omega)); replace kf := kf.grown hG (some_ne (by omega)); replace y8 := y8.off kr (no_u8_9 _ _ _ _ _ _ _ _ _ _ _) hG; replace bc := Below.off bc bc.size (by omega) hG; replace kr := Blk.row kr #[.int .i64 fK, .int .i64 fR, .int .i64 fT, .int .i64 fP, .int .i64 fM, .int .i64 fN, .int .i64 fE, .int .i64 fF, .slice A8 n8 c8]; clear hG
    go_wp2
    obtain ⟨xkr_0, xkr_1, xkr_2, xkr_3, xkr_4, xkr_5, xkr_6, xkr_7, xkr_8⟩ := kr.nine
    obtain ⟨xkr_0f, xkr_1f, xkr_2f, xkr_3f, xkr_4f, xkr_5f, xkr_6f, xkr_7f, xkr_8f⟩ := kr.nineF
    rw [HRR.out]
    exact bodyPost_ret (v := .tuple #[.agg #[.int .i64 fK, .int .i64 fR, .int .i64 fT, .int .i64 fP, .int .i64 fM, .int .i64 fN, .int .i64 fE, .int .i64 fF, .slice A8 n8 c8], .int .i64 0]) (by simp [results, Tryd.results19, go_sem, xkr_0, xkr_1, xkr_2, xkr_3, xkr_4, xkr_5, xkr_6, xkr_7, xkr_8]) rfl ⟨A8, n8, c8, rfl, HN8.out, y8, bc⟩
  · have hr := Q3.out (by simp) (by simp) hm; have HRR := Lib.hid hr
    have hck := H8.out A8 n8 c8; rw [checkF_no hm] at hck; have HCK := Lib.hid hck; clear hck hr hm
    obtain ⟨pkf_0, pkf_1, pkf_2, pkf_3, pkf_4, pkf_5, pkf_6, pkf_7, pkf_8⟩ := kf.nine
    obtain ⟨pkf_0f, pkf_1f, pkf_2f, pkf_3f, pkf_4f, pkf_5f, pkf_6f, pkf_7f, pkf_8f⟩ := kf.nineF
    go_wp2_with fail
    clear pkf_0 pkf_1 pkf_2 pkf_3 pkf_4 pkf_5 pkf_6 pkf_7 pkf_8 pkf_0f pkf_1f pkf_2f pkf_3f pkf_4f pkf_5f pkf_6f pkf_7f pkf_8f
    generalize w6.setRow (g2) #[.int .i64 fK, .int .i64 fR, .int .i64 fT, .int .i64 fP, .int .i64 fM, .int .i64 fN, .int .i64 fE, .int .i64 fF, .slice A8 n8 c8] = u3 at *
    refine (HCK.out _ HN8.out).mono ?_
    rintro e w11 ⟨rfl, hC⟩
    dsimp only
    replace kb := kb.on hC; replace kc := kc.on hC; replace kr := kr.on hC; replace kf := kf.on hC; replace y8 := y8.on hC; replace bc := bc.trans (hC.mono bc.size); clear hC
    have hst := run_storeVar_row (P := Tryd.prog) w11 (w.heap.size + 1 + 1) 26 26 _ #[.int .i64 0, .int .i64 0, .int .i64 0, .int .i64 0, .int .i64 0, .int .i64 0, .int .i64 0, .int .i64 0, .slice none 0 0] kr info26 rfl (by simp [Value.oneCell'])
    simp [go_sem] at hst
    have hG := only_setRow w11 (w.heap.size + 1 + 1) #[.int .i64 0, .int .i64 0, .int .i64 0, .int .i64 0, .int .i64 0, .int .i64 0, .int .i64 0, .int .i64 0, .slice none 0 0]
    replace kb := kb.grown hG (some_ne (by omega)); replace kc := kc.grown hG (some_ne (by omega)); replace kf := kf.grown hG (some_ne (by omega)); replace y8 := y8.off kr (no_u8_9 _ _ _ _ _ _ _ _ _ _ _) hG; replace bc := Below.off bc bc.size (by omega) hG; replace kr := Blk.row kr #[.int .i64 0, .int .i64 0, .int .i64 0, .int .i64 0, .int .i64 0, .int .i64 0, .int .i64 0, .int .i64 0, .slice none 0 0]; clear hG
    go_wp2
    obtain ⟨xkr_0, xkr_1, xkr_2, xkr_3, xkr_4, xkr_5, xkr_6, xkr_7, xkr_8⟩ := kr.nine
    obtain ⟨xkr_0f, xkr_1f, xkr_2f, xkr_3f, xkr_4f, xkr_5f, xkr_6f, xkr_7f, xkr_8f⟩ := kr.nineF
    rw [HRR.out]
    exact bodyPost_ret (v := .tuple #[.agg #[.int .i64 0, .int .i64 0, .int .i64 0, .int .i64 0, .int .i64 0, .int .i64 0, .int .i64 0, .int .i64 0, .slice none 0 0], .int .i64 51]) (by simp [results, Tryd.results19, go_sem, xkr_0, xkr_1, xkr_2, xkr_3, xkr_4, xkr_5, xkr_6, xkr_7, xkr_8]) rfl ⟨none, 0, 0, rfl, rfl, Byt.none _, bc⟩
set_option maxRecDepth 8000 in
set_option maxHeartbeats 8000000 in
theorem rparse_2 {w : World} {L : List Bool} {A : Option Addr} {n : Nat} (h : Bv w L A n) (c : Nat) (C : CS) (hk : kindL L = 2) (hlong : longF 2 L.length = true) (hl : (29 ≤ L.length ∧ L.length ≤ 93 ∧ L.length % 8 = 5)) (hC : mayC C 8 = true) :
    Calls Tryd.prog 19 #[.agg #[.int .i64 L.length, .slice A n c], .agg C.cells] w (ResF w (readL L C)) := by
  obtain ⟨R, hR⟩ : ∃ R, R = readL L C := ⟨_, rfl⟩
  rw [← hR]
  have q1 := fun (hz : zeroL 2 L = false) => read_no_zero (c := C) hk hz
  have q2 := fun (hz : zeroL 2 L = true) (hs : sumsL 2 L C = false) => read_no_sum hk hlong hz hs
  have q3 := fun (hz : zeroL 2 L = true) (hs : sumsL 2 L C = true) (hm : ¬ mayF (toldF 2 L C) = true) => read_no_may hk hlong hz hs hm
  have q4 := fun (hz : zeroL 2 L = true) (hs : sumsL 2 L C = true) (hm : mayF (toldF 2 L C) = true) => read_yes hk hlong hz hs hm
  rw [← hR] at q1 q2 q3 q4
  have h1 := fun (W : World) (hb : Below w.heap.size w W) => rcheck_list (h.on hb) c
  have h2 := fun (W : World) => rcheckC_any C 8 W
  rw [checkC_yes hC] at h2
  have h3 := fun (W : World) (hb : Below w.heap.size w W) => rnumber_list (h.on hb) c (N := L.length) (ai := 0) (Wi := 2) (a := 0) (W := 2) rfl rfl rfl (by decide) (by omega)
  have hkk : numOf ((L.drop 0).take 2) = 1 := by unfold kindL at hk; rw [List.drop_zero]; omega
  rw [hkk] at h3
  have hw1 : IntKind.i64.wrap (1 + 1) = 2 := by decide
  have h4 := fun (W : World) => rlong_any 2 L.length W (by decide)
  rw [hlong] at h4
  have h5 := fun (W : World) (_ : Below w.heap.size w W) => rzero_2 L A n c W
  have hz2 : zeroL 2 L = true := by simp [zeroL]
  have hS := fun (W : World) => rbits_list C (w := W) hC
  have hSl := bitsOf_length C
  have hO := fun (W : World) (hb : Below w.heap.size w W) (B : Option Addr) (m d : Nat) (hu : Bv W (bitsOf C) B m) => ropen_list (h.on hb) hu c d (N := L.length) (M := (bitsOf C).length) rfl rfl (by omega)
  have h9 := fun (W : World) (hb : Below w.heap.size w W) => rnumber_list (h.on hb) c (N := L.length) (ai := 2) (Wi := 3) (a := 2) (W := 3) rfl rfl rfl (by decide) (by omega)
  have hsm : sumsL 2 L C = decide (rem 0 (bitsOf C ++ L) = 0) := by simp [sumsL]
  rw [hsm] at q2 q3 q4
  rw [told_2, ← front_data] at q3 q4
  generalize frontOf L = P at *
  generalize numOf ((L.drop 2).take 3) = r at *
  obtain ⟨rr, hrr⟩ : ∃ rr : Int, rr = (r : Int) := ⟨_, rfl⟩
  rw [← hrr] at h9 q3 q4
  clear hrr
  generalize bitsOf C = S at *
  generalize rem 0 (S ++ L) = z at *
  replace q2 := q2 hz2; replace q3 := q3 hz2; replace q4 := q4 hz2
  obtain ⟨C0, C1, C2, C3, C4⟩ := C
  unfold ResV at hS hO
  unfold CS.cells at *
  have H1 := Lib.hid h1; have H2 := Lib.hid h2; have H3 := Lib.hid h3; have H4 := Lib.hid h4; have H5 := Lib.hid h5; have HS := Lib.hid hS; have H9 := Lib.hid h9
  clear h1 h2 h3 h4 h5 hS h9 q1 hR hk hlong hl hC hkk h hsm hz2 hSl
  by_cases hr : z = 0
  · simp only [if_pos hr] at hO
    have hD := fun (W : World) (B : Option Addr) (m d : Nat) (hv : Bv W P B m) => rdata_all hv d 5 (by decide)
    obtain ⟨D, hDD⟩ : ∃ D, D = bytesL (P.drop 5) := ⟨_, rfl⟩
    rw [← hDD] at hD q3 q4
    clear hDD
    obtain ⟨Q, hQ⟩ : ∃ Q, Q = P := ⟨_, rfl⟩
    rw [← hQ] at hO hD
    clear hQ
    have h8 := fun (A8 : Option Addr) (n8 c8 : Nat) (W : World) (hn : n8 = D.length) => rcheckF_any ⟨2, rr, ⟨C0, C1, C2, C3, C4⟩, 0, D⟩ A8 n8 c8 W hn
    unfold FR.cells at h8
    have H8 := Lib.hid h8; clear h8
    have Q3 := Lib.hid (fun (_ : true = true) (_ : true = true) hm => q3 (by simpa using hr) hm); have Q4 := Lib.hid (fun (_ : true = true) (_ : true = true) hm => q4 (by simpa using hr) hm)
    have HO := Lib.hid hO; have HD := Lib.hid hD; clear hO hD q2 q3 q4 hr
    obtain ⟨kb, kc, kr, bc⟩ := bx3 w #[.int .i64 L.length, .slice A n c] #[.int .i64 C0, .int .i64 C1, .int .i64 C2, .int .i64 C3, .int .i64 C4] #[.int .i64 0, .int .i64 0, .int .i64 0, .int .i64 0, .int .i64 0, .int .i64 0, .int .i64 0, .int .i64 0, .slice none 0 0] 28 23 26
    go_enter Tryd.func19, Tryd.ntmps19
    go_wp2_with fail
    generalize ((w.alloc (.cells #[.int .i64 L.length, .slice A n c] 28)).alloc (.cells #[.int .i64 C0, .int .i64 C1, .int .i64 C2, .int .i64 C3, .int .i64 C4] 23)).alloc (.cells #[.int .i64 0, .int .i64 0, .int .i64 0, .int .i64 0, .int .i64 0, .int .i64 0, .int .i64 0, .int .i64 0, .slice none 0 0] 26) = u1 at *
    refine (H1.out _ bc).mono ?_
    rintro e w1 ⟨rfl, hC⟩
    dsimp only
    replace kb := kb.on hC; replace kc := kc.on hC; replace kr := kr.on hC; replace bc := bc.trans (hC.mono bc.size); clear hC
    obtain ⟨pkb_0, pkb_1, pkb_0f, pkb_1f⟩ := kb.two
    obtain ⟨⟨pkc_0, pkc_1, pkc_2, pkc_3, pkc_4⟩, pkc_0f, pkc_1f, pkc_2f, pkc_3f, pkc_4f⟩ := kc.five
    go_wp2_with fail
    clear pkb_0 pkb_1 pkb_0f pkb_1f pkc_0 pkc_1 pkc_2 pkc_3 pkc_4 pkc_0f pkc_1f pkc_2f pkc_3f pkc_4f
    refine (H2.out _).mono ?_
    rintro e w2 ⟨rfl, hC⟩
    dsimp only
    replace kb := kb.on hC; replace kc := kc.on hC; replace kr := kr.on hC; replace bc := bc.trans (hC.mono bc.size); clear hC
    obtain ⟨pkb_0, pkb_1, pkb_0f, pkb_1f⟩ := kb.two
    obtain ⟨⟨pkc_0, pkc_1, pkc_2, pkc_3, pkc_4⟩, pkc_0f, pkc_1f, pkc_2f, pkc_3f, pkc_4f⟩ := kc.five
    go_wp2_with fail
    clear pkb_0 pkb_1 pkb_0f pkb_1f pkc_0 pkc_1 pkc_2 pkc_3 pkc_4 pkc_0f pkc_1f pkc_2f pkc_3f pkc_4f
    refine (H3.out _ bc).mono ?_
    rintro e w3 ⟨rfl, hC⟩
    dsimp only
    replace kb := kb.on hC; replace kc := kc.on hC; replace kr := kr.on hC; replace bc := bc.trans (hC.mono bc.size); clear hC
    obtain ⟨pkb_0, pkb_1, pkb_0f, pkb_1f⟩ := kb.two
    obtain ⟨⟨pkc_0, pkc_1, pkc_2, pkc_3, pkc_4⟩, pkc_0f, pkc_1f, pkc_2f, pkc_3f, pkc_4f⟩ := kc.five
    go_wp2_with fail
    clear pkb_0 pkb_1 pkb_0f pkb_1f pkc_0 pkc_1 pkc_2 pkc_3 pkc_4 pkc_0f pkc_1f pkc_2f pkc_3f pkc_4f
    refine (H4.out _).mono ?_
    rintro e w4 ⟨rfl, hC⟩
    dsimp only
    replace kb := kb.on hC; replace kc := kc.on hC; replace kr := kr.on hC; replace bc := bc.trans (hC.mono bc.size); clear hC
    obtain ⟨pkb_0, pkb_1, pkb_0f, pkb_1f⟩ := kb.two
    obtain ⟨⟨pkc_0, pkc_1, pkc_2, pkc_3, pkc_4⟩, pkc_0f, pkc_1f, pkc_2f, pkc_3f, pkc_4f⟩ := kc.five
    go_wp2_with fail
    clear pkb_0 pkb_1 pkb_0f pkb_1f pkc_0 pkc_1 pkc_2 pkc_3 pkc_4 pkc_0f pkc_1f pkc_2f pkc_3f pkc_4f
    refine (H5.out _ bc).mono ?_
    rintro e w5 ⟨rfl, hC⟩
    dsimp only
    replace kb := kb.on hC; replace kc := kc.on hC; replace kr := kr.on hC; replace bc := bc.trans (hC.mono bc.size); clear hC
    have z_kf_kb := kb.lt
    have z_kf_kc := kc.lt
    have z_kf_kr := kr.lt
    have zb_kf := bc.size
    have kf := Blk.new w5 26 #[.int .i64 0, .int .i64 0, .int .i64 0, .int .i64 0, .int .i64 0, .int .i64 0, .int .i64 0, .int .i64 0, .slice none 0 0]
    have al := Below.al w5 (.cells #[.int .i64 0, .int .i64 0, .int .i64 0, .int .i64 0, .int .i64 0, .int .i64 0, .int .i64 0, .int .i64 0, .slice none 0 0] 26)
    replace kb := kb.on al; replace kc := kc.on al; replace kr := kr.on al; replace bc := bc.trans (al.mono bc.size); clear al
    obtain ⟨pkb_0, pkb_1, pkb_0f, pkb_1f⟩ := kb.two
    obtain ⟨⟨pkc_0, pkc_1, pkc_2, pkc_3, pkc_4⟩, pkc_0f, pkc_1f, pkc_2f, pkc_3f, pkc_4f⟩ := kc.five
    obtain ⟨pkf_0, pkf_1, pkf_2, pkf_3, pkf_4, pkf_5, pkf_6, pkf_7, pkf_8⟩ := kf.nine
    obtain ⟨pkf_0f, pkf_1f, pkf_2f, pkf_3f, pkf_4f, pkf_5f, pkf_6f, pkf_7f, pkf_8f⟩ := kf.nineF
    go_wp2_with fail
    clear pkb_0 pkb_1 pkb_0f pkb_1f pkc_0 pkc_1 pkc_2 pkc_3 pkc_4 pkc_0f pkc_1f pkc_2f pkc_3f pkc_4f pkf_0 pkf_1 pkf_2 pkf_3 pkf_4 pkf_5 pkf_6 pkf_7 pkf_8 pkf_0f pkf_1f pkf_2f pkf_3f pkf_4f pkf_5f pkf_6f pkf_7f pkf_8f
    generalize w5.alloc (.cells #[.int .i64 0, .int .i64 0, .int .i64 0, .int .i64 0, .int .i64 0, .int .i64 0, .int .i64 0, .int .i64 0, .slice none 0 0] 26) = u2 at *
    generalize w5.heap.size = g2 at *
    refine (HS.out _).mono ?_
    rintro e w6 ⟨A2, n2, c2, rfl, v2, hC⟩
    dsimp only at v2 ⊢
    replace kb := kb.on hC; replace kc := kc.on hC; replace kr := kr.on hC; replace kf := kf.on hC; replace bc := bc.trans (hC.mono bc.size); clear hC
    have z_ks_kb := kb.lt
    have z_ks_kc := kc.lt
    have z_ks_kr := kr.lt
    have z_ks_kf := kf.lt
    have zb_ks := bc.size
    have ks := Blk.new w6 28 #[.int .i64 S.length, .slice A2 n2 c2]
    have al := Below.al w6 (.cells #[.int .i64 S.length, .slice A2 n2 c2] 28)
    replace kb := kb.on al; replace kc := kc.on al; replace kr := kr.on al; replace kf := kf.on al; replace v2 := v2.on al; replace bc := bc.trans (al.mono bc.size); clear al
    obtain ⟨pkb_0, pkb_1, pkb_0f, pkb_1f⟩ := kb.two
    obtain ⟨⟨pkc_0, pkc_1, pkc_2, pkc_3, pkc_4⟩, pkc_0f, pkc_1f, pkc_2f, pkc_3f, pkc_4f⟩ := kc.five
    obtain ⟨pks_0, pks_1, pks_0f, pks_1f⟩ := ks.two
    go_wp2_with fail
    clear pkb_0 pkb_1 pkb_0f pkb_1f pkc_0 pkc_1 pkc_2 pkc_3 pkc_4 pkc_0f pkc_1f pkc_2f pkc_3f pkc_4f pks_0 pks_1 pks_0f pks_1f
    generalize w6.alloc (.cells #[.int .i64 S.length, .slice A2 n2 c2] 28) = u3 at *
    generalize w6.heap.size = g3 at *
    refine (HO.out _ bc A2 n2 c2 v2).mono ?_
    rintro e w7 ⟨A3, n3, c3, rfl, v3, hC⟩
    dsimp only at v3 ⊢
    replace kb := kb.on hC; replace kc := kc.on hC; replace kr := kr.on hC; replace kf := kf.on hC; replace ks := ks.on hC; replace v2 := v2.on hC; replace bc := bc.trans (hC.mono bc.size); clear hC
    have z_kp_kb := kb.lt
    have z_kp_kc := kc.lt
    have z_kp_kr := kr.lt
    have z_kp_kf := kf.lt
    have z_kp_ks := ks.lt
    have zb_kp := bc.size
    have kp := Blk.new w7 28 #[.int .i64 Q.length, .slice A3 n3 c3]
    have al := Below.al w7 (.cells #[.int .i64 Q.length, .slice A3 n3 c3] 28)
    replace kb := kb.on al; replace kc := kc.on al; replace kr := kr.on al; replace kf := kf.on al; replace ks := ks.on al; replace v2 := v2.on al; replace v3 := v3.on al; replace bc := bc.trans (al.mono bc.size); clear al
    obtain ⟨pkb_0, pkb_1, pkb_0f, pkb_1f⟩ := kb.two
    obtain ⟨⟨pkc_0, pkc_1, pkc_2, pkc_3, pkc_4⟩, pkc_0f, pkc_1f, pkc_2f, pkc_3f, pkc_4f⟩ := kc.five
    obtain ⟨pkp_0, pkp_1, pkp_0f, pkp_1f⟩ := kp.two
    go_wp2_with fail
    clear pkb_0 pkb_1 pkb_0f pkb_1f pkc_0 pkc_1 pkc_2 pkc_3 pkc_4 pkc_0f pkc_1f pkc_2f pkc_3f pkc_4f pkp_0 pkp_1 pkp_0f pkp_1f
    generalize w7.alloc (.cells #[.int .i64 Q.length, .slice A3 n3 c3] 28) = u4 at *
    generalize w7.heap.size = g4 at *
    have hdr : Below u4.heap.size u4 u4.drew := (Below.refl _ _).drew
    replace kb := kb.on hdr; replace kc := kc.on hdr; replace kr := kr.on hdr; replace kf := kf.on hdr; replace ks := ks.on hdr; replace kp := kp.on hdr; replace v2 := v2.on hdr; replace v3 := v3.on hdr; replace bc := bc.trans (hdr.mono bc.size)
    clear hdr
    obtain ⟨pkb_0, pkb_1, pkb_0f, pkb_1f⟩ := kb.two
    obtain ⟨⟨pkc_0, pkc_1, pkc_2, pkc_3, pkc_4⟩, pkc_0f, pkc_1f, pkc_2f, pkc_3f, pkc_4f⟩ := kc.five
    obtain ⟨pkp_0, pkp_1, pkp_0f, pkp_1f⟩ := kp.two
    go_region_held3 (fun w' => w'.cell? ⟨w.heap.size, 0, none⟩ = some (.int .i64 L.length) ∧ w'.cell? ⟨w.heap.size, 1, none⟩ = some (.slice A n c) ∧ w'.cell? ⟨w.heap.size + 1, 0, none⟩ = some (.int .i64 C0) ∧ w'.cell? ⟨w.heap.size + 1, 1, none⟩ = some (.int .i64 C1) ∧ w'.cell? ⟨w.heap.size + 1, 2, none⟩ = some (.int .i64 C2) ∧ w'.cell? ⟨w.heap.size + 1, 3, none⟩ = some (.int .i64 C3) ∧ w'.cell? ⟨w.heap.size + 1, 4, none⟩ = some (.int .i64 C4) ∧ w'.cell? ⟨g4, 0, none⟩ = some (.int .i64 Q.length) ∧ w'.cell? ⟨g4, 1, none⟩ = some (.slice A3 n3 c3)) (first | exact ⟨zkb_0, zkb_1, zkc_0, zkc_1, zkc_2, zkc_3, zkc_4, zkp_0, zkp_1⟩ | exact ⟨qkb_0, qkb_1, qkc_0, qkc_1, qkc_2, qkc_3, qkc_4, qkp_0, qkp_1⟩ | exact ⟨pkb_0, pkb_1, pkc_0, pkc_1, pkc_2, pkc_3, pkc_4, pkp_0, pkp_1⟩) (first | (have _ := hone; go_at_call 55; refine (HD.out _ A3 n3 c3 v3).mono ?_; rintro e w9 ⟨A8, n8, c8, rfl, hn8, y8, hC⟩; dsimp only at y8 ⊢; replace kb := kb.on hC; replace kc := kc.on hC; replace kr := kr.on hC; replace kf := kf.on hC; replace ks := ks.on hC; replace kp := kp.on hC; replace v2 := v2.on hC; replace v3 := v3.on hC; replace bc := bc.trans (hC.mono bc.size); clear hC; have HN8 := Lib.hid hn8; clear hn8; clear pkb_0 pkb_1 pkb_0f pkb_1f pkc_0 pkc_1 pkc_2 pkc_3 pkc_4 pkc_0f pkc_1f pkc_2f pkc_3f pkc_4f pkp_0 pkp_1 pkp_0f pkp_1f; obtain ⟨pkb_0, pkb_1, pkb_0f, pkb_1f⟩ := kb.two; obtain ⟨⟨pkc_0, pkc_1, pkc_2, pkc_3, pkc_4⟩, pkc_0f, pkc_1f, pkc_2f, pkc_3f, pkc_4f⟩ := kc.five; obtain ⟨pkp_0, pkp_1, pkp_0f, pkp_1f⟩ := kp.two; have hst := run_storeVar_row (P := Tryd.prog) w9 (g2) 26 26 _ #[.int .i64 2, .int .i64 rr, .int .i64 C0, .int .i64 C1, .int .i64 C2, .int .i64 C3, .int .i64 C4, .int .i64 0, .slice A8 n8 c8] kf info26 rfl (by simp [Value.oneCell']); simp [go_sem] at hst; have hG := only_setRow w9 (g2) #[.int .i64 2, .int .i64 rr, .int .i64 C0, .int .i64 C1, .int .i64 C2, .int .i64 C3, .int .i64 C4, .int .i64 0, .slice A8 n8 c8]; replace kb := kb.grown hG (some_ne (by omega)); replace kc := kc.grown hG (some_ne (by omega)); replace kr := kr.grown hG (some_ne (by omega)); replace ks := ks.grown hG (some_ne (by omega)); replace kp := kp.grown hG (some_ne (by omega)); replace v2 := v2.off kf (no_u8_9 _ _ _ _ _ _ _ _ _ _ _) hG; replace v3 := v3.off kf (no_u8_9 _ _ _ _ _ _ _ _ _ _ _) hG; replace y8 := y8.off kf (no_u8_9 _ _ _ _ _ _ _ _ _ _ _) hG; replace bc := Below.off bc bc.size (by omega) hG; replace kf := Blk.row kf #[.int .i64 2, .int .i64 rr, .int .i64 C0, .int .i64 C1, .int .i64 C2, .int .i64 C3, .int .i64 C4, .int .i64 0, .slice A8 n8 c8]; clear hG; obtain ⟨zkb_0, zkb_1, zkb_0f, zkb_1f⟩ := kb.two; obtain ⟨⟨zkc_0, zkc_1, zkc_2, zkc_3, zkc_4⟩, zkc_0f, zkc_1f, zkc_2f, zkc_3f, zkc_4f⟩ := kc.five; obtain ⟨zkp_0, zkp_1, zkp_0f, zkp_1f⟩ := kp.two) | (have _ := htwo; go_at_call 50; refine (H9.out _ bc).mono ?_; rintro e w8 ⟨rfl, hC⟩; dsimp only; replace kb := kb.on hC; replace kc := kc.on hC; replace kr := kr.on hC; replace kf := kf.on hC; replace ks := ks.on hC; replace kp := kp.on hC; replace v2 := v2.on hC; replace v3 := v3.on hC; replace y8 := y8.on hC; replace bc := bc.trans (hC.mono bc.size); clear hC; clear pkb_0 pkb_1 pkb_0f pkb_1f pkc_0 pkc_1 pkc_2 pkc_3 pkc_4 pkc_0f pkc_1f pkc_2f pkc_3f pkc_4f pkp_0 pkp_1 pkp_0f pkp_1f; obtain ⟨pkb_0, pkb_1, pkb_0f, pkb_1f⟩ := kb.two; obtain ⟨⟨pkc_0, pkc_1, pkc_2, pkc_3, pkc_4⟩, pkc_0f, pkc_1f, pkc_2f, pkc_3f, pkc_4f⟩ := kc.five; obtain ⟨pkp_0, pkp_1, pkp_0f, pkp_1f⟩ := kp.two; have hst := run_storeVar_row (P := Tryd.prog) w8 (g2) 26 26 _ #[.int .i64 2, .int .i64 rr, .int .i64 C0, .int .i64 C1, .int .i64 C2, .int .i64 C3, .int .i64 C4, .int .i64 0, .slice A8 n8 c8] kf info26 rfl (by simp [Value.oneCell']); simp [go_sem] at hst; have hG := only_setRow w8 (g2) #[.int .i64 2, .int .i64 rr, .int .i64 C0, .int .i64 C1, .int .i64 C2, .int .i64 C3, .int .i64 C4, .int .i64 0, .slice A8 n8 c8]; replace kb := kb.grown hG (some_ne (by omega)); replace kc := kc.grown hG (some_ne (by omega)); replace kr := kr.grown hG (some_ne (by omega)); replace ks := ks.grown hG (some_ne (by omega)); replace kp := kp.grown hG (some_ne (by omega)); replace v2 := v2.off kf (no_u8_9 _ _ _ _ _ _ _ _ _ _ _) hG; replace v3 := v3.off kf (no_u8_9 _ _ _ _ _ _ _ _ _ _ _) hG; replace y8 := y8.off kf (no_u8_9 _ _ _ _ _ _ _ _ _ _ _) hG; replace bc := Below.off bc bc.size (by omega) hG; replace kf := Blk.row kf #[.int .i64 2, .int .i64 rr, .int .i64 C0, .int .i64 C1, .int .i64 C2, .int .i64 C3, .int .i64 C4, .int .i64 0, .slice A8 n8 c8]; clear hG; obtain ⟨zkb_0, zkb_1, zkb_0f, zkb_1f⟩ := kb.two; obtain ⟨⟨zkc_0, zkc_1, zkc_2, zkc_3, zkc_4⟩, zkc_0f, zkc_1f, zkc_2f, zkc_3f, zkc_4f⟩ := kc.five; obtain ⟨zkp_0, zkp_1, zkp_0f, zkp_1f⟩ := kp.two) | (go_at_call 50; refine (H9.out _ bc).mono ?_; rintro e w8 ⟨rfl, hC⟩; dsimp only; replace kb := kb.on hC; replace kc := kc.on hC; replace kr := kr.on hC; replace kf := kf.on hC; replace ks := ks.on hC; replace kp := kp.on hC; replace v2 := v2.on hC; replace v3 := v3.on hC; replace bc := bc.trans (hC.mono bc.size); clear hC; have hone := 0; clear pkb_0 pkb_1 pkb_0f pkb_1f pkc_0 pkc_1 pkc_2 pkc_3 pkc_4 pkc_0f pkc_1f pkc_2f pkc_3f pkc_4f pkp_0 pkp_1 pkp_0f pkp_1f; obtain ⟨pkb_0, pkb_1, pkb_0f, pkb_1f⟩ := kb.two; obtain ⟨⟨pkc_0, pkc_1, pkc_2, pkc_3, pkc_4⟩, pkc_0f, pkc_1f, pkc_2f, pkc_3f, pkc_4f⟩ := kc.five; obtain ⟨pkp_0, pkp_1, pkp_0f, pkp_1f⟩ := kp.two) | (go_at_call 55; refine (HD.out _ A3 n3 c3 v3).mono ?_; rintro e w9 ⟨A8, n8, c8, rfl, hn8, y8, hC⟩; dsimp only at y8 ⊢; replace kb := kb.on hC; replace kc := kc.on hC; replace kr := kr.on hC; replace kf := kf.on hC; replace ks := ks.on hC; replace kp := kp.on hC; replace v2 := v2.on hC; replace v3 := v3.on hC; replace bc := bc.trans (hC.mono bc.size); clear hC; have HN8 := Lib.hid hn8; clear hn8; have htwo := 0; clear pkb_0 pkb_1 pkb_0f pkb_1f pkc_0 pkc_1 pkc_2 pkc_3 pkc_4 pkc_0f pkc_1f pkc_2f pkc_3f pkc_4f pkp_0 pkp_1 pkp_0f pkp_1f; obtain ⟨pkb_0, pkb_1, pkb_0f, pkb_1f⟩ := kb.two; obtain ⟨⟨pkc_0, pkc_1, pkc_2, pkc_3, pkc_4⟩, pkc_0f, pkc_1f, pkc_2f, pkc_3f, pkc_4f⟩ := kc.five; obtain ⟨pkp_0, pkp_1, pkp_0f, pkp_1f⟩ := kp.two))
    all_goals
      by_cases hm : mayF ⟨2, rr, ⟨C0, C1, C2, C3, C4⟩, 0, D⟩ = true
      · have hr := Q4.out (by simp) (by simp) hm; have HRR := Lib.hid hr
        have hck := H8.out A8 n8 c8; rw [checkF_yes hm] at hck; have HCK := Lib.hid hck; clear hck hr hm
        obtain ⟨pkf_0, pkf_1, pkf_2, pkf_3, pkf_4, pkf_5, pkf_6, pkf_7, pkf_8⟩ := kf.nine
        obtain ⟨pkf_0f, pkf_1f, pkf_2f, pkf_3f, pkf_4f, pkf_5f, pkf_6f, pkf_7f, pkf_8f⟩ := kf.nineF
        go_wp2_with fail
        clear pkf_0 pkf_1 pkf_2 pkf_3 pkf_4 pkf_5 pkf_6 pkf_7 pkf_8 pkf_0f pkf_1f pkf_2f pkf_3f pkf_4f pkf_5f pkf_6f pkf_7f pkf_8f
        refine (HCK.out _ HN8.out).mono ?_
        rintro e w11 ⟨rfl, hC⟩
        dsimp only
        replace kb := kb.on hC; replace kc := kc.on hC; replace kr := kr.on hC; replace kf := kf.on hC; replace ks := ks.on hC; replace kp := kp.on hC; replace v2 := v2.on hC; replace v3 := v3.on hC; replace y8 := y8.on hC; replace bc := bc.trans (hC.mono bc.size); clear hC
        obtain ⟨pkf_0, pkf_1, pkf_2, pkf_3, pkf_4, pkf_5, pkf_6, pkf_7, pkf_8⟩ := kf.nine
        obtain ⟨pkf_0f, pkf_1f, pkf_2f, pkf_3f, pkf_4f, pkf_5f, pkf_6f, pkf_7f, pkf_8f⟩ := kf.nineF
        have hst := run_storeVar_row (P := Tryd.prog) w11 (w.heap.size + 1 + 1) 26 26 _ #[.int .i64 2, .int .i64 rr, .int .i64 C0, .int .i64 C1, .int .i64 C2, .int .i64 C3, .int .i64 C4, .int .i64 0, .slice A8 n8 c8] kr info26 rfl (by simp [Value.oneCell'])
        simp [go_sem] at hst
        have hG := only_setRow w11 (w.heap.size + 1 + 1) #[.int .i64 2, .int .i64 rr, .int .i64 C0, .int .i64 C1, .int .i64 C2, .int .i64 C3, .int .i64 C4, .int .i64 0, .slice A8 n8 c8]
        replace kb := kb.grown hG (some_ne (by omega)); replace kc := kc.grown hG (some_ne (by omega)); replace kf := kf.grown hG (some_ne (by omega)); replace ks := ks.grown hG (some_ne (by omega)); replace kp := kp.grown hG (some_ne (by omega)); replace v2 := v2.off kr (no_u8_9 _ _ _ _ _ _ _ _ _ _ _) hG; replace v3 := v3.off kr (no_u8_9 _ _ _ _ _ _ _ _ _ _ _) hG; replace y8 := y8.off kr (no_u8_9 _ _ _ _ _ _ _ _ _ _ _) hG; replace bc := Below.off bc bc.size (by omega) hG; replace kr := Blk.row kr #[.int .i64 2, .int .i64 rr, .int .i64 C0, .int .i64 C1, .int .i64 C2, .int .i64 C3, .int .i64 C4, .int .i64 0, .slice A8 n8 c8]; clear hG
        go_wp2
        obtain ⟨xkr_0, xkr_1, xkr_2, xkr_3, xkr_4, xkr_5, xkr_6, xkr_7, xkr_8⟩ := kr.nine
        obtain ⟨xkr_0f, xkr_1f, xkr_2f, xkr_3f, xkr_4f, xkr_5f, xkr_6f, xkr_7f, xkr_8f⟩ := kr.nineF
        rw [HRR.out]
        exact bodyPost_ret (v := .tuple #[.agg #[.int .i64 2, .int .i64 rr, .int .i64 C0, .int .i64 C1, .int .i64 C2, .int .i64 C3, .int .i64 C4, .int .i64 0, .slice A8 n8 c8], .int .i64 0]) (by simp [results, Tryd.results19, go_sem, xkr_0, xkr_1, xkr_2, xkr_3, xkr_4, xkr_5, xkr_6, xkr_7, xkr_8]) rfl ⟨A8, n8, c8, rfl, HN8.out, y8, bc⟩
      · have hr := Q3.out (by simp) (by simp) hm; have HRR := Lib.hid hr
        have hck := H8.out A8 n8 c8; rw [checkF_no hm] at hck; have HCK := Lib.hid hck; clear hck hr hm
        obtain ⟨pkf_0, pkf_1, pkf_2, pkf_3, pkf_4, pkf_5, pkf_6, pkf_7, pkf_8⟩ := kf.nine
        obtain ⟨pkf_0f, pkf_1f, pkf_2f, pkf_3f, pkf_4f, pkf_5f, pkf_6f, pkf_7f, pkf_8f⟩ := kf.nineF
        go_wp2_with fail
        clear pkf_0 pkf_1 pkf_2 pkf_3 pkf_4 pkf_5 pkf_6 pkf_7 pkf_8 pkf_0f pkf_1f pkf_2f pkf_3f pkf_4f pkf_5f pkf_6f pkf_7f pkf_8f
        refine (HCK.out _ HN8.out).mono ?_
        rintro e w11 ⟨rfl, hC⟩
        dsimp only
        replace kb := kb.on hC; replace kc := kc.on hC; replace kr := kr.on hC; replace kf := kf.on hC; replace ks := ks.on hC; replace kp := kp.on hC; replace v2 := v2.on hC; replace v3 := v3.on hC; replace y8 := y8.on hC; replace bc := bc.trans (hC.mono bc.size); clear hC
        have hst := run_storeVar_row (P := Tryd.prog) w11 (w.heap.size + 1 + 1) 26 26 _ #[.int .i64 0, .int .i64 0, .int .i64 0, .int .i64 0, .int .i64 0, .int .i64 0, .int .i64 0, .int .i64 0, .slice none 0 0] kr info26 rfl (by simp [Value.oneCell'])
        simp [go_sem] at hst
        have hG := only_setRow w11 (w.heap.size + 1 + 1) #[.int .i64 0, .int .i64 0, .int .i64 0, .int .i64 0, .int .i64 0, .int .i64 0, .int .i64 0, .int .i64 0, .slice none 0 0]
        replace kb := kb.grown hG (some_ne (by omega)); replace kc := kc.grown hG (some_ne (by omega)); replace kf := kf.grown hG (some_ne (by omega)); replace ks := ks.grown hG (some_ne (by omega)); replace kp := kp.grown hG (some_ne (by omega)); replace v2 := v2.off kr (no_u8_9 _ _ _ _ _ _ _ _ _ _ _) hG; replace v3 := v3.off kr (no_u8_9 _ _ _ _ _ _ _ _ _ _ _) hG; replace y8 := y8.off kr (no_u8_9 _ _ _ _ _ _ _ _ _ _ _) hG; replace bc := Below.off bc bc.size (by omega) hG; replace kr := Blk.row kr #[.int .i64 0, .int .i64 0, .int .i64 0, .int .i64 0, .int .i64 0, .int .i64 0, .int .i64 0, .int .i64 0, .slice none 0 0]; clear hG
        go_wp2
        obtain ⟨xkr_0, xkr_1, xkr_2, xkr_3, xkr_4, xkr_5, xkr_6, xkr_7, xkr_8⟩ := kr.nine
        obtain ⟨xkr_0f, xkr_1f, xkr_2f, xkr_3f, xkr_4f, xkr_5f, xkr_6f, xkr_7f, xkr_8f⟩ := kr.nineF
        rw [HRR.out]
        exact bodyPost_ret (v := .tuple #[.agg #[.int .i64 0, .int .i64 0, .int .i64 0, .int .i64 0, .int .i64 0, .int .i64 0, .int .i64 0, .int .i64 0, .slice none 0 0], .int .i64 51]) (by simp [results, Tryd.results19, go_sem, xkr_0, xkr_1, xkr_2, xkr_3, xkr_4, xkr_5, xkr_6, xkr_7, xkr_8]) rfl ⟨none, 0, 0, rfl, rfl, Byt.none _, bc⟩
  · simp only [if_neg hr] at hO
    obtain ⟨Q, hQ⟩ : ∃ Q : List Bool, Q = [] := ⟨_, rfl⟩
    rw [← hQ] at hO
    clear hQ
    have hD := fun (W : World) (B : Option Addr) (m d : Nat) (hv : Bv W Q B m) => rdata_all hv d 5 (by decide)
    generalize bytesL (Q.drop 5) = D at *
    have hrd := q2 (by simpa using hr); have HRR := Lib.hid hrd; clear hrd
    have HO := Lib.hid hO; have HD := Lib.hid hD; clear hO hD q2 q3 q4 hr
    obtain ⟨kb, kc, kr, bc⟩ := bx3 w #[.int .i64 L.length, .slice A n c] #[.int .i64 C0, .int .i64 C1, .int .i64 C2, .int .i64 C3, .int .i64 C4] #[.int .i64 0, .int .i64 0, .int .i64 0, .int .i64 0, .int .i64 0, .int .i64 0, .int .i64 0, .int .i64 0, .slice none 0 0] 28 23 26
    go_enter Tryd.func19, Tryd.ntmps19
    go_wp2_with fail
    generalize ((w.alloc (.cells #[.int .i64 L.length, .slice A n c] 28)).alloc (.cells #[.int .i64 C0, .int .i64 C1, .int .i64 C2, .int .i64 C3, .int .i64 C4] 23)).alloc (.cells #[.int .i64 0, .int .i64 0, .int .i64 0, .int .i64 0, .int .i64 0, .int .i64 0, .int .i64 0, .int .i64 0, .slice none 0 0] 26) = u1 at *
    refine (H1.out _ bc).mono ?_
    rintro e w1 ⟨rfl, hC⟩
    dsimp only
    replace kb := kb.on hC; replace kc := kc.on hC; replace kr := kr.on hC; replace bc := bc.trans (hC.mono bc.size); clear hC
    obtain ⟨pkb_0, pkb_1, pkb_0f, pkb_1f⟩ := kb.two
    obtain ⟨⟨pkc_0, pkc_1, pkc_2, pkc_3, pkc_4⟩, pkc_0f, pkc_1f, pkc_2f, pkc_3f, pkc_4f⟩ := kc.five
    go_wp2_with fail
    clear pkb_0 pkb_1 pkb_0f pkb_1f pkc_0 pkc_1 pkc_2 pkc_3 pkc_4 pkc_0f pkc_1f pkc_2f pkc_3f pkc_4f
    refine (H2.out _).mono ?_
    rintro e w2 ⟨rfl, hC⟩
    dsimp only
    replace kb := kb.on hC; replace kc := kc.on hC; replace kr := kr.on hC; replace bc := bc.trans (hC.mono bc.size); clear hC
    obtain ⟨pkb_0, pkb_1, pkb_0f, pkb_1f⟩ := kb.two
    obtain ⟨⟨pkc_0, pkc_1, pkc_2, pkc_3, pkc_4⟩, pkc_0f, pkc_1f, pkc_2f, pkc_3f, pkc_4f⟩ := kc.five
    go_wp2_with fail
    clear pkb_0 pkb_1 pkb_0f pkb_1f pkc_0 pkc_1 pkc_2 pkc_3 pkc_4 pkc_0f pkc_1f pkc_2f pkc_3f pkc_4f
    refine (H3.out _ bc).mono ?_
    rintro e w3 ⟨rfl, hC⟩
    dsimp only
    replace kb := kb.on hC; replace kc := kc.on hC; replace kr := kr.on hC; replace bc := bc.trans (hC.mono bc.size); clear hC
    obtain ⟨pkb_0, pkb_1, pkb_0f, pkb_1f⟩ := kb.two
    obtain ⟨⟨pkc_0, pkc_1, pkc_2, pkc_3, pkc_4⟩, pkc_0f, pkc_1f, pkc_2f, pkc_3f, pkc_4f⟩ := kc.five
    go_wp2_with fail
    clear pkb_0 pkb_1 pkb_0f pkb_1f pkc_0 pkc_1 pkc_2 pkc_3 pkc_4 pkc_0f pkc_1f pkc_2f pkc_3f pkc_4f
    refine (H4.out _).mono ?_
    rintro e w4 ⟨rfl, hC⟩
    dsimp only
    replace kb := kb.on hC; replace kc := kc.on hC; replace kr := kr.on hC; replace bc := bc.trans (hC.mono bc.size); clear hC
    obtain ⟨pkb_0, pkb_1, pkb_0f, pkb_1f⟩ := kb.two
    obtain ⟨⟨pkc_0, pkc_1, pkc_2, pkc_3, pkc_4⟩, pkc_0f, pkc_1f, pkc_2f, pkc_3f, pkc_4f⟩ := kc.five
    go_wp2_with fail
    clear pkb_0 pkb_1 pkb_0f pkb_1f pkc_0 pkc_1 pkc_2 pkc_3 pkc_4 pkc_0f pkc_1f pkc_2f pkc_3f pkc_4f
    refine (H5.out _ bc).mono ?_
    rintro e w5 ⟨rfl, hC⟩
    dsimp only
    replace kb := kb.on hC; replace kc := kc.on hC; replace kr := kr.on hC; replace bc := bc.trans (hC.mono bc.size); clear hC
    have z_kf_kb := kb.lt
    have z_kf_kc := kc.lt
    have z_kf_kr := kr.lt
    have zb_kf := bc.size
    have kf := Blk.new w5 26 #[.int .i64 0, .int .i64 0, .int .i64 0, .int .i64 0, .int .i64 0, .int .i64 0, .int .i64 0, .int .i64 0, .slice none 0 0]
    have al := Below.al w5 (.cells #[.int .i64 0, .int .i64 0, .int .i64 0, .int .i64 0, .int .i64 0, .int .i64 0, .int .i64 0, .int .i64 0, .slice none 0 0] 26)
    replace kb := kb.on al; replace kc := kc.on al; replace kr := kr.on al; replace bc := bc.trans (al.mono bc.size); clear al
    obtain ⟨pkb_0, pkb_1, pkb_0f, pkb_1f⟩ := kb.two
    obtain ⟨⟨pkc_0, pkc_1, pkc_2, pkc_3, pkc_4⟩, pkc_0f, pkc_1f, pkc_2f, pkc_3f, pkc_4f⟩ := kc.five
    obtain ⟨pkf_0, pkf_1, pkf_2, pkf_3, pkf_4, pkf_5, pkf_6, pkf_7, pkf_8⟩ := kf.nine
    obtain ⟨pkf_0f, pkf_1f, pkf_2f, pkf_3f, pkf_4f, pkf_5f, pkf_6f, pkf_7f, pkf_8f⟩ := kf.nineF
    go_wp2_with fail
    clear pkb_0 pkb_1 pkb_0f pkb_1f pkc_0 pkc_1 pkc_2 pkc_3 pkc_4 pkc_0f pkc_1f pkc_2f pkc_3f pkc_4f pkf_0 pkf_1 pkf_2 pkf_3 pkf_4 pkf_5 pkf_6 pkf_7 pkf_8 pkf_0f pkf_1f pkf_2f pkf_3f pkf_4f pkf_5f pkf_6f pkf_7f pkf_8f
    generalize w5.alloc (.cells #[.int .i64 0, .int .i64 0, .int .i64 0, .int .i64 0, .int .i64 0, .int .i64 0, .int .i64 0, .int .i64 0, .slice none 0 0] 26) = u2 at *
    generalize w5.heap.size = g2 at *
    refine (HS.out _).mono ?_
    rintro e w6 ⟨A2, n2, c2, rfl, v2, hC⟩
    dsimp only at v2 ⊢
    replace kb := kb.on hC; replace kc := kc.on hC; replace kr := kr.on hC; replace kf := kf.on hC; replace bc := bc.trans (hC.mono bc.size); clear hC
    have z_ks_kb := kb.lt
    have z_ks_kc := kc.lt
    have z_ks_kr := kr.lt
    have z_ks_kf := kf.lt
    have zb_ks := bc.size
    have ks := Blk.new w6 28 #[.int .i64 S.length, .slice A2 n2 c2]
    have al := Below.al w6 (.cells #[.int .i64 S.length, .slice A2 n2 c2] 28)
    replace kb := kb.on al; replace kc := kc.on al; replace kr := kr.on al; replace kf := kf.on al; replace v2 := v2.on al; replace bc := bc.trans (al.mono bc.size); clear al
    obtain ⟨pkb_0, pkb_1, pkb_0f, pkb_1f⟩ := kb.two
    obtain ⟨⟨pkc_0, pkc_1, pkc_2, pkc_3, pkc_4⟩, pkc_0f, pkc_1f, pkc_2f, pkc_3f, pkc_4f⟩ := kc.five
    obtain ⟨pks_0, pks_1, pks_0f, pks_1f⟩ := ks.two
    go_wp2_with fail
    clear pkb_0 pkb_1 pkb_0f pkb_1f pkc_0 pkc_1 pkc_2 pkc_3 pkc_4 pkc_0f pkc_1f pkc_2f pkc_3f pkc_4f pks_0 pks_1 pks_0f pks_1f
    generalize w6.alloc (.cells #[.int .i64 S.length, .slice A2 n2 c2] 28) = u3 at *
    generalize w6.heap.size = g3 at *
    refine (HO.out _ bc A2 n2 c2 v2).mono ?_
    rintro e w7 ⟨A3, n3, c3, rfl, v3, hC⟩
    dsimp only at v3 ⊢
    replace kb := kb.on hC; replace kc := kc.on hC; replace kr := kr.on hC; replace kf := kf.on hC; replace ks := ks.on hC; replace v2 := v2.on hC; replace bc := bc.trans (hC.mono bc.size); clear hC
    have z_kp_kb := kb.lt
    have z_kp_kc := kc.lt
    have z_kp_kr := kr.lt
    have z_kp_kf := kf.lt
    have z_kp_ks := ks.lt
    have zb_kp := bc.size
    have kp := Blk.new w7 28 #[.int .i64 Q.length, .slice A3 n3 c3]
    have al := Below.al w7 (.cells #[.int .i64 Q.length, .slice A3 n3 c3] 28)
    replace kb := kb.on al; replace kc := kc.on al; replace kr := kr.on al; replace kf := kf.on al; replace ks := ks.on al; replace v2 := v2.on al; replace v3 := v3.on al; replace bc := bc.trans (al.mono bc.size); clear al
    obtain ⟨pkb_0, pkb_1, pkb_0f, pkb_1f⟩ := kb.two
    obtain ⟨⟨pkc_0, pkc_1, pkc_2, pkc_3, pkc_4⟩, pkc_0f, pkc_1f, pkc_2f, pkc_3f, pkc_4f⟩ := kc.five
    obtain ⟨pkp_0, pkp_1, pkp_0f, pkp_1f⟩ := kp.two
    go_wp2_with fail
    clear pkb_0 pkb_1 pkb_0f pkb_1f pkc_0 pkc_1 pkc_2 pkc_3 pkc_4 pkc_0f pkc_1f pkc_2f pkc_3f pkc_4f pkp_0 pkp_1 pkp_0f pkp_1f
    generalize w7.alloc (.cells #[.int .i64 Q.length, .slice A3 n3 c3] 28) = u4 at *
    generalize w7.heap.size = g4 at *
    have hdr : Below u4.heap.size u4 u4.drew := (Below.refl _ _).drew
    replace kb := kb.on hdr; replace kc := kc.on hdr; replace kr := kr.on hdr; replace kf := kf.on hdr; replace ks := ks.on hdr; replace kp := kp.on hdr; replace v2 := v2.on hdr; replace v3 := v3.on hdr; replace bc := bc.trans (hdr.mono bc.size)
    clear hdr
    obtain ⟨pkb_0, pkb_1, pkb_0f, pkb_1f⟩ := kb.two
    obtain ⟨⟨pkc_0, pkc_1, pkc_2, pkc_3, pkc_4⟩, pkc_0f, pkc_1f, pkc_2f, pkc_3f, pkc_4f⟩ := kc.five
    obtain ⟨pkp_0, pkp_1, pkp_0f, pkp_1f⟩ := kp.two
    go_region_held3 (fun w' => w'.cell? ⟨w.heap.size, 0, none⟩ = some (.int .i64 L.length) ∧ w'.cell? ⟨w.heap.size, 1, none⟩ = some (.slice A n c) ∧ w'.cell? ⟨w.heap.size + 1, 0, none⟩ = some (.int .i64 C0) ∧ w'.cell? ⟨w.heap.size + 1, 1, none⟩ = some (.int .i64 C1) ∧ w'.cell? ⟨w.heap.size + 1, 2, none⟩ = some (.int .i64 C2) ∧ w'.cell? ⟨w.heap.size + 1, 3, none⟩ = some (.int .i64 C3) ∧ w'.cell? ⟨w.heap.size + 1, 4, none⟩ = some (.int .i64 C4) ∧ w'.cell? ⟨g4, 0, none⟩ = some (.int .i64 Q.length) ∧ w'.cell? ⟨g4, 1, none⟩ = some (.slice A3 n3 c3)) (first | exact ⟨zkb_0, zkb_1, zkc_0, zkc_1, zkc_2, zkc_3, zkc_4, zkp_0, zkp_1⟩ | exact ⟨qkb_0, qkb_1, qkc_0, qkc_1, qkc_2, qkc_3, qkc_4, qkp_0, qkp_1⟩ | exact ⟨pkb_0, pkb_1, pkc_0, pkc_1, pkc_2, pkc_3, pkc_4, pkp_0, pkp_1⟩) (first | (have _ := hone; go_at_call 55; refine (HD.out _ A3 n3 c3 v3).mono ?_; rintro e w9 ⟨A8, n8, c8, rfl, hn8, y8, hC⟩; dsimp only at y8 ⊢; replace kb := kb.on hC; replace kc := kc.on hC; replace kr := kr.on hC; replace kf := kf.on hC; replace ks := ks.on hC; replace kp := kp.on hC; replace v2 := v2.on hC; replace v3 := v3.on hC; replace bc := bc.trans (hC.mono bc.size); clear hC; have HN8 := Lib.hid hn8; clear hn8; clear pkb_0 pkb_1 pkb_0f pkb_1f pkc_0 pkc_1 pkc_2 pkc_3 pkc_4 pkc_0f pkc_1f pkc_2f pkc_3f pkc_4f pkp_0 pkp_1 pkp_0f pkp_1f; obtain ⟨pkb_0, pkb_1, pkb_0f, pkb_1f⟩ := kb.two; obtain ⟨⟨pkc_0, pkc_1, pkc_2, pkc_3, pkc_4⟩, pkc_0f, pkc_1f, pkc_2f, pkc_3f, pkc_4f⟩ := kc.five; obtain ⟨pkp_0, pkp_1, pkp_0f, pkp_1f⟩ := kp.two; have hst := run_storeVar_row (P := Tryd.prog) w9 (g2) 26 26 _ #[.int .i64 2, .int .i64 rr, .int .i64 C0, .int .i64 C1, .int .i64 C2, .int .i64 C3, .int .i64 C4, .int .i64 0, .slice A8 n8 c8] kf info26 rfl (by simp [Value.oneCell']); simp [go_sem] at hst; have hG := only_setRow w9 (g2) #[.int .i64 2, .int .i64 rr, .int .i64 C0, .int .i64 C1, .int .i64 C2, .int .i64 C3, .int .i64 C4, .int .i64 0, .slice A8 n8 c8]; replace kb := kb.grown hG (some_ne (by omega)); replace kc := kc.grown hG (some_ne (by omega)); replace kr := kr.grown hG (some_ne (by omega)); replace ks := ks.grown hG (some_ne (by omega)); replace kp := kp.grown hG (some_ne (by omega)); replace v2 := v2.off kf (no_u8_9 _ _ _ _ _ _ _ _ _ _ _) hG; replace v3 := v3.off kf (no_u8_9 _ _ _ _ _ _ _ _ _ _ _) hG; replace y8 := y8.off kf (no_u8_9 _ _ _ _ _ _ _ _ _ _ _) hG; replace bc := Below.off bc bc.size (by omega) hG; replace kf := Blk.row kf #[.int .i64 2, .int .i64 rr, .int .i64 C0, .int .i64 C1, .int .i64 C2, .int .i64 C3, .int .i64 C4, .int .i64 0, .slice A8 n8 c8]; clear hG; obtain ⟨zkb_0, zkb_1, zkb_0f, zkb_1f⟩ := kb.two; obtain ⟨⟨zkc_0, zkc_1, zkc_2, zkc_3, zkc_4⟩, zkc_0f, zkc_1f, zkc_2f, zkc_3f, zkc_4f⟩ := kc.five; obtain ⟨zkp_0, zkp_1, zkp_0f, zkp_1f⟩ := kp.two) | (have _ := htwo; go_at_call 50; refine (H9.out _ bc).mono ?_; rintro e w8 ⟨rfl, hC⟩; dsimp only; replace kb := kb.on hC; replace kc := kc.on hC; replace kr := kr.on hC; replace kf := kf.on hC; replace ks := ks.on hC; replace kp := kp.on hC; replace v2 := v2.on hC; replace v3 := v3.on hC; replace y8 := y8.on hC; replace bc := bc.trans (hC.mono bc.size); clear hC; clear pkb_0 pkb_1 pkb_0f pkb_1f pkc_0 pkc_1 pkc_2 pkc_3 pkc_4 pkc_0f pkc_1f pkc_2f pkc_3f pkc_4f pkp_0 pkp_1 pkp_0f pkp_1f; obtain ⟨pkb_0, pkb_1, pkb_0f, pkb_1f⟩ := kb.two; obtain ⟨⟨pkc_0, pkc_1, pkc_2, pkc_3, pkc_4⟩, pkc_0f, pkc_1f, pkc_2f, pkc_3f, pkc_4f⟩ := kc.five; obtain ⟨pkp_0, pkp_1, pkp_0f, pkp_1f⟩ := kp.two; have hst := run_storeVar_row (P := Tryd.prog) w8 (g2) 26 26 _ #[.int .i64 2, .int .i64 rr, .int .i64 C0, .int .i64 C1, .int .i64 C2, .int .i64 C3, .int .i64 C4, .int .i64 0, .slice A8 n8 c8] kf info26 rfl (by simp [Value.oneCell']); simp [go_sem] at hst; have hG := only_setRow w8 (g2) #[.int .i64 2, .int .i64 rr, .int .i64 C0, .int .i64 C1, .int .i64 C2, .int .i64 C3, .int .i64 C4, .int .i64 0, .slice A8 n8 c8]; replace kb := kb.grown hG (some_ne (by omega)); replace kc := kc.grown hG (some_ne (by omega)); replace kr := kr.grown hG (some_ne (by omega)); replace ks := ks.grown hG (some_ne (by omega)); replace kp := kp.grown hG (some_ne (by omega)); replace v2 := v2.off kf (no_u8_9 _ _ _ _ _ _ _ _ _ _ _) hG; replace v3 := v3.off kf (no_u8_9 _ _ _ _ _ _ _ _ _ _ _) hG; replace y8 := y8.off kf (no_u8_9 _ _ _ _ _ _ _ _ _ _ _) hG; replace bc := Below.off bc bc.size (by omega) hG; replace kf := Blk.row kf #[.int .i64 2, .int .i64 rr, .int .i64 C0, .int .i64 C1, .int .i64 C2, .int .i64 C3, .int .i64 C4, .int .i64 0, .slice A8 n8 c8]; clear hG; obtain ⟨zkb_0, zkb_1, zkb_0f, zkb_1f⟩ := kb.two; obtain ⟨⟨zkc_0, zkc_1, zkc_2, zkc_3, zkc_4⟩, zkc_0f, zkc_1f, zkc_2f, zkc_3f, zkc_4f⟩ := kc.five; obtain ⟨zkp_0, zkp_1, zkp_0f, zkp_1f⟩ := kp.two) | (go_at_call 50; refine (H9.out _ bc).mono ?_; rintro e w8 ⟨rfl, hC⟩; dsimp only; replace kb := kb.on hC; replace kc := kc.on hC; replace kr := kr.on hC; replace kf := kf.on hC; replace ks := ks.on hC; replace kp := kp.on hC; replace v2 := v2.on hC; replace v3 := v3.on hC; replace bc := bc.trans (hC.mono bc.size); clear hC; have hone := 0; clear pkb_0 pkb_1 pkb_0f pkb_1f pkc_0 pkc_1 pkc_2 pkc_3 pkc_4 pkc_0f pkc_1f pkc_2f pkc_3f pkc_4f pkp_0 pkp_1 pkp_0f pkp_1f; obtain ⟨pkb_0, pkb_1, pkb_0f, pkb_1f⟩ := kb.two; obtain ⟨⟨pkc_0, pkc_1, pkc_2, pkc_3, pkc_4⟩, pkc_0f, pkc_1f, pkc_2f, pkc_3f, pkc_4f⟩ := kc.five; obtain ⟨pkp_0, pkp_1, pkp_0f, pkp_1f⟩ := kp.two) | (go_at_call 55; refine (HD.out _ A3 n3 c3 v3).mono ?_; rintro e w9 ⟨A8, n8, c8, rfl, hn8, y8, hC⟩; dsimp only at y8 ⊢; replace kb := kb.on hC; replace kc := kc.on hC; replace kr := kr.on hC; replace kf := kf.on hC; replace ks := ks.on hC; replace kp := kp.on hC; replace v2 := v2.on hC; replace v3 := v3.on hC; replace bc := bc.trans (hC.mono bc.size); clear hC; have HN8 := Lib.hid hn8; clear hn8; have htwo := 0; clear pkb_0 pkb_1 pkb_0f pkb_1f pkc_0 pkc_1 pkc_2 pkc_3 pkc_4 pkc_0f pkc_1f pkc_2f pkc_3f pkc_4f pkp_0 pkp_1 pkp_0f pkp_1f; obtain ⟨pkb_0, pkb_1, pkb_0f, pkb_1f⟩ := kb.two; obtain ⟨⟨pkc_0, pkc_1, pkc_2, pkc_3, pkc_4⟩, pkc_0f, pkc_1f, pkc_2f, pkc_3f, pkc_4f⟩ := kc.five; obtain ⟨pkp_0, pkp_1, pkp_0f, pkp_1f⟩ := kp.two))
    all_goals
      have hst := run_storeVar_row (P := Tryd.prog) (w9.setRow (g2) #[.int .i64 2, .int .i64 rr, .int .i64 C0, .int .i64 C1, .int .i64 C2, .int .i64 C3, .int .i64 C4, .int .i64 0, .slice A8 n8 c8]) (w.heap.size + 1 + 1) 26 26 _ #[.int .i64 0, .int .i64 0, .int .i64 0, .int .i64 0, .int .i64 0, .int .i64 0, .int .i64 0, .int .i64 0, .slice none 0 0] kr info26 rfl (by simp [Value.oneCell'])
      simp [go_sem] at hst
      have hG := only_setRow (w9.setRow (g2) #[.int .i64 2, .int .i64 rr, .int .i64 C0, .int .i64 C1, .int .i64 C2, .int .i64 C3, .int .i64 C4, .int .i64 0, .slice A8 n8 c8]) (w.heap.size + 1 + 1) #[.int .i64 0, .int .i64 0, .int .i64 0, .int .i64 0, .int .i64 0, .int .i64 0, .int .i64 0, .int .i64 0, .slice none 0 0]
      replace kb := kb.grown hG (some_ne (by omega)); replace kc := kc.grown hG (some_ne (by omega)); replace kf := kf.grown hG (some_ne (by omega)); replace ks := ks.grown hG (some_ne (by omega)); replace kp := kp.grown hG (some_ne (by omega)); replace v2 := v2.off kr (no_u8_9 _ _ _ _ _ _ _ _ _ _ _) hG; replace v3 := v3.off kr (no_u8_9 _ _ _ _ _ _ _ _ _ _ _) hG; replace y8 := y8.off kr (no_u8_9 _ _ _ _ _ _ _ _ _ _ _) hG; replace bc := Below.off bc bc.size (by omega) hG; replace kr := Blk.row kr #[.int .i64 0, .int .i64 0, .int .i64 0, .int .i64 0, .int .i64 0, .int .i64 0, .int .i64 0, .int .i64 0, .slice none 0 0]; clear hG
      go_wp2
      obtain ⟨xkr_0, xkr_1, xkr_2, xkr_3, xkr_4, xkr_5, xkr_6, xkr_7, xkr_8⟩ := kr.nine
      obtain ⟨xkr_0f, xkr_1f, xkr_2f, xkr_3f, xkr_4f, xkr_5f, xkr_6f, xkr_7f, xkr_8f⟩ := kr.nineF
      rw [HRR.out]
      exact bodyPost_ret (v := .tuple #[.agg #[.int .i64 0, .int .i64 0, .int .i64 0, .int .i64 0, .int .i64 0, .int .i64 0, .int .i64 0, .int .i64 0, .slice none 0 0], .int .i64 21]) (by simp [results, Tryd.results19, go_sem, xkr_0, xkr_1, xkr_2, xkr_3, xkr_4, xkr_5, xkr_6, xkr_7, xkr_8]) rfl ⟨none, 0, 0, rfl, rfl, Byt.none _, bc⟩
end Go.Proofs.YtcfbeelljhjnoaaDoor
