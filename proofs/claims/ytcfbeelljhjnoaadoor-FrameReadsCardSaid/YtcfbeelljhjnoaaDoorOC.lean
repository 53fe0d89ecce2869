/-
  The document's stated: the frame of bits in which the state stands. Conditions: that the bits can be read and are as long as a frame of their Kind.
-/
import Derived.Test.YtcfbeelljhjnoaaDoorOB
namespace Go.Proofs.YtcfbeelljhjnoaaDoor
open Go.RowKit

set_option maxRecDepth 8000 in
set_option maxHeartbeats 8000000 in
theorem rstated_3 {w : World} {L : List Bool} {A : Option Addr} {n : Nat} (h : Bv w L A n) (c : Nat) (C0 : CS) (hl : L.length = 54) :
    Calls Tryd.prog 56 #[.agg #[.int .i64 L.length, .slice A n c], .int .i64 3, .int .i64 54] w (ResF w (if sumsL 3 L C0 = true then (if mayC (fieldsOf (stateL 3 L)) 8 = true then (0, toldF 3 L C0) else (51, zeroF)) else (21, zeroF))) := by
  obtain ⟨Z, hZ⟩ : ∃ Z, Z = (if sumsL 3 L C0 = true then (if mayC (fieldsOf (stateL 3 L)) 8 = true then ((0 : Int), toldF 3 L C0) else (51, zeroF)) else (21, zeroF)) := ⟨_, rfl⟩
  rw [← hZ]
  have h1 := fun (W : World) (hb : Below w.heap.size w W) => rslice_list (h.on hb) c (N := L.length) (ai := 0) (bi := 54) (a := 0) (b := 54) rfl rfl rfl (by decide) (by omega)
  rw [List.drop_zero, Nat.sub_zero] at h1
  rw [List.take_of_length_le (by omega)] at h1
  have h2 := fun (W : World) (B : Option Addr) (m d : Nat) (hv : Bv W (L) B m) => ropen_list hv (Bv.nil W) d 0 (M := 0) rfl rfl (by omega)
  simp only [List.nil_append] at h2
  have hfl : (frontOf (L)).length = 30 := by rw [front_len]; omega
  have h3 := fun (W : World) (B : Option Addr) (m d : Nat) (hv : Bv W (frontOf (L)) B m) => rslice_list hv d (N := (frontOf (L)).length) (ai := 6) (bi := (frontOf (L)).length) (a := 6) (b := (frontOf (L)).length) rfl rfl rfl (by omega) (by omega)
  have hst : ((frontOf (L)).drop 6).take ((frontOf (L)).length - 6) = stateL 3 L := by rw [hfl, front_drop _ _ _ (by omega)]; unfold stateL; simp
  rw [hst] at h3
  have hsl : (stateL 3 L).length = 24 := by unfold stateL; simp; omega
  have hreq := fun (W : World) (hb : Below w.heap.size w W) => rnumber_list (h.on hb) c (N := L.length) (ai := 2) (Wi := 3) (a := 2) (W := 3) rfl rfl rfl (by decide) (by omega)
  have h6 := fun (W : World) (B : Option Addr) (m d : Nat) (hv : Bv W (stateL 3 L) B m) => rread_list hv d (N := (stateL 3 L).length) rfl hsl
  rw [told_3] at hZ
  have hsm : sumsL 3 L C0 = decide (rem 0 L = 0) := by simp [sumsL]
  rw [hsm] at hZ
  have hwr : IntKind.i64.wrap (((frontOf (L)).length : Int) - 24) = 6 := by rw [hfl]; decide
  generalize hP : frontOf (L) = P at *
  generalize fieldsOf (stateL 3 L) = C at *
  generalize stateL 3 L = U at *
  generalize numOf ((L.drop 2).take 3) = v at *
  obtain ⟨C0, C1, C2, C3, C4⟩ := C
  unfold ResC CS.cells at h6
  clear hst hfl hsl hsm hP hl h
  by_cases g1 : rem 0 L = 0
  rotate_left
  · simp only [if_neg g1] at h2
    have hz : Z = (21, zeroF) := by rw [hZ]; simp [g1]
    have HZ := Lib.hid hz; clear hz hZ g1 h6
    have HR := Lib.hid hreq; have H1 := Lib.hid h1; have H3 := Lib.hid h3; clear hreq h1 h3
    have H2 := Lib.hid h2; clear h2
    obtain ⟨kb, kr, bc⟩ := bx2 w #[.int .i64 L.length, .slice A n c] #[.int .i64 0, .int .i64 0, .int .i64 0, .int .i64 0, .int .i64 0, .int .i64 0, .int .i64 0, .int .i64 0, .slice none 0 0] 28 26
    go_enter Tryd.func56, Tryd.ntmps56
    go_wp2_with fail
    generalize (w.alloc (.cells #[.int .i64 L.length, .slice A n c] 28)).alloc (.cells #[.int .i64 0, .int .i64 0, .int .i64 0, .int .i64 0, .int .i64 0, .int .i64 0, .int .i64 0, .int .i64 0, .slice none 0 0] 26) = u1 at *
    refine (H1.out _ bc).mono ?_
    rintro e w1 ⟨A1, n1, c1, rfl, v1, hC⟩
    dsimp only at v1 ⊢
    replace kb := kb.on hC; replace kr := kr.on hC; replace bc := bc.trans (hC.mono bc.size); clear hC
    have z_k1_kb := kb.lt
    have z_k1_kr := kr.lt
    have zb_k1 := bc.size
    have k1 := Blk.new w1 28 #[.int .i64 L.length, .slice A1 n1 c1]
    have al := Below.al w1 (.cells #[.int .i64 L.length, .slice A1 n1 c1] 28)
    replace kb := kb.on al; replace kr := kr.on al; replace v1 := v1.on al; replace bc := bc.trans (al.mono bc.size); clear al
    obtain ⟨pkb_0, pkb_1, pkb_0f, pkb_1f⟩ := kb.two
    obtain ⟨pkr_0, pkr_1, pkr_2, pkr_3, pkr_4, pkr_5, pkr_6, pkr_7, pkr_8⟩ := kr.nine
    obtain ⟨pkr_0f, pkr_1f, pkr_2f, pkr_3f, pkr_4f, pkr_5f, pkr_6f, pkr_7f, pkr_8f⟩ := kr.nineF
    obtain ⟨pk1_0, pk1_1, pk1_0f, pk1_1f⟩ := k1.two
    go_wp2_with fail
    clear pkb_0 pkb_1 pkb_0f pkb_1f pkr_0 pkr_1 pkr_2 pkr_3 pkr_4 pkr_5 pkr_6 pkr_7 pkr_8 pkr_0f pkr_1f pkr_2f pkr_3f pkr_4f pkr_5f pkr_6f pkr_7f pkr_8f pk1_0 pk1_1 pk1_0f pk1_1f
    generalize w1.alloc (.cells #[.int .i64 L.length, .slice A1 n1 c1] 28) = u2 at *
    generalize w1.heap.size = g2 at *
    refine (H2.out _ A1 n1 c1 v1).mono ?_
    rintro e w2 ⟨A2, n2, c2, rfl, v2, hC⟩
    dsimp only at v2 ⊢
    replace kb := kb.on hC; replace kr := kr.on hC; replace k1 := k1.on hC; replace v1 := v1.on hC; replace bc := bc.trans (hC.mono bc.size); clear hC
    have z_k2_kb := kb.lt
    have z_k2_kr := kr.lt
    have z_k2_k1 := k1.lt
    have zb_k2 := bc.size
    have k2 := Blk.new w2 28 #[.int .i64 0, .slice A2 n2 c2]
    have al := Below.al w2 (.cells #[.int .i64 0, .slice A2 n2 c2] 28)
    replace kb := kb.on al; replace kr := kr.on al; replace k1 := k1.on al; replace v1 := v1.on al; replace v2 := v2.on al; replace bc := bc.trans (al.mono bc.size); clear al
    have hst := run_storeVar_row (P := Tryd.prog) (w2.alloc (.cells #[.int .i64 0, .slice A2 n2 c2] 28)) (w.heap.size + 1) 26 26 _ #[.int .i64 0, .int .i64 0, .int .i64 0, .int .i64 0, .int .i64 0, .int .i64 0, .int .i64 0, .int .i64 0, .slice none 0 0] kr info26 rfl (by simp [Value.oneCell'])
    simp [go_sem, z_k2_kr] at hst
    have hG := only_setRow (w2.alloc (.cells #[.int .i64 0, .slice A2 n2 c2] 28)) (w.heap.size + 1) #[.int .i64 0, .int .i64 0, .int .i64 0, .int .i64 0, .int .i64 0, .int .i64 0, .int .i64 0, .int .i64 0, .slice none 0 0]
    replace kb := kb.grown hG (some_ne (by omega)); replace k1 := k1.grown hG (some_ne (by omega)); replace k2 := k2.grown hG (some_ne (by omega)); replace v1 := v1.off kr (no_u8_9 _ _ _ _ _ _ _ _ _ _ _) hG; replace v2 := v2.off kr (no_u8_9 _ _ _ _ _ _ _ _ _ _ _) hG; replace bc := Below.off bc bc.size (by omega) hG; replace kr := Blk.row kr #[.int .i64 0, .int .i64 0, .int .i64 0, .int .i64 0, .int .i64 0, .int .i64 0, .int .i64 0, .int .i64 0, .slice none 0 0]; clear hG
    go_wp2
    obtain ⟨xkr_0, xkr_1, xkr_2, xkr_3, xkr_4, xkr_5, xkr_6, xkr_7, xkr_8⟩ := kr.nine
    obtain ⟨xkr_0f, xkr_1f, xkr_2f, xkr_3f, xkr_4f, xkr_5f, xkr_6f, xkr_7f, xkr_8f⟩ := kr.nineF
    exact bodyPost_ret (v := .tuple #[.agg #[.int .i64 0, .int .i64 0, .int .i64 0, .int .i64 0, .int .i64 0, .int .i64 0, .int .i64 0, .int .i64 0, .slice none 0 0], .int .i64 21]) (by simp [results, Tryd.results56, go_sem, xkr_0, xkr_1, xkr_2, xkr_3, xkr_4, xkr_5, xkr_6, xkr_7, xkr_8]) rfl ⟨none, 0, 0, by rw [HZ.out]; rfl, by rw [HZ.out]; rfl, by rw [HZ.out]; exact Byt.none _, bc⟩
  simp only [if_pos g1] at h2
  rw [show decide (rem 0 L = 0) = true by simpa using g1] at hZ
  clear g1
  have HR := Lib.hid hreq; have H1 := Lib.hid h1; have H3 := Lib.hid h3; clear hreq h1 h3
  have H2 := Lib.hid h2; clear h2
  by_cases hm : mayC ⟨C0, C1, C2, C3, C4⟩ 8 = true
  · simp only [if_pos hm] at h6
    have hz : Z = (0, ⟨3, v, ⟨C0, C1, C2, C3, C4⟩, 0, []⟩) := by rw [hZ]; simp [hm]
    have HZ := Lib.hid hz; have H6 := Lib.hid h6; clear h6 hz hZ hm
    obtain ⟨kb, kr, bc⟩ := bx2 w #[.int .i64 L.length, .slice A n c] #[.int .i64 0, .int .i64 0, .int .i64 0, .int .i64 0, .int .i64 0, .int .i64 0, .int .i64 0, .int .i64 0, .slice none 0 0] 28 26
    go_enter Tryd.func56, Tryd.ntmps56
    go_wp2_with fail
    generalize (w.alloc (.cells #[.int .i64 L.length, .slice A n c] 28)).alloc (.cells #[.int .i64 0, .int .i64 0, .int .i64 0, .int .i64 0, .int .i64 0, .int .i64 0, .int .i64 0, .int .i64 0, .slice none 0 0] 26) = u1 at *
    refine (H1.out _ bc).mono ?_
    rintro e w1 ⟨A1, n1, c1, rfl, v1, hC⟩
    dsimp only at v1 ⊢
    replace kb := kb.on hC; replace kr := kr.on hC; replace bc := bc.trans (hC.mono bc.size); clear hC
    have z_k1_kb := kb.lt
    have z_k1_kr := kr.lt
    have zb_k1 := bc.size
    have k1 := Blk.new w1 28 #[.int .i64 L.length, .slice A1 n1 c1]
    have al := Below.al w1 (.cells #[.int .i64 L.length, .slice A1 n1 c1] 28)
    replace kb := kb.on al; replace kr := kr.on al; replace v1 := v1.on al; replace bc := bc.trans (al.mono bc.size); clear al
    obtain ⟨pkb_0, pkb_1, pkb_0f, pkb_1f⟩ := kb.two
    obtain ⟨pkr_0, pkr_1, pkr_2, pkr_3, pkr_4, pkr_5, pkr_6, pkr_7, pkr_8⟩ := kr.nine
    obtain ⟨pkr_0f, pkr_1f, pkr_2f, pkr_3f, pkr_4f, pkr_5f, pkr_6f, pkr_7f, pkr_8f⟩ := kr.nineF
    obtain ⟨pk1_0, pk1_1, pk1_0f, pk1_1f⟩ := k1.two
    go_wp2_with fail
    clear pkb_0 pkb_1 pkb_0f pkb_1f pkr_0 pkr_1 pkr_2 pkr_3 pkr_4 pkr_5 pkr_6 pkr_7 pkr_8 pkr_0f pkr_1f pkr_2f pkr_3f pkr_4f pkr_5f pkr_6f pkr_7f pkr_8f pk1_0 pk1_1 pk1_0f pk1_1f
    generalize w1.alloc (.cells #[.int .i64 L.length, .slice A1 n1 c1] 28) = u2 at *
    generalize w1.heap.size = g2 at *
    refine (H2.out _ A1 n1 c1 v1).mono ?_
    rintro e w2 ⟨A2, n2, c2, rfl, v2, hC⟩
    dsimp only at v2 ⊢
    replace kb := kb.on hC; replace kr := kr.on hC; replace k1 := k1.on hC; replace v1 := v1.on hC; replace bc := bc.trans (hC.mono bc.size); clear hC
    have z_k2_kb := kb.lt
    have z_k2_kr := kr.lt
    have z_k2_k1 := k1.lt
    have zb_k2 := bc.size
    have k2 := Blk.new w2 28 #[.int .i64 P.length, .slice A2 n2 c2]
    have al := Below.al w2 (.cells #[.int .i64 P.length, .slice A2 n2 c2] 28)
    replace kb := kb.on al; replace kr := kr.on al; replace k1 := k1.on al; replace v1 := v1.on al; replace v2 := v2.on al; replace bc := bc.trans (al.mono bc.size); clear al
    obtain ⟨pkb_0, pkb_1, pkb_0f, pkb_1f⟩ := kb.two
    obtain ⟨pkr_0, pkr_1, pkr_2, pkr_3, pkr_4, pkr_5, pkr_6, pkr_7, pkr_8⟩ := kr.nine
    obtain ⟨pkr_0f, pkr_1f, pkr_2f, pkr_3f, pkr_4f, pkr_5f, pkr_6f, pkr_7f, pkr_8f⟩ := kr.nineF
    obtain ⟨pk1_0, pk1_1, pk1_0f, pk1_1f⟩ := k1.two
    obtain ⟨pk2_0, pk2_1, pk2_0f, pk2_1f⟩ := k2.two
    go_wp2_with fail
    clear pkb_0 pkb_1 pkb_0f pkb_1f pkr_0 pkr_1 pkr_2 pkr_3 pkr_4 pkr_5 pkr_6 pkr_7 pkr_8 pkr_0f pkr_1f pkr_2f pkr_3f pkr_4f pkr_5f pkr_6f pkr_7f pkr_8f pk1_0 pk1_1 pk1_0f pk1_1f pk2_0 pk2_1 pk2_0f pk2_1f
    generalize w2.alloc (.cells #[.int .i64 P.length, .slice A2 n2 c2] 28) = u3 at *
    generalize w2.heap.size = g3 at *
    refine (H3.out _ A2 n2 c2 v2).mono ?_
    rintro e w3 ⟨A3, n3, c3, rfl, v3, hC⟩
    dsimp only at v3 ⊢
    replace kb := kb.on hC; replace kr := kr.on hC; replace k1 := k1.on hC; replace k2 := k2.on hC; replace v1 := v1.on hC; replace v2 := v2.on hC; replace bc := bc.trans (hC.mono bc.size); clear hC
    have z_k3_kb := kb.lt
    have z_k3_kr := kr.lt
    have z_k3_k1 := k1.lt
    have z_k3_k2 := k2.lt
    have zb_k3 := bc.size
    have k3 := Blk.new w3 28 #[.int .i64 U.length, .slice A3 n3 c3]
    have al := Below.al w3 (.cells #[.int .i64 U.length, .slice A3 n3 c3] 28)
    replace kb := kb.on al; replace kr := kr.on al; replace k1 := k1.on al; replace k2 := k2.on al; replace v1 := v1.on al; replace v2 := v2.on al; replace v3 := v3.on al; replace bc := bc.trans (al.mono bc.size); clear al
    obtain ⟨pkb_0, pkb_1, pkb_0f, pkb_1f⟩ := kb.two
    obtain ⟨pkr_0, pkr_1, pkr_2, pkr_3, pkr_4, pkr_5, pkr_6, pkr_7, pkr_8⟩ := kr.nine
    obtain ⟨pkr_0f, pkr_1f, pkr_2f, pkr_3f, pkr_4f, pkr_5f, pkr_6f, pkr_7f, pkr_8f⟩ := kr.nineF
    obtain ⟨pk1_0, pk1_1, pk1_0f, pk1_1f⟩ := k1.two
    obtain ⟨pk2_0, pk2_1, pk2_0f, pk2_1f⟩ := k2.two
    obtain ⟨pk3_0, pk3_1, pk3_0f, pk3_1f⟩ := k3.two
    go_wp2_with fail
    clear pkb_0 pkb_1 pkb_0f pkb_1f pkr_0 pkr_1 pkr_2 pkr_3 pkr_4 pkr_5 pkr_6 pkr_7 pkr_8 pkr_0f pkr_1f pkr_2f pkr_3f pkr_4f pkr_5f pkr_6f pkr_7f pkr_8f pk1_0 pk1_1 pk1_0f pk1_1f pk2_0 pk2_1 pk2_0f pk2_1f pk3_0 pk3_1 pk3_0f pk3_1f
    generalize w3.alloc (.cells #[.int .i64 U.length, .slice A3 n3 c3] 28) = u4 at *
    generalize w3.heap.size = g4 at *
    refine (HR.out _ bc).mono ?_
    rintro e w4 ⟨rfl, hC⟩
    dsimp only
    replace kb := kb.on hC; replace kr := kr.on hC; replace k1 := k1.on hC; replace k2 := k2.on hC; replace k3 := k3.on hC; replace v1 := v1.on hC; replace v2 := v2.on hC; replace v3 := v3.on hC; replace bc := bc.trans (hC.mono bc.size); clear hC
    have z_kf_kb := kb.lt
    have z_kf_kr := kr.lt
    have z_kf_k1 := k1.lt
    have z_kf_k2 := k2.lt
    have z_kf_k3 := k3.lt
    have zb_kf := bc.size
    have kf := Blk.new w4 26 #[.int .i64 3, .int .i64 v, .int .i64 0, .int .i64 0, .int .i64 0, .int .i64 0, .int .i64 0, .int .i64 0, .slice none 0 0]
    have al := Below.al w4 (.cells #[.int .i64 3, .int .i64 v, .int .i64 0, .int .i64 0, .int .i64 0, .int .i64 0, .int .i64 0, .int .i64 0, .slice none 0 0] 26)
    replace kb := kb.on al; replace kr := kr.on al; replace k1 := k1.on al; replace k2 := k2.on al; replace k3 := k3.on al; replace v1 := v1.on al; replace v2 := v2.on al; replace v3 := v3.on al; replace bc := bc.trans (al.mono bc.size); clear al
    obtain ⟨pkb_0, pkb_1, pkb_0f, pkb_1f⟩ := kb.two
    obtain ⟨pkr_0, pkr_1, pkr_2, pkr_3, pkr_4, pkr_5, pkr_6, pkr_7, pkr_8⟩ := kr.nine
    obtain ⟨pkr_0f, pkr_1f, pkr_2f, pkr_3f, pkr_4f, pkr_5f, pkr_6f, pkr_7f, pkr_8f⟩ := kr.nineF
    obtain ⟨pk1_0, pk1_1, pk1_0f, pk1_1f⟩ := k1.two
    obtain ⟨pk2_0, pk2_1, pk2_0f, pk2_1f⟩ := k2.two
    obtain ⟨pk3_0, pk3_1, pk3_0f, pk3_1f⟩ := k3.two
    obtain ⟨pkf_0, pkf_1, pkf_2, pkf_3, pkf_4, pkf_5, pkf_6, pkf_7, pkf_8⟩ := kf.nine
    obtain ⟨pkf_0f, pkf_1f, pkf_2f, pkf_3f, pkf_4f, pkf_5f, pkf_6f, pkf_7f, pkf_8f⟩ := kf.nineF
    go_wp2_with fail
    clear pkb_0 pkb_1 pkb_0f pkb_1f pkr_0 pkr_1 pkr_2 pkr_3 pkr_4 pkr_5 pkr_6 pkr_7 pkr_8 pkr_0f pkr_1f pkr_2f pkr_3f pkr_4f pkr_5f pkr_6f pkr_7f pkr_8f pk1_0 pk1_1 pk1_0f pk1_1f pk2_0 pk2_1 pk2_0f pk2_1f pk3_0 pk3_1 pk3_0f pk3_1f pkf_0 pkf_1 pkf_2 pkf_3 pkf_4 pkf_5 pkf_6 pkf_7 pkf_8 pkf_0f pkf_1f pkf_2f pkf_3f pkf_4f pkf_5f pkf_6f pkf_7f pkf_8f
    generalize w4.alloc (.cells #[.int .i64 3, .int .i64 v, .int .i64 0, .int .i64 0, .int .i64 0, .int .i64 0, .int .i64 0, .int .i64 0, .slice none 0 0] 26) = u5 at *
    generalize w4.heap.size = g5 at *
    refine (H6.out _ A3 n3 c3 v3).mono ?_
    rintro e w7 ⟨rfl, hC⟩
    dsimp only
    replace kb := kb.on hC; replace kr := kr.on hC; replace k1 := k1.on hC; replace k2 := k2.on hC; replace k3 := k3.on hC; replace kf := kf.on hC; replace v1 := v1.on hC; replace v2 := v2.on hC; replace v3 := v3.on hC; replace bc := bc.trans (hC.mono bc.size); clear hC
    obtain ⟨okf_0, okf_1, okf_2, okf_3, okf_4, okf_5, okf_6, okf_7, okf_8⟩ := kf.nine
    obtain ⟨okf_0f, okf_1f, okf_2f, okf_3f, okf_4f, okf_5f, okf_6f, okf_7f, okf_8f⟩ := kf.nineF
    have hG := st5_2 w7 (g5) (.int .i64 C0) (.int .i64 C1) (.int .i64 C2) (.int .i64 C3) (.int .i64 C4)
    replace kb := kb.grown hG (some_ne (by omega)); replace kr := kr.grown hG (some_ne (by omega)); replace k1 := k1.grown hG (some_ne (by omega)); replace k2 := k2.grown hG (some_ne (by omega)); replace k3 := k3.grown hG (some_ne (by omega)); replace v1 := v1.off kf (no_u8_9 _ _ _ _ _ _ _ _ _ _ _) hG; replace v2 := v2.off kf (no_u8_9 _ _ _ _ _ _ _ _ _ _ _) hG; replace v3 := v3.off kf (no_u8_9 _ _ _ _ _ _ _ _ _ _ _) hG; replace bc := Below.off bc bc.size (by omega) hG; replace kf := kf.put5_2 (.int .i64 C0) (.int .i64 C1) (.int .i64 C2) (.int .i64 C3) (.int .i64 C4); clear hG
    have z_kc_kb := kb.lt
    have z_kc_kr := kr.lt
    have z_kc_k1 := k1.lt
    have z_kc_k2 := k2.lt
    have z_kc_k3 := k3.lt
    have z_kc_kf := kf.lt
    have zb_kc := bc.size
    have kc := Blk.new (((((w7.setCell ⟨g5, 2, none⟩ (.int .i64 C0)).setCell ⟨g5, 3, none⟩ (.int .i64 C1)).setCell ⟨g5, 4, none⟩ (.int .i64 C2)).setCell ⟨g5, 5, none⟩ (.int .i64 C3)).setCell ⟨g5, 6, none⟩ (.int .i64 C4)) 23 #[.int .i64 C0, .int .i64 C1, .int .i64 C2, .int .i64 C3, .int .i64 C4]
    have hsz : (((((w7.setCell ⟨g5, 2, none⟩ (.int .i64 C0)).setCell ⟨g5, 3, none⟩ (.int .i64 C1)).setCell ⟨g5, 4, none⟩ (.int .i64 C2)).setCell ⟨g5, 5, none⟩ (.int .i64 C3)).setCell ⟨g5, 6, none⟩ (.int .i64 C4)).heap.size = w7.heap.size := (by first | rfl | simp)
    rw [hsz] at kc z_kc_kb z_kc_kr z_kc_k1 z_kc_k2 z_kc_k3 z_kc_kf zb_kc
    clear hsz
    have al := Below.al (((((w7.setCell ⟨g5, 2, none⟩ (.int .i64 C0)).setCell ⟨g5, 3, none⟩ (.int .i64 C1)).setCell ⟨g5, 4, none⟩ (.int .i64 C2)).setCell ⟨g5, 5, none⟩ (.int .i64 C3)).setCell ⟨g5, 6, none⟩ (.int .i64 C4)) (.cells #[.int .i64 C0, .int .i64 C1, .int .i64 C2, .int .i64 C3, .int .i64 C4] 23)
    replace kb := kb.on al; replace kr := kr.on al; replace k1 := k1.on al; replace k2 := k2.on al; replace k3 := k3.on al; replace kf := kf.on al; replace v1 := v1.on al; replace v2 := v2.on al; replace v3 := v3.on al; replace bc := bc.trans (al.mono bc.size); clear al
    obtain ⟨⟨ykc_0, ykc_1, ykc_2, ykc_3, ykc_4⟩, ykc_0f, ykc_1f, ykc_2f, ykc_3f, ykc_4f⟩ := kc.five
    obtain ⟨ykf_0, ykf_1, ykf_2, ykf_3, ykf_4, ykf_5, ykf_6, ykf_7, ykf_8⟩ := kf.nine
    obtain ⟨ykf_0f, ykf_1f, ykf_2f, ykf_3f, ykf_4f, ykf_5f, ykf_6f, ykf_7f, ykf_8f⟩ := kf.nineF
    have hst := run_storeVar_row (P := Tryd.prog) ((((((w7.setCell ⟨g5, 2, none⟩ (.int .i64 C0)).setCell ⟨g5, 3, none⟩ (.int .i64 C1)).setCell ⟨g5, 4, none⟩ (.int .i64 C2)).setCell ⟨g5, 5, none⟩ (.int .i64 C3)).setCell ⟨g5, 6, none⟩ (.int .i64 C4)).alloc (.cells #[.int .i64 C0, .int .i64 C1, .int .i64 C2, .int .i64 C3, .int .i64 C4] 23)) (w.heap.size + 1) 26 26 _ #[.int .i64 3, .int .i64 v, .int .i64 C0, .int .i64 C1, .int .i64 C2, .int .i64 C3, .int .i64 C4, .int .i64 0, .slice none 0 0] kr info26 rfl (by simp [Value.oneCell'])
    simp [go_sem, z_kc_kr] at hst
    have hG := only_setRow ((((((w7.setCell ⟨g5, 2, none⟩ (.int .i64 C0)).setCell ⟨g5, 3, none⟩ (.int .i64 C1)).setCell ⟨g5, 4, none⟩ (.int .i64 C2)).setCell ⟨g5, 5, none⟩ (.int .i64 C3)).setCell ⟨g5, 6, none⟩ (.int .i64 C4)).alloc (.cells #[.int .i64 C0, .int .i64 C1, .int .i64 C2, .int .i64 C3, .int .i64 C4] 23)) (w.heap.size + 1) #[.int .i64 3, .int .i64 v, .int .i64 C0, .int .i64 C1, .int .i64 C2, .int .i64 C3, .int .i64 C4, .int .i64 0, .slice none 0 0]
    replace kb := kb.grown hG (some_ne (by omega)); replace k1 := k1.grown hG (some_ne (by omega)); replace k2 := k2.grown hG (some_ne (by omega)); replace k3 := k3.grown hG (some_ne (by omega)); replace kf := kf.grown hG (some_ne (by omega)); replace kc := kc.grown hG (some_ne (by omega)); replace v1 := v1.off kr (no_u8_9 _ _ _ _ _ _ _ _ _ _ _) hG; replace v2 := v2.off kr (no_u8_9 _ _ _ _ _ _ _ _ _ _ _) hG; replace v3 := v3.off kr (no_u8_9 _ _ _ _ _ _ _ _ _ _ _) hG; replace bc := Below.off bc bc.size (by omega) hG; replace kr := Blk.row kr #[.int .i64 3, .int .i64 v, .int .i64 C0, .int .i64 C1, .int .i64 C2, .int .i64 C3, .int .i64 C4, .int .i64 0, .slice none 0 0]; clear hG
    go_wp2
    obtain ⟨xkr_0, xkr_1, xkr_2, xkr_3, xkr_4, xkr_5, xkr_6, xkr_7, xkr_8⟩ := kr.nine
    obtain ⟨xkr_0f, xkr_1f, xkr_2f, xkr_3f, xkr_4f, xkr_5f, xkr_6f, xkr_7f, xkr_8f⟩ := kr.nineF
    exact bodyPost_ret (v := .tuple #[.agg #[.int .i64 3, .int .i64 v, .int .i64 C0, .int .i64 C1, .int .i64 C2, .int .i64 C3, .int .i64 C4, .int .i64 0, .slice none 0 0], .int .i64 0]) (by simp [results, Tryd.results56, go_sem, xkr_0, xkr_1, xkr_2, xkr_3, xkr_4, xkr_5, xkr_6, xkr_7, xkr_8]) rfl ⟨none, 0, 0, by rw [HZ.out]; rfl, by rw [HZ.out]; rfl, by rw [HZ.out]; exact Byt.none _, bc⟩
  · simp only [if_neg hm] at h6
    have hz : Z = (51, zeroF) := by rw [hZ]; simp [hm]
    have HZ := Lib.hid hz; have H6 := Lib.hid h6; clear h6 hz hZ hm
    obtain ⟨kb, kr, bc⟩ := bx2 w #[.int .i64 L.length, .slice A n c] #[.int .i64 0, .int .i64 0, .int .i64 0, .int .i64 0, .int .i64 0, .int .i64 0, .int .i64 0, .int .i64 0, .slice none 0 0] 28 26
    go_enter Tryd.func56, Tryd.ntmps56
    go_wp2_with fail
    generalize (w.alloc (.cells #[.int .i64 L.length, .slice A n c] 28)).alloc (.cells #[.int .i64 0, .int .i64 0, .int .i64 0, .int .i64 0, .int .i64 0, .int .i64 0, .int .i64 0, .int .i64 0, .slice none 0 0] 26) = u1 at *
    refine (H1.out _ bc).mono ?_
    rintro e w1 ⟨A1, n1, c1, rfl, v1, hC⟩
    dsimp only at v1 ⊢
    replace kb := kb.on hC; replace kr := kr.on hC; replace bc := bc.trans (hC.mono bc.size); clear hC
    have z_k1_kb := kb.lt
    have z_k1_kr := kr.lt
    have zb_k1 := bc.size
    have k1 := Blk.new w1 28 #[.int .i64 L.length, .slice A1 n1 c1]
    have al := Below.al w1 (.cells #[.int .i64 L.length, .slice A1 n1 c1] 28)
    replace kb := kb.on al; replace kr := kr.on al; replace v1 := v1.on al; replace bc := bc.trans (al.mono bc.size); clear al
    obtain ⟨pkb_0, pkb_1, pkb_0f, pkb_1f⟩ := kb.two
    obtain ⟨pkr_0, pkr_1, pkr_2, pkr_3, pkr_4, pkr_5, pkr_6, pkr_7, pkr_8⟩ := kr.nine
    obtain ⟨pkr_0f, pkr_1f, pkr_2f, pkr_3f, pkr_4f, pkr_5f, pkr_6f, pkr_7f, pkr_8f⟩ := kr.nineF
    obtain ⟨pk1_0, pk1_1, pk1_0f, pk1_1f⟩ := k1.two
    go_wp2_with fail
    clear pkb_0 pkb_1 pkb_0f pkb_1f pkr_0 pkr_1 pkr_2 pkr_3 pkr_4 pkr_5 pkr_6 pkr_7 pkr_8 pkr_0f pkr_1f pkr_2f pkr_3f pkr_4f pkr_5f pkr_6f pkr_7f pkr_8f pk1_0 pk1_1 pk1_0f pk1_1f
    generalize w1.alloc (.cells #[.int .i64 L.length, .slice A1 n1 c1] 28) = u2 at *
    generalize w1.heap.size = g2 at *
    refine (H2.out _ A1 n1 c1 v1).mono ?_
    rintro e w2 ⟨A2, n2, c2, rfl, v2, hC⟩
    dsimp only at v2 ⊢
    replace kb := kb.on hC; replace kr := kr.on hC; replace k1 := k1.on hC; replace v1 := v1.on hC; replace bc := bc.trans (hC.mono bc.size); clear hC
    have z_k2_kb := kb.lt
    have z_k2_kr := kr.lt
    have z_k2_k1 := k1.lt
    have zb_k2 := bc.size
    have k2 := Blk.new w2 28 #[.int .i64 P.length, .slice A2 n2 c2]
    have al := Below.al w2 (.cells #[.int .i64 P.length, .slice A2 n2 c2] 28)
    replace kb := kb.on al; replace kr := kr.on al; replace k1 := k1.on al; replace v1 := v1.on al; replace v2 := v2.on al; replace bc := bc.trans (al.mono bc.size); clear al
    obtain ⟨pkb_0, pkb_1, pkb_0f, pkb_1f⟩ := kb.two
    obtain ⟨pkr_0, pkr_1, pkr_2, pkr_3, pkr_4, pkr_5, pkr_6, pkr_7, pkr_8⟩ := kr.nine
    obtain ⟨pkr_0f, pkr_1f, pkr_2f, pkr_3f, pkr_4f, pkr_5f, pkr_6f, pkr_7f, pkr_8f⟩ := kr.nineF
    obtain ⟨pk1_0, pk1_1, pk1_0f, pk1_1f⟩ := k1.two
    obtain ⟨pk2_0, pk2_1, pk2_0f, pk2_1f⟩ := k2.two
    go_wp2_with fail
    clear pkb_0 pkb_1 pkb_0f pkb_1f pkr_0 pkr_1 pkr_2 pkr_3 pkr_4 pkr_5 pkr_6 pkr_7 pkr_8 pkr_0f pkr_1f pkr_2f pkr_3f pkr_4f pkr_5f pkr_6f pkr_7f pkr_8f pk1_0 pk1_1 pk1_0f pk1_1f pk2_0 pk2_1 pk2_0f pk2_1f
    generalize w2.alloc (.cells #[.int .i64 P.length, .slice A2 n2 c2] 28) = u3 at *
    generalize w2.heap.size = g3 at *
    refine (H3.out _ A2 n2 c2 v2).mono ?_
    rintro e w3 ⟨A3, n3, c3, rfl, v3, hC⟩
    dsimp only at v3 ⊢
    replace kb := kb.on hC; replace kr := kr.on hC; replace k1 := k1.on hC; replace k2 := k2.on hC; replace v1 := v1.on hC; replace v2 := v2.on hC; replace bc := bc.trans (hC.mono bc.size); clear hC
    have z_k3_kb := kb.lt
    have z_k3_kr := kr.lt
    have z_k3_k1 := k1.lt
    have z_k3_k2 := k2.lt
    have zb_k3 := bc.size
    have k3 := Blk.new w3 28 #[.int .i64 U.length, .slice A3 n3 c3]
    have al := Below.al w3 (.cells #[.int .i64 U.length, .slice A3 n3 c3] 28)
    replace kb := kb.on al; replace kr := kr.on al; replace k1 := k1.on al; replace k2 := k2.on al; replace v1 := v1.on al; replace v2 := v2.on al; replace v3 := v3.on al; replace bc := bc.trans (al.mono bc.size); clear al
    obtain ⟨pkb_0, pkb_1, pkb_0f, pkb_1f⟩ := kb.two
    obtain ⟨pkr_0, pkr_1, pkr_2, pkr_3, pkr_4, pkr_5, pkr_6, pkr_7, pkr_8⟩ := kr.nine
    obtain ⟨pkr_0f, pkr_1f, pkr_2f, pkr_3f, pkr_4f, pkr_5f, pkr_6f, pkr_7f, pkr_8f⟩ := kr.nineF
    obtain ⟨pk1_0, pk1_1, pk1_0f, pk1_1f⟩ := k1.two
    obtain ⟨pk2_0, pk2_1, pk2_0f, pk2_1f⟩ := k2.two
    obtain ⟨pk3_0, pk3_1, pk3_0f, pk3_1f⟩ := k3.two
    go_wp2_with fail
    clear pkb_0 pkb_1 pkb_0f pkb_1f pkr_0 pkr_1 pkr_2 pkr_3 pkr_4 pkr_5 pkr_6 pkr_7 pkr_8 pkr_0f pkr_1f pkr_2f pkr_3f pkr_4f pkr_5f pkr_6f pkr_7f pkr_8f pk1_0 pk1_1 pk1_0f pk1_1f pk2_0 pk2_1 pk2_0f pk2_1f pk3_0 pk3_1 pk3_0f pk3_1f
    generalize w3.alloc (.cells #[.int .i64 U.length, .slice A3 n3 c3] 28) = u4 at *
    generalize w3.heap.size = g4 at *
    refine (HR.out _ bc).mono ?_
    rintro e w4 ⟨rfl, hC⟩
    dsimp only
    replace kb := kb.on hC; replace kr := kr.on hC; replace k1 := k1.on hC; replace k2 := k2.on hC; replace k3 := k3.on hC; replace v1 := v1.on hC; replace v2 := v2.on hC; replace v3 := v3.on hC; replace bc := bc.trans (hC.mono bc.size); clear hC
    have z_kf_kb := kb.lt
    have z_kf_kr := kr.lt
    have z_kf_k1 := k1.lt
    have z_kf_k2 := k2.lt
    have z_kf_k3 := k3.lt
    have zb_kf := bc.size
    have kf := Blk.new w4 26 #[.int .i64 3, .int .i64 v, .int .i64 0, .int .i64 0, .int .i64 0, .int .i64 0, .int .i64 0, .int .i64 0, .slice none 0 0]
    have al := Below.al w4 (.cells #[.int .i64 3, .int .i64 v, .int .i64 0, .int .i64 0, .int .i64 0, .int .i64 0, .int .i64 0, .int .i64 0, .slice none 0 0] 26)
    replace kb := kb.on al; replace kr := kr.on al; replace k1 := k1.on al; replace k2 := k2.on al; replace k3 := k3.on al; replace v1 := v1.on al; replace v2 := v2.on al; replace v3 := v3.on al; replace bc := bc.trans (al.mono bc.size); clear al
    obtain ⟨pkb_0, pkb_1, pkb_0f, pkb_1f⟩ := kb.two
    obtain ⟨pkr_0, pkr_1, pkr_2, pkr_3, pkr_4, pkr_5, pkr_6, pkr_7, pkr_8⟩ := kr.nine
    obtain ⟨pkr_0f, pkr_1f, pkr_2f, pkr_3f, pkr_4f, pkr_5f, pkr_6f, pkr_7f, pkr_8f⟩ := kr.nineF
    obtain ⟨pk1_0, pk1_1, pk1_0f, pk1_1f⟩ := k1.two
    obtain ⟨pk2_0, pk2_1, pk2_0f, pk2_1f⟩ := k2.two
    obtain ⟨pk3_0, pk3_1, pk3_0f, pk3_1f⟩ := k3.two
    obtain ⟨pkf_0, pkf_1, pkf_2, pkf_3, pkf_4, pkf_5, pkf_6, pkf_7, pkf_8⟩ := kf.nine
    obtain ⟨pkf_0f, pkf_1f, pkf_2f, pkf_3f, pkf_4f, pkf_5f, pkf_6f, pkf_7f, pkf_8f⟩ := kf.nineF
    go_wp2_with fail
    clear pkb_0 pkb_1 pkb_0f pkb_1f pkr_0 pkr_1 pkr_2 pkr_3 pkr_4 pkr_5 pkr_6 pkr_7 pkr_8 pkr_0f pkr_1f pkr_2f pkr_3f pkr_4f pkr_5f pkr_6f pkr_7f pkr_8f pk1_0 pk1_1 pk1_0f pk1_1f pk2_0 pk2_1 pk2_0f pk2_1f pk3_0 pk3_1 pk3_0f pk3_1f pkf_0 pkf_1 pkf_2 pkf_3 pkf_4 pkf_5 pkf_6 pkf_7 pkf_8 pkf_0f pkf_1f pkf_2f pkf_3f pkf_4f pkf_5f pkf_6f pkf_7f pkf_8f
    generalize w4.alloc (.cells #[.int .i64 3, .int .i64 v, .int .i64 0, .int .i64 0, .int .i64 0, .int .i64 0, .int .i64 0, .int .i64 0, .slice none 0 0] 26) = u5 at *
    generalize w4.heap.size = g5 at *
    refine (H6.out _ A3 n3 c3 v3).mono ?_
    rintro e w7 ⟨rfl, hC⟩
    dsimp only
    replace kb := kb.on hC; replace kr := kr.on hC; replace k1 := k1.on hC; replace k2 := k2.on hC; replace k3 := k3.on hC; replace kf := kf.on hC; replace v1 := v1.on hC; replace v2 := v2.on hC; replace v3 := v3.on hC; replace bc := bc.trans (hC.mono bc.size); clear hC
    unfold zeroC
    have z_kc_kb := kb.lt
    have z_kc_kr := kr.lt
    have z_kc_k1 := k1.lt
    have z_kc_k2 := k2.lt
    have z_kc_k3 := k3.lt
    have z_kc_kf := kf.lt
    have zb_kc := bc.size
    have kc := Blk.new w7 23 #[.int .i64 0, .int .i64 0, .int .i64 0, .int .i64 0, .int .i64 0]
    have al := Below.al w7 (.cells #[.int .i64 0, .int .i64 0, .int .i64 0, .int .i64 0, .int .i64 0] 23)
    replace kb := kb.on al; replace kr := kr.on al; replace k1 := k1.on al; replace k2 := k2.on al; replace k3 := k3.on al; replace kf := kf.on al; replace v1 := v1.on al; replace v2 := v2.on al; replace v3 := v3.on al; replace bc := bc.trans (al.mono bc.size); clear al
    have hst := run_storeVar_row (P := Tryd.prog) (w7.alloc (.cells #[.int .i64 0, .int .i64 0, .int .i64 0, .int .i64 0, .int .i64 0] 23)) (w.heap.size + 1) 26 26 _ #[.int .i64 0, .int .i64 0, .int .i64 0, .int .i64 0, .int .i64 0, .int .i64 0, .int .i64 0, .int .i64 0, .slice none 0 0] kr info26 rfl (by simp [Value.oneCell'])
    simp [go_sem, z_kc_kr] at hst
    have hG := only_setRow (w7.alloc (.cells #[.int .i64 0, .int .i64 0, .int .i64 0, .int .i64 0, .int .i64 0] 23)) (w.heap.size + 1) #[.int .i64 0, .int .i64 0, .int .i64 0, .int .i64 0, .int .i64 0, .int .i64 0, .int .i64 0, .int .i64 0, .slice none 0 0]
    replace kb := kb.grown hG (some_ne (by omega)); replace k1 := k1.grown hG (some_ne (by omega)); replace k2 := k2.grown hG (some_ne (by omega)); replace k3 := k3.grown hG (some_ne (by omega)); replace kf := kf.grown hG (some_ne (by omega)); replace kc := kc.grown hG (some_ne (by omega)); replace v1 := v1.off kr (no_u8_9 _ _ _ _ _ _ _ _ _ _ _) hG; replace v2 := v2.off kr (no_u8_9 _ _ _ _ _ _ _ _ _ _ _) hG; replace v3 := v3.off kr (no_u8_9 _ _ _ _ _ _ _ _ _ _ _) hG; replace bc := Below.off bc bc.size (by omega) hG; replace kr := Blk.row kr #[.int .i64 0, .int .i64 0, .int .i64 0, .int .i64 0, .int .i64 0, .int .i64 0, .int .i64 0, .int .i64 0, .slice none 0 0]; clear hG
    go_wp2
    obtain ⟨xkr_0, xkr_1, xkr_2, xkr_3, xkr_4, xkr_5, xkr_6, xkr_7, xkr_8⟩ := kr.nine
    obtain ⟨xkr_0f, xkr_1f, xkr_2f, xkr_3f, xkr_4f, xkr_5f, xkr_6f, xkr_7f, xkr_8f⟩ := kr.nineF
    exact bodyPost_ret (v := .tuple #[.agg #[.int .i64 0, .int .i64 0, .int .i64 0, .int .i64 0, .int .i64 0, .int .i64 0, .int .i64 0, .int .i64 0, .slice none 0 0], .int .i64 51]) (by simp [results, Tryd.results56, go_sem, xkr_0, xkr_1, xkr_2, xkr_3, xkr_4, xkr_5, xkr_6, xkr_7, xkr_8]) rfl ⟨none, 0, 0, by rw [HZ.out]; rfl, by rw [HZ.out]; rfl, by rw [HZ.out]; exact Byt.none _, bc⟩
set_option maxRecDepth 8000 in
set_option maxHeartbeats 8000000 in
theorem rstated_4 {w : World} {L : List Bool} {A : Option Addr} {n : Nat} (h : Bv w L A n) (c : Nat) (C0 : CS) (hl : (79 ≤ L.length ∧ L.length ≤ 143 ∧ L.length % 8 = 7)) :
    Calls Tryd.prog 56 #[.agg #[.int .i64 L.length, .slice A n c], .int .i64 4, .int .i64 55] w (ResF w (if sumsL 4 L C0 = true then (if mayC (fieldsOf (stateL 4 L)) 8 = true then (0, toldF 4 L C0) else (51, zeroF)) else (21, zeroF))) := by
  obtain ⟨Z, hZ⟩ : ∃ Z, Z = (if sumsL 4 L C0 = true then (if mayC (fieldsOf (stateL 4 L)) 8 = true then ((0 : Int), toldF 4 L C0) else (51, zeroF)) else (21, zeroF)) := ⟨_, rfl⟩
  rw [← hZ]
  have h1 := fun (W : World) (hb : Below w.heap.size w W) => rslice_list (h.on hb) c (N := L.length) (ai := 0) (bi := 55) (a := 0) (b := 55) rfl rfl rfl (by decide) (by omega)
  rw [List.drop_zero, Nat.sub_zero] at h1
  have h2 := fun (W : World) (B : Option Addr) (m d : Nat) (hv : Bv W (L.take 55) B m) => ropen_list hv (Bv.nil W) d 0 (M := 0) rfl rfl (by rw [List.length_take]; omega)
  simp only [List.nil_append] at h2
  have hfl : (frontOf (L.take 55)).length = 31 := by rw [front_len]; rw [List.length_take]; omega
  have h3 := fun (W : World) (B : Option Addr) (m d : Nat) (hv : Bv W (frontOf (L.take 55)) B m) => rslice_list hv d (N := (frontOf (L.take 55)).length) (ai := 7) (bi := (frontOf (L.take 55)).length) (a := 7) (b := (frontOf (L.take 55)).length) rfl rfl rfl (by omega) (by omega)
  have hst : ((frontOf (L.take 55)).drop 7).take ((frontOf (L.take 55)).length - 7) = stateL 4 L := by rw [hfl, front_drop _ _ _ (by rw [List.length_take]; omega)]; unfold stateL; rw [List.drop_take, List.take_take]; simp
  rw [hst] at h3
  have hsl : (stateL 4 L).length = 24 := by unfold stateL; simp; omega
  have hreq := fun (W : World) (hb : Below w.heap.size w W) => rnumber_list (h.on hb) c (N := L.length) (ai := 2) (Wi := 3) (a := 2) (W := 3) rfl rfl rfl (by decide) (by omega)
  have h4 := fun (W : World) (hb : Below w.heap.size w W) (B : Option Addr) (m d : Nat) (hv : Bv W (stateL 4 L) B m) => ropen_list (h.on hb) hv c d rfl rfl (by omega)
  have h5 := fun (W : World) (B : Option Addr) (m d : Nat) (hv : Bv W (frontOf L) B m) => rdata_at hv d 55 (by rw [front_len]; omega)
  have hdd : (frontOf L).drop 55 = (L.drop 55).take (L.length - 79) := by unfold frontOf; rw [List.drop_take, show L.length - 24 - 55 = L.length - 79 by omega]
  rw [hdd] at h5
  have h6 := fun (W : World) (B : Option Addr) (m d : Nat) (hv : Bv W (stateL 4 L) B m) => rread_list hv d (N := (stateL 4 L).length) rfl hsl
  rw [told_4] at hZ
  have hsm : sumsL 4 L C0 = (decide (rem 0 (L.take 55) = 0) && decide (rem 0 (stateL 4 L ++ L) = 0)) := by simp [sumsL]
  rw [hsm] at hZ
  have hwr : IntKind.i64.wrap (((frontOf (L.take 55)).length : Int) - 24) = 7 := by rw [hfl]; decide
  generalize hP : frontOf (L.take 55) = P at *
  generalize hbd : bytesL ((L.drop 55).take (L.length - 79)) = D at *
  generalize frontOf L = P2 at *
  generalize fieldsOf (stateL 4 L) = C at *
  generalize numOf ((L.drop 2).take 3) = v at *
  obtain ⟨C0, C1, C2, C3, C4⟩ := C
  unfold ResC CS.cells at h6
  clear hst hfl hsl hsm hP hl h hbd hdd
  by_cases g1 : rem 0 (L.take 55) = 0
  rotate_left
  · simp only [if_neg g1] at h2
    have hz : Z = (21, zeroF) := by rw [hZ]; simp [g1]
    have HZ := Lib.hid hz; clear hz hZ g1 h6 h4 h5
    generalize L.take 55 = X1 at *
    generalize stateL 4 L = U at *
    have HR := Lib.hid hreq; have H1 := Lib.hid h1; have H3 := Lib.hid h3; clear hreq h1 h3
    have H2 := Lib.hid h2; clear h2
    obtain ⟨kb, kr, bc⟩ := bx2 w #[.int .i64 L.length, .slice A n c] #[.int .i64 0, .int .i64 0, .int .i64 0, .int .i64 0, .int .i64 0, .int .i64 0, .int .i64 0, .int .i64 0, .slice none 0 0] 28 26
    go_enter Tryd.func56, Tryd.ntmps56
    go_wp2_with fail
    generalize (w.alloc (.cells #[.int .i64 L.length, .slice A n c] 28)).alloc (.cells #[.int .i64 0, .int .i64 0, .int .i64 0, .int .i64 0, .int .i64 0, .int .i64 0, .int .i64 0, .int .i64 0, .slice none 0 0] 26) = u1 at *
    refine (H1.out _ bc).mono ?_
    rintro e w1 ⟨A1, n1, c1, rfl, v1, hC⟩
    dsimp only at v1 ⊢
    replace kb := kb.on hC; replace kr := kr.on hC; replace bc := bc.trans (hC.mono bc.size); clear hC
    have z_k1_kb := kb.lt
    have z_k1_kr := kr.lt
    have zb_k1 := bc.size
    have k1 := Blk.new w1 28 #[.int .i64 X1.length, .slice A1 n1 c1]
    have al := Below.al w1 (.cells #[.int .i64 X1.length, .slice A1 n1 c1] 28)
    replace kb := kb.on al; replace kr := kr.on al; replace v1 := v1.on al; replace bc := bc.trans (al.mono bc.size); clear al
    obtain ⟨pkb_0, pkb_1, pkb_0f, pkb_1f⟩ := kb.two
    obtain ⟨pkr_0, pkr_1, pkr_2, pkr_3, pkr_4, pkr_5, pkr_6, pkr_7, pkr_8⟩ := kr.nine
    obtain ⟨pkr_0f, pkr_1f, pkr_2f, pkr_3f, pkr_4f, pkr_5f, pkr_6f, pkr_7f, pkr_8f⟩ := kr.nineF
    obtain ⟨pk1_0, pk1_1, pk1_0f, pk1_1f⟩ := k1.two
    go_wp2_with fail
    clear pkb_0 pkb_1 pkb_0f pkb_1f pkr_0 pkr_1 pkr_2 pkr_3 pkr_4 pkr_5 pkr_6 pkr_7 pkr_8 pkr_0f pkr_1f pkr_2f pkr_3f pkr_4f pkr_5f pkr_6f pkr_7f pkr_8f pk1_0 pk1_1 pk1_0f pk1_1f
    generalize w1.alloc (.cells #[.int .i64 X1.length, .slice A1 n1 c1] 28) = u2 at *
    generalize w1.heap.size = g2 at *
    refine (H2.out _ A1 n1 c1 v1).mono ?_
    rintro e w2 ⟨A2, n2, c2, rfl, v2, hC⟩
    dsimp only at v2 ⊢
    replace kb := kb.on hC; replace kr := kr.on hC; replace k1 := k1.on hC; replace v1 := v1.on hC; replace bc := bc.trans (hC.mono bc.size); clear hC
    have z_k2_kb := kb.lt
    have z_k2_kr := kr.lt
    have z_k2_k1 := k1.lt
    have zb_k2 := bc.size
    have k2 := Blk.new w2 28 #[.int .i64 0, .slice A2 n2 c2]
    have al := Below.al w2 (.cells #[.int .i64 0, .slice A2 n2 c2] 28)
    replace kb := kb.on al; replace kr := kr.on al; replace k1 := k1.on al; replace v1 := v1.on al; replace v2 := v2.on al; replace bc := bc.trans (al.mono bc.size); clear al
    have hst := run_storeVar_row (P := Tryd.prog) (w2.alloc (.cells #[.int .i64 0, .slice A2 n2 c2] 28)) (w.heap.size + 1) 26 26 _ #[.int .i64 0, .int .i64 0, .int .i64 0, .int .i64 0, .int .i64 0, .int .i64 0, .int .i64 0, .int .i64 0, .slice none 0 0] kr info26 rfl (by simp [Value.oneCell'])
    simp [go_sem, z_k2_kr] at hst
    have hG := only_setRow (w2.alloc (.cells #[.int .i64 0, .slice A2 n2 c2] 28)) (w.heap.size + 1) #[.int .i64 0, .int .i64 0, .int .i64 0, .int .i64 0, .int .i64 0, .int .i64 0, .int .i64 0, .int .i64 0, .slice none 0 0]
    replace kb := kb.grown hG (some_ne (by omega)); replace k1 := k1.grown hG (some_ne (by omega)); replace k2 := k2.grown hG (some_ne (by omega)); replace v1 := v1.off kr (no_u8_9 _ _ _ _ _ _ _ _ _ _ _) hG; replace v2 := v2.off kr (no_u8_9 _ _ _ _ _ _ _ _ _ _ _) hG; replace bc := Below.off bc bc.size (by omega) hG; replace kr := Blk.row kr #[.int .i64 0, .int .i64 0, .int .i64 0, .int .i64 0, .int .i64 0, .int .i64 0, .int .i64 0, .int .i64 0, .slice none 0 0]; clear hG
    go_wp2
    obtain ⟨xkr_0, xkr_1, xkr_2, xkr_3, xkr_4, xkr_5, xkr_6, xkr_7, xkr_8⟩ := kr.nine
    obtain ⟨xkr_0f, xkr_1f, xkr_2f, xkr_3f, xkr_4f, xkr_5f, xkr_6f, xkr_7f, xkr_8f⟩ := kr.nineF
    exact bodyPost_ret (v := .tuple #[.agg #[.int .i64 0, .int .i64 0, .int .i64 0, .int .i64 0, .int .i64 0, .int .i64 0, .int .i64 0, .int .i64 0, .slice none 0 0], .int .i64 21]) (by simp [results, Tryd.results56, go_sem, xkr_0, xkr_1, xkr_2, xkr_3, xkr_4, xkr_5, xkr_6, xkr_7, xkr_8]) rfl ⟨none, 0, 0, by rw [HZ.out]; rfl, by rw [HZ.out]; rfl, by rw [HZ.out]; exact Byt.none _, bc⟩
  simp only [if_pos g1] at h2
  rw [show decide (rem 0 (L.take 55) = 0) = true by simpa using g1] at hZ
  clear g1
  by_cases g2 : rem 0 (stateL 4 L ++ L) = 0
  rotate_left
  · simp only [if_neg g2] at h4
    have hz : Z = (21, zeroF) := by rw [hZ]; simp [g2]
    have HZ := Lib.hid hz; clear hz hZ g2 h6 h5
    generalize L.take 55 = X1 at *
    generalize stateL 4 L = U at *
    have HR := Lib.hid hreq; have H1 := Lib.hid h1; have H3 := Lib.hid h3; clear hreq h1 h3
    have H2 := Lib.hid h2; have H4 := Lib.hid h4; clear h2 h4
    obtain ⟨kb, kr, bc⟩ := bx2 w #[.int .i64 L.length, .slice A n c] #[.int .i64 0, .int .i64 0, .int .i64 0, .int .i64 0, .int .i64 0, .int .i64 0, .int .i64 0, .int .i64 0, .slice none 0 0] 28 26
    go_enter Tryd.func56, Tryd.ntmps56
    go_wp2_with fail
    generalize (w.alloc (.cells #[.int .i64 L.length, .slice A n c] 28)).alloc (.cells #[.int .i64 0, .int .i64 0, .int .i64 0, .int .i64 0, .int .i64 0, .int .i64 0, .int .i64 0, .int .i64 0, .slice none 0 0] 26) = u1 at *
    refine (H1.out _ bc).mono ?_
    rintro e w1 ⟨A1, n1, c1, rfl, v1, hC⟩
    dsimp only at v1 ⊢
    replace kb := kb.on hC; replace kr := kr.on hC; replace bc := bc.trans (hC.mono bc.size); clear hC
    have z_k1_kb := kb.lt
    have z_k1_kr := kr.lt
    have zb_k1 := bc.size
    have k1 := Blk.new w1 28 #[.int .i64 X1.length, .slice A1 n1 c1]
    have al := Below.al w1 (.cells #[.int .i64 X1.length, .slice A1 n1 c1] 28)
    replace kb := kb.on al; replace kr := kr.on al; replace v1 := v1.on al; replace bc := bc.trans (al.mono bc.size); clear al
    obtain ⟨pkb_0, pkb_1, pkb_0f, pkb_1f⟩ := kb.two
    obtain ⟨pkr_0, pkr_1, pkr_2, pkr_3, pkr_4, pkr_5, pkr_6, pkr_7, pkr_8⟩ := kr.nine
    obtain ⟨pkr_0f, pkr_1f, pkr_2f, pkr_3f, pkr_4f, pkr_5f, pkr_6f, pkr_7f, pkr_8f⟩ := kr.nineF
    obtain ⟨pk1_0, pk1_1, pk1_0f, pk1_1f⟩ := k1.two
    go_wp2_with fail
    clear pkb_0 pkb_1 pkb_0f pkb_1f pkr_0 pkr_1 pkr_2 pkr_3 pkr_4 pkr_5 pkr_6 pkr_7 pkr_8 pkr_0f pkr_1f pkr_2f pkr_3f pkr_4f pkr_5f pkr_6f pkr_7f pkr_8f pk1_0 pk1_1 pk1_0f pk1_1f
    generalize w1.alloc (.cells #[.int .i64 X1.length, .slice A1 n1 c1] 28) = u2 at *
    generalize w1.heap.size = g2 at *
    refine (H2.out _ A1 n1 c1 v1).mono ?_
    rintro e w2 ⟨A2, n2, c2, rfl, v2, hC⟩
    dsimp only at v2 ⊢
    replace kb := kb.on hC; replace kr := kr.on hC; replace k1 := k1.on hC; replace v1 := v1.on hC; replace bc := bc.trans (hC.mono bc.size); clear hC
    have z_k2_kb := kb.lt
    have z_k2_kr := kr.lt
    have z_k2_k1 := k1.lt
    have zb_k2 := bc.size
    have k2 := Blk.new w2 28 #[.int .i64 P.length, .slice A2 n2 c2]
    have al := Below.al w2 (.cells #[.int .i64 P.length, .slice A2 n2 c2] 28)
    replace kb := kb.on al; replace kr := kr.on al; replace k1 := k1.on al; replace v1 := v1.on al; replace v2 := v2.on al; replace bc := bc.trans (al.mono bc.size); clear al
    obtain ⟨pkb_0, pkb_1, pkb_0f, pkb_1f⟩ := kb.two
    obtain ⟨pkr_0, pkr_1, pkr_2, pkr_3, pkr_4, pkr_5, pkr_6, pkr_7, pkr_8⟩ := kr.nine
    obtain ⟨pkr_0f, pkr_1f, pkr_2f, pkr_3f, pkr_4f, pkr_5f, pkr_6f, pkr_7f, pkr_8f⟩ := kr.nineF
    obtain ⟨pk1_0, pk1_1, pk1_0f, pk1_1f⟩ := k1.two
    obtain ⟨pk2_0, pk2_1, pk2_0f, pk2_1f⟩ := k2.two
    go_wp2_with fail
    clear pkb_0 pkb_1 pkb_0f pkb_1f pkr_0 pkr_1 pkr_2 pkr_3 pkr_4 pkr_5 pkr_6 pkr_7 pkr_8 pkr_0f pkr_1f pkr_2f pkr_3f pkr_4f pkr_5f pkr_6f pkr_7f pkr_8f pk1_0 pk1_1 pk1_0f pk1_1f pk2_0 pk2_1 pk2_0f pk2_1f
    generalize w2.alloc (.cells #[.int .i64 P.length, .slice A2 n2 c2] 28) = u3 at *
    generalize w2.heap.size = g3 at *
    refine (H3.out _ A2 n2 c2 v2).mono ?_
    rintro e w3 ⟨A3, n3, c3, rfl, v3, hC⟩
    dsimp only at v3 ⊢
    replace kb := kb.on hC; replace kr := kr.on hC; replace k1 := k1.on hC; replace k2 := k2.on hC; replace v1 := v1.on hC; replace v2 := v2.on hC; replace bc := bc.trans (hC.mono bc.size); clear hC
    have z_k3_kb := kb.lt
    have z_k3_kr := kr.lt
    have z_k3_k1 := k1.lt
    have z_k3_k2 := k2.lt
    have zb_k3 := bc.size
    have k3 := Blk.new w3 28 #[.int .i64 U.length, .slice A3 n3 c3]
    have al := Below.al w3 (.cells #[.int .i64 U.length, .slice A3 n3 c3] 28)
    replace kb := kb.on al; replace kr := kr.on al; replace k1 := k1.on al; replace k2 := k2.on al; replace v1 := v1.on al; replace v2 := v2.on al; replace v3 := v3.on al; replace bc := bc.trans (al.mono bc.size); clear al
    obtain ⟨pkb_0, pkb_1, pkb_0f, pkb_1f⟩ := kb.two
    obtain ⟨pkr_0, pkr_1, pkr_2, pkr_3, pkr_4, pkr_5, pkr_6, pkr_7, pkr_8⟩ := kr.nine
    obtain ⟨pkr_0f, pkr_1f, pkr_2f, pkr_3f, pkr_4f, pkr_5f, pkr_6f, pkr_7f, pkr_8f⟩ := kr.nineF
    obtain ⟨pk1_0, pk1_1, pk1_0f, pk1_1f⟩ := k1.two
    obtain ⟨pk2_0, pk2_1, pk2_0f, pk2_1f⟩ := k2.two
    obtain ⟨pk3_0, pk3_1, pk3_0f, pk3_1f⟩ := k3.two
    go_wp2_with fail
    clear pkb_0 pkb_1 pkb_0f pkb_1f pkr_0 pkr_1 pkr_2 pkr_3 pkr_4 pkr_5 pkr_6 pkr_7 pkr_8 pkr_0f pkr_1f pkr_2f pkr_3f pkr_4f pkr_5f pkr_6f pkr_7f pkr_8f pk1_0 pk1_1 pk1_0f pk1_1f pk2_0 pk2_1 pk2_0f pk2_1f pk3_0 pk3_1 pk3_0f pk3_1f
    generalize w3.alloc (.cells #[.int .i64 U.length, .slice A3 n3 c3] 28) = u4 at *
    generalize w3.heap.size = g4 at *
    refine (HR.out _ bc).mono ?_
    rintro e w4 ⟨rfl, hC⟩
    dsimp only
    replace kb := kb.on hC; replace kr := kr.on hC; replace k1 := k1.on hC; replace k2 := k2.on hC; replace k3 := k3.on hC; replace v1 := v1.on hC; replace v2 := v2.on hC; replace v3 := v3.on hC; replace bc := bc.trans (hC.mono bc.size); clear hC
    have z_kf_kb := kb.lt
    have z_kf_kr := kr.lt
    have z_kf_k1 := k1.lt
    have z_kf_k2 := k2.lt
    have z_kf_k3 := k3.lt
    have zb_kf := bc.size
    have kf := Blk.new w4 26 #[.int .i64 4, .int .i64 v, .int .i64 0, .int .i64 0, .int .i64 0, .int .i64 0, .int .i64 0, .int .i64 0, .slice none 0 0]
    have al := Below.al w4 (.cells #[.int .i64 4, .int .i64 v, .int .i64 0, .int .i64 0, .int .i64 0, .int .i64 0, .int .i64 0, .int .i64 0, .slice none 0 0] 26)
    replace kb := kb.on al; replace kr := kr.on al; replace k1 := k1.on al; replace k2 := k2.on al; replace k3 := k3.on al; replace v1 := v1.on al; replace v2 := v2.on al; replace v3 := v3.on al; replace bc := bc.trans (al.mono bc.size); clear al
    obtain ⟨pkb_0, pkb_1, pkb_0f, pkb_1f⟩ := kb.two
    obtain ⟨pkr_0, pkr_1, pkr_2, pkr_3, pkr_4, pkr_5, pkr_6, pkr_7, pkr_8⟩ := kr.nine
    obtain ⟨pkr_0f, pkr_1f, pkr_2f, pkr_3f, pkr_4f, pkr_5f, pkr_6f, pkr_7f, pkr_8f⟩ := kr.nineF
    obtain ⟨pk1_0, pk1_1, pk1_0f, pk1_1f⟩ := k1.two
    obtain ⟨pk2_0, pk2_1, pk2_0f, pk2_1f⟩ := k2.two
    obtain ⟨pk3_0, pk3_1, pk3_0f, pk3_1f⟩ := k3.two
    obtain ⟨pkf_0, pkf_1, pkf_2, pkf_3, pkf_4, pkf_5, pkf_6, pkf_7, pkf_8⟩ := kf.nine
    obtain ⟨pkf_0f, pkf_1f, pkf_2f, pkf_3f, pkf_4f, pkf_5f, pkf_6f, pkf_7f, pkf_8f⟩ := kf.nineF
    go_wp2_with fail
    clear pkb_0 pkb_1 pkb_0f pkb_1f pkr_0 pkr_1 pkr_2 pkr_3 pkr_4 pkr_5 pkr_6 pkr_7 pkr_8 pkr_0f pkr_1f pkr_2f pkr_3f pkr_4f pkr_5f pkr_6f pkr_7f pkr_8f pk1_0 pk1_1 pk1_0f pk1_1f pk2_0 pk2_1 pk2_0f pk2_1f pk3_0 pk3_1 pk3_0f pk3_1f pkf_0 pkf_1 pkf_2 pkf_3 pkf_4 pkf_5 pkf_6 pkf_7 pkf_8 pkf_0f pkf_1f pkf_2f pkf_3f pkf_4f pkf_5f pkf_6f pkf_7f pkf_8f
    generalize w4.alloc (.cells #[.int .i64 4, .int .i64 v, .int .i64 0, .int .i64 0, .int .i64 0, .int .i64 0, .int .i64 0, .int .i64 0, .slice none 0 0] 26) = u5 at *
    generalize w4.heap.size = g5 at *
    refine (H4.out _ bc A3 n3 c3 v3).mono ?_
    rintro e w5 ⟨A5, n5, c5, rfl, v5, hC⟩
    dsimp only at v5 ⊢
    replace kb := kb.on hC; replace kr := kr.on hC; replace k1 := k1.on hC; replace k2 := k2.on hC; replace k3 := k3.on hC; replace kf := kf.on hC; replace v1 := v1.on hC; replace v2 := v2.on hC; replace v3 := v3.on hC; replace bc := bc.trans (hC.mono bc.size); clear hC
    have z_k5_kb := kb.lt
    have z_k5_kr := kr.lt
    have z_k5_k1 := k1.lt
    have z_k5_k2 := k2.lt
    have z_k5_k3 := k3.lt
    have z_k5_kf := kf.lt
    have zb_k5 := bc.size
    have k5 := Blk.new w5 28 #[.int .i64 0, .slice A5 n5 c5]
    have al := Below.al w5 (.cells #[.int .i64 0, .slice A5 n5 c5] 28)
    replace kb := kb.on al; replace kr := kr.on al; replace k1 := k1.on al; replace k2 := k2.on al; replace k3 := k3.on al; replace kf := kf.on al; replace v1 := v1.on al; replace v2 := v2.on al; replace v3 := v3.on al; replace v5 := v5.on al; replace bc := bc.trans (al.mono bc.size); clear al
    have hst := run_storeVar_row (P := Tryd.prog) (w5.alloc (.cells #[.int .i64 0, .slice A5 n5 c5] 28)) (w.heap.size + 1) 26 26 _ #[.int .i64 0, .int .i64 0, .int .i64 0, .int .i64 0, .int .i64 0, .int .i64 0, .int .i64 0, .int .i64 0, .slice none 0 0] kr info26 rfl (by simp [Value.oneCell'])
    simp [go_sem, z_k5_kr] at hst
    have hG := only_setRow (w5.alloc (.cells #[.int .i64 0, .slice A5 n5 c5] 28)) (w.heap.size + 1) #[.int .i64 0, .int .i64 0, .int .i64 0, .int .i64 0, .int .i64 0, .int .i64 0, .int .i64 0, .int .i64 0, .slice none 0 0]
    replace kb := kb.grown hG (some_ne (by omega)); replace k1 := k1.grown hG (some_ne (by omega)); replace k2 := k2.grown hG (some_ne (by omega)); replace k3 := k3.grown hG (some_ne (by omega)); replace kf := kf.grown hG (some_ne (by omega)); replace k5 := k5.grown hG (some_ne (by omega)); replace v1 := v1.off kr (no_u8_9 _ _ _ _ _ _ _ _ _ _ _) hG; replace v2 := v2.off kr (no_u8_9 _ _ _ _ _ _ _ _ _ _ _) hG; replace v3 := v3.off kr (no_u8_9 _ _ _ _ _ _ _ _ _ _ _) hG; replace v5 := v5.off kr (no_u8_9 _ _ _ _ _ _ _ _ _ _ _) hG; replace bc := Below.off bc bc.size (by omega) hG; replace kr := Blk.row kr #[.int .i64 0, .int .i64 0, .int .i64 0, .int .i64 0, .int .i64 0, .int .i64 0, .int .i64 0, .int .i64 0, .slice none 0 0]; clear hG
    go_wp2
    obtain ⟨xkr_0, xkr_1, xkr_2, xkr_3, xkr_4, xkr_5, xkr_6, xkr_7, xkr_8⟩ := kr.nine
    obtain ⟨xkr_0f, xkr_1f, xkr_2f, xkr_3f, xkr_4f, xkr_5f, xkr_6f, xkr_7f, xkr_8f⟩ := kr.nineF
    exact bodyPost_ret (v := .tuple #[.agg #[.int .i64 0, .int .i64 0, .int .i64 0, .int .i64 0, .int .i64 0, .int .i64 0, .int .i64 0, .int .i64 0, .slice none 0 0], .int .i64 21]) (by simp [results, Tryd.results56, go_sem, xkr_0, xkr_1, xkr_2, xkr_3, xkr_4, xkr_5, xkr_6, xkr_7, xkr_8]) rfl ⟨none, 0, 0, by rw [HZ.out]; rfl, by rw [HZ.out]; rfl, by rw [HZ.out]; exact Byt.none _, bc⟩
  simp only [if_pos g2] at h4
  rw [show decide (rem 0 (stateL 4 L ++ L) = 0) = true by simpa using g2] at hZ
  clear g2
  generalize L.take 55 = X1 at *
  generalize stateL 4 L = U at *
  have HR := Lib.hid hreq; have H1 := Lib.hid h1; have H3 := Lib.hid h3; clear hreq h1 h3
  have H2 := Lib.hid h2; have H4 := Lib.hid h4; have H5 := Lib.hid h5; clear h2 h4 h5
  by_cases hm : mayC ⟨C0, C1, C2, C3, C4⟩ 8 = true
  · simp only [if_pos hm] at h6
    have hz : Z = (0, ⟨4, v, ⟨C0, C1, C2, C3, C4⟩, 0, D⟩) := by rw [hZ]; simp [hm]
    have HZ := Lib.hid hz; have H6 := Lib.hid h6; clear h6 hz hZ hm
    obtain ⟨kb, kr, bc⟩ := bx2 w #[.int .i64 L.length, .slice A n c] #[.int .i64 0, .int .i64 0, .int .i64 0, .int .i64 0, .int .i64 0, .int .i64 0, .int .i64 0, .int .i64 0, .slice none 0 0] 28 26
    go_enter Tryd.func56, Tryd.ntmps56
    go_wp2_with fail
    generalize (w.alloc (.cells #[.int .i64 L.length, .slice A n c] 28)).alloc (.cells #[.int .i64 0, .int .i64 0, .int .i64 0, .int .i64 0, .int .i64 0, .int .i64 0, .int .i64 0, .int .i64 0, .slice none 0 0] 26) = u1 at *
    refine (H1.out _ bc).mono ?_
    rintro e w1 ⟨A1, n1, c1, rfl, v1, hC⟩
    dsimp only at v1 ⊢
    replace kb := kb.on hC; replace kr := kr.on hC; replace bc := bc.trans (hC.mono bc.size); clear hC
    have z_k1_kb := kb.lt
    have z_k1_kr := kr.lt
    have zb_k1 := bc.size
    have k1 := Blk.new w1 28 #[.int .i64 X1.length, .slice A1 n1 c1]
    have al := Below.al w1 (.cells #[.int .i64 X1.length, .slice A1 n1 c1] 28)
    replace kb := kb.on al; replace kr := kr.on al; replace v1 := v1.on al; replace bc := bc.trans (al.mono bc.size); clear al
    obtain ⟨pkb_0, pkb_1, pkb_0f, pkb_1f⟩ := kb.two
    obtain ⟨pkr_0, pkr_1, pkr_2, pkr_3, pkr_4, pkr_5, pkr_6, pkr_7, pkr_8⟩ := kr.nine
    obtain ⟨pkr_0f, pkr_1f, pkr_2f, pkr_3f, pkr_4f, pkr_5f, pkr_6f, pkr_7f, pkr_8f⟩ := kr.nineF
    obtain ⟨pk1_0, pk1_1, pk1_0f, pk1_1f⟩ := k1.two
    go_wp2_with fail
    clear pkb_0 pkb_1 pkb_0f pkb_1f pkr_0 pkr_1 pkr_2 pkr_3 pkr_4 pkr_5 pkr_6 pkr_7 pkr_8 pkr_0f pkr_1f pkr_2f pkr_3f pkr_4f pkr_5f pkr_6f pkr_7f pkr_8f pk1_0 pk1_1 pk1_0f pk1_1f
    generalize w1.alloc (.cells #[.int .i64 X1.length, .slice A1 n1 c1] 28) = u2 at *
    generalize w1.heap.size = g2 at *
    refine (H2.out _ A1 n1 c1 v1).mono ?_
    rintro e w2 ⟨A2, n2, c2, rfl, v2, hC⟩
    dsimp only at v2 ⊢
    replace kb := kb.on hC; replace kr := kr.on hC; replace k1 := k1.on hC; replace v1 := v1.on hC; replace bc := bc.trans (hC.mono bc.size); clear hC
    have z_k2_kb := kb.lt
    have z_k2_kr := kr.lt
    have z_k2_k1 := k1.lt
    have zb_k2 := bc.size
    have k2 := Blk.new w2 28 #[.int .i64 P.length, .slice A2 n2 c2]
    have al := Below.al w2 (.cells #[.int .i64 P.length, .slice A2 n2 c2] 28)
    replace kb := kb.on al; replace kr := kr.on al; replace k1 := k1.on al; replace v1 := v1.on al; replace v2 := v2.on al; replace bc := bc.trans (al.mono bc.size); clear al
    obtain ⟨pkb_0, pkb_1, pkb_0f, pkb_1f⟩ := kb.two
    obtain ⟨pkr_0, pkr_1, pkr_2, pkr_3, pkr_4, pkr_5, pkr_6, pkr_7, pkr_8⟩ := kr.nine
    obtain ⟨pkr_0f, pkr_1f, pkr_2f, pkr_3f, pkr_4f, pkr_5f, pkr_6f, pkr_7f, pkr_8f⟩ := kr.nineF
    obtain ⟨pk1_0, pk1_1, pk1_0f, pk1_1f⟩ := k1.two
    obtain ⟨pk2_0, pk2_1, pk2_0f, pk2_1f⟩ := k2.two
    go_wp2_with fail
    clear pkb_0 pkb_1 pkb_0f pkb_1f pkr_0 pkr_1 pkr_2 pkr_3 pkr_4 pkr_5 pkr_6 pkr_7 pkr_8 pkr_0f pkr_1f pkr_2f pkr_3f pkr_4f pkr_5f pkr_6f pkr_7f pkr_8f pk1_0 pk1_1 pk1_0f pk1_1f pk2_0 pk2_1 pk2_0f pk2_1f
    generalize w2.alloc (.cells #[.int .i64 P.length, .slice A2 n2 c2] 28) = u3 at *
    generalize w2.heap.size = g3 at *
    refine (H3.out _ A2 n2 c2 v2).mono ?_
    rintro e w3 ⟨A3, n3, c3, rfl, v3, hC⟩
    dsimp only at v3 ⊢
    replace kb := kb.on hC; replace kr := kr.on hC; replace k1 := k1.on hC; replace k2 := k2.on hC; replace v1 := v1.on hC; replace v2 := v2.on hC; replace bc := bc.trans (hC.mono bc.size); clear hC
    have z_k3_kb := kb.lt
    have z_k3_kr := kr.lt
    have z_k3_k1 := k1.lt
    have z_k3_k2 := k2.lt
    have zb_k3 := bc.size
    have k3 := Blk.new w3 28 #[.int .i64 U.length, .slice A3 n3 c3]
    have al := Below.al w3 (.cells #[.int .i64 U.length, .slice A3 n3 c3] 28)
    replace kb := kb.on al; replace kr := kr.on al; replace k1 := k1.on al; replace k2 := k2.on al; replace v1 := v1.on al; replace v2 := v2.on al; replace v3 := v3.on al; replace bc := bc.trans (al.mono bc.size); clear al
    obtain ⟨pkb_0, pkb_1, pkb_0f, pkb_1f⟩ := kb.two
    obtain ⟨pkr_0, pkr_1, pkr_2, pkr_3, pkr_4, pkr_5, pkr_6, pkr_7, pkr_8⟩ := kr.nine
    obtain ⟨pkr_0f, pkr_1f, pkr_2f, pkr_3f, pkr_4f, pkr_5f, pkr_6f, pkr_7f, pkr_8f⟩ := kr.nineF
    obtain ⟨pk1_0, pk1_1, pk1_0f, pk1_1f⟩ := k1.two
    obtain ⟨pk2_0, pk2_1, pk2_0f, pk2_1f⟩ := k2.two
    obtain ⟨pk3_0, pk3_1, pk3_0f, pk3_1f⟩ := k3.two
    go_wp2_with fail
    clear pkb_0 pkb_1 pkb_0f pkb_1f pkr_0 pkr_1 pkr_2 pkr_3 pkr_4 pkr_5 pkr_6 pkr_7 pkr_8 pkr_0f pkr_1f pkr_2f pkr_3f pkr_4f pkr_5f pkr_6f pkr_7f pkr_8f pk1_0 pk1_1 pk1_0f pk1_1f pk2_0 pk2_1 pk2_0f pk2_1f pk3_0 pk3_1 pk3_0f pk3_1f
    generalize w3.alloc (.cells #[.int .i64 U.length, .slice A3 n3 c3] 28) = u4 at *
    generalize w3.heap.size = g4 at *
    refine (HR.out _ bc).mono ?_
    rintro e w4 ⟨rfl, hC⟩
    dsimp only
    replace kb := kb.on hC; replace kr := kr.on hC; replace k1 := k1.on hC; replace k2 := k2.on hC; replace k3 := k3.on hC; replace v1 := v1.on hC; replace v2 := v2.on hC; replace v3 := v3.on hC; replace bc := bc.trans (hC.mono bc.size); clear hC
    have z_kf_kb := kb.lt
    have z_kf_kr := kr.lt
    have z_kf_k1 := k1.lt
    have z_kf_k2 := k2.lt
    have z_kf_k3 := k3.lt
    have zb_kf := bc.size
    have kf := Blk.new w4 26 #[.int .i64 4, .int .i64 v, .int .i64 0, .int .i64 0, .int .i64 0, .int .i64 0, .int .i64 0, .int .i64 0, .slice none 0 0]
    have al := Below.al w4 (.cells #[.int .i64 4, .int .i64 v, .int .i64 0, .int .i64 0, .int .i64 0, .int .i64 0, .int .i64 0, .int .i64 0, .slice none 0 0] 26)
    replace kb := kb.on al; replace kr := kr.on al; replace k1 := k1.on al; replace k2 := k2.on al; replace k3 := k3.on al; replace v1 := v1.on al; replace v2 := v2.on al; replace v3 := v3.on al; replace bc := bc.trans (al.mono bc.size); clear al
    obtain ⟨pkb_0, pkb_1, pkb_0f, pkb_1f⟩ := kb.two
    obtain ⟨pkr_0, pkr_1, pkr_2, pkr_3, pkr_4, pkr_5, pkr_6, pkr_7, pkr_8⟩ := kr.nine
    obtain ⟨pkr_0f, pkr_1f, pkr_2f, pkr_3f, pkr_4f, pkr_5f, pkr_6f, pkr_7f, pkr_8f⟩ := kr.nineF
    obtain ⟨pk1_0, pk1_1, pk1_0f, pk1_1f⟩ := k1.two
    obtain ⟨pk2_0, pk2_1, pk2_0f, pk2_1f⟩ := k2.two
    obtain ⟨pk3_0, pk3_1, pk3_0f, pk3_1f⟩ := k3.two
    obtain ⟨pkf_0, pkf_1, pkf_2, pkf_3, pkf_4, pkf_5, pkf_6, pkf_7, pkf_8⟩ := kf.nine
    obtain ⟨pkf_0f, pkf_1f, pkf_2f, pkf_3f, pkf_4f, pkf_5f, pkf_6f, pkf_7f, pkf_8f⟩ := kf.nineF
    go_wp2_with fail
    clear pkb_0 pkb_1 pkb_0f pkb_1f pkr_0 pkr_1 pkr_2 pkr_3 pkr_4 pkr_5 pkr_6 pkr_7 pkr_8 pkr_0f pkr_1f pkr_2f pkr_3f pkr_4f pkr_5f pkr_6f pkr_7f pkr_8f pk1_0 pk1_1 pk1_0f pk1_1f pk2_0 pk2_1 pk2_0f pk2_1f pk3_0 pk3_1 pk3_0f pk3_1f pkf_0 pkf_1 pkf_2 pkf_3 pkf_4 pkf_5 pkf_6 pkf_7 pkf_8 pkf_0f pkf_1f pkf_2f pkf_3f pkf_4f pkf_5f pkf_6f pkf_7f pkf_8f
    generalize w4.alloc (.cells #[.int .i64 4, .int .i64 v, .int .i64 0, .int .i64 0, .int .i64 0, .int .i64 0, .int .i64 0, .int .i64 0, .slice none 0 0] 26) = u5 at *
    generalize w4.heap.size = g5 at *
    refine (H4.out _ bc A3 n3 c3 v3).mono ?_
    rintro e w5 ⟨A5, n5, c5, rfl, v5, hC⟩
    dsimp only at v5 ⊢
    replace kb := kb.on hC; replace kr := kr.on hC; replace k1 := k1.on hC; replace k2 := k2.on hC; replace k3 := k3.on hC; replace kf := kf.on hC; replace v1 := v1.on hC; replace v2 := v2.on hC; replace v3 := v3.on hC; replace bc := bc.trans (hC.mono bc.size); clear hC
    have z_k5_kb := kb.lt
    have z_k5_kr := kr.lt
    have z_k5_k1 := k1.lt
    have z_k5_k2 := k2.lt
    have z_k5_k3 := k3.lt
    have z_k5_kf := kf.lt
    have zb_k5 := bc.size
    have k5 := Blk.new w5 28 #[.int .i64 P2.length, .slice A5 n5 c5]
    have al := Below.al w5 (.cells #[.int .i64 P2.length, .slice A5 n5 c5] 28)
    replace kb := kb.on al; replace kr := kr.on al; replace k1 := k1.on al; replace k2 := k2.on al; replace k3 := k3.on al; replace kf := kf.on al; replace v1 := v1.on al; replace v2 := v2.on al; replace v3 := v3.on al; replace v5 := v5.on al; replace bc := bc.trans (al.mono bc.size); clear al
    obtain ⟨pkb_0, pkb_1, pkb_0f, pkb_1f⟩ := kb.two
    obtain ⟨pkr_0, pkr_1, pkr_2, pkr_3, pkr_4, pkr_5, pkr_6, pkr_7, pkr_8⟩ := kr.nine
    obtain ⟨pkr_0f, pkr_1f, pkr_2f, pkr_3f, pkr_4f, pkr_5f, pkr_6f, pkr_7f, pkr_8f⟩ := kr.nineF
    obtain ⟨pk1_0, pk1_1, pk1_0f, pk1_1f⟩ := k1.two
    obtain ⟨pk2_0, pk2_1, pk2_0f, pk2_1f⟩ := k2.two
    obtain ⟨pk3_0, pk3_1, pk3_0f, pk3_1f⟩ := k3.two
    obtain ⟨pkf_0, pkf_1, pkf_2, pkf_3, pkf_4, pkf_5, pkf_6, pkf_7, pkf_8⟩ := kf.nine
    obtain ⟨pkf_0f, pkf_1f, pkf_2f, pkf_3f, pkf_4f, pkf_5f, pkf_6f, pkf_7f, pkf_8f⟩ := kf.nineF
    obtain ⟨pk5_0, pk5_1, pk5_0f, pk5_1f⟩ := k5.two
    go_wp2_with fail
    clear pkb_0 pkb_1 pkb_0f pkb_1f pkr_0 pkr_1 pkr_2 pkr_3 pkr_4 pkr_5 pkr_6 pkr_7 pkr_8 pkr_0f pkr_1f pkr_2f pkr_3f pkr_4f pkr_5f pkr_6f pkr_7f pkr_8f pk1_0 pk1_1 pk1_0f pk1_1f pk2_0 pk2_1 pk2_0f pk2_1f pk3_0 pk3_1 pk3_0f pk3_1f pkf_0 pkf_1 pkf_2 pkf_3 pkf_4 pkf_5 pkf_6 pkf_7 pkf_8 pkf_0f pkf_1f pkf_2f pkf_3f pkf_4f pkf_5f pkf_6f pkf_7f pkf_8f pk5_0 pk5_1 pk5_0f pk5_1f
    generalize w5.alloc (.cells #[.int .i64 P2.length, .slice A5 n5 c5] 28) = u6 at *
    generalize w5.heap.size = g6 at *
    refine (H5.out _ A5 n5 c5 v5).mono ?_
    rintro e w6 ⟨A6, n6, c6, rfl, hn6, y6, hC⟩
    dsimp only at y6 ⊢
    replace kb := kb.on hC; replace kr := kr.on hC; replace k1 := k1.on hC; replace k2 := k2.on hC; replace k3 := k3.on hC; replace kf := kf.on hC; replace k5 := k5.on hC; replace v1 := v1.on hC; replace v2 := v2.on hC; replace v3 := v3.on hC; replace v5 := v5.on hC; replace bc := bc.trans (hC.mono bc.size); clear hC
    have HN6 := Lib.hid hn6; clear hn6
    obtain ⟨okf_0, okf_1, okf_2, okf_3, okf_4, okf_5, okf_6, okf_7, okf_8⟩ := kf.nine
    obtain ⟨okf_0f, okf_1f, okf_2f, okf_3f, okf_4f, okf_5f, okf_6f, okf_7f, okf_8f⟩ := kf.nineF
    have hG := st1_8 w6 (g5) (.slice A6 n6 c6)
    replace kb := kb.grown hG (some_ne (by omega)); replace kr := kr.grown hG (some_ne (by omega)); replace k1 := k1.grown hG (some_ne (by omega)); replace k2 := k2.grown hG (some_ne (by omega)); replace k3 := k3.grown hG (some_ne (by omega)); replace k5 := k5.grown hG (some_ne (by omega)); replace v1 := v1.off kf (no_u8_9 _ _ _ _ _ _ _ _ _ _ _) hG; replace v2 := v2.off kf (no_u8_9 _ _ _ _ _ _ _ _ _ _ _) hG; replace v3 := v3.off kf (no_u8_9 _ _ _ _ _ _ _ _ _ _ _) hG; replace v5 := v5.off kf (no_u8_9 _ _ _ _ _ _ _ _ _ _ _) hG; replace y6 := y6.off kf (no_u8_9 _ _ _ _ _ _ _ _ _ _ _) hG; replace bc := Below.off bc bc.size (by omega) hG; replace kf := kf.put1_8 (.slice A6 n6 c6); clear hG
    obtain ⟨pkb_0, pkb_1, pkb_0f, pkb_1f⟩ := kb.two
    obtain ⟨pkr_0, pkr_1, pkr_2, pkr_3, pkr_4, pkr_5, pkr_6, pkr_7, pkr_8⟩ := kr.nine
    obtain ⟨pkr_0f, pkr_1f, pkr_2f, pkr_3f, pkr_4f, pkr_5f, pkr_6f, pkr_7f, pkr_8f⟩ := kr.nineF
    obtain ⟨pk1_0, pk1_1, pk1_0f, pk1_1f⟩ := k1.two
    obtain ⟨pk2_0, pk2_1, pk2_0f, pk2_1f⟩ := k2.two
    obtain ⟨pk3_0, pk3_1, pk3_0f, pk3_1f⟩ := k3.two
    obtain ⟨pkf_0, pkf_1, pkf_2, pkf_3, pkf_4, pkf_5, pkf_6, pkf_7, pkf_8⟩ := kf.nine
    obtain ⟨pkf_0f, pkf_1f, pkf_2f, pkf_3f, pkf_4f, pkf_5f, pkf_6f, pkf_7f, pkf_8f⟩ := kf.nineF
    obtain ⟨pk5_0, pk5_1, pk5_0f, pk5_1f⟩ := k5.two
    go_wp2_with fail
    clear okf_0 okf_1 okf_2 okf_3 okf_4 okf_5 okf_6 okf_7 okf_8 okf_0f okf_1f okf_2f okf_3f okf_4f okf_5f okf_6f okf_7f okf_8f pkb_0 pkb_1 pkb_0f pkb_1f pkr_0 pkr_1 pkr_2 pkr_3 pkr_4 pkr_5 pkr_6 pkr_7 pkr_8 pkr_0f pkr_1f pkr_2f pkr_3f pkr_4f pkr_5f pkr_6f pkr_7f pkr_8f pk1_0 pk1_1 pk1_0f pk1_1f pk2_0 pk2_1 pk2_0f pk2_1f pk3_0 pk3_1 pk3_0f pk3_1f pkf_0 pkf_1 pkf_2 pkf_3 pkf_4 pkf_5 pkf_6 pkf_7 pkf_8 pkf_0f pkf_1f pkf_2f pkf_3f pkf_4f pkf_5f pkf_6f pkf_7f pkf_8f pk5_0 pk5_1 pk5_0f pk5_1f
    generalize w6.setCell ⟨g5, 8, none⟩ (.slice A6 n6 c6) = u7 at *
    refine (H6.out _ A3 n3 c3 v3).mono ?_
    rintro e w7 ⟨rfl, hC⟩
    dsimp only
    replace kb := kb.on hC; replace kr := kr.on hC; replace k1 := k1.on hC; replace k2 := k2.on hC; replace k3 := k3.on hC; replace kf := kf.on hC; replace k5 := k5.on hC; replace v1 := v1.on hC; replace v2 := v2.on hC; replace v3 := v3.on hC; replace v5 := v5.on hC; replace y6 := y6.on hC; replace bc := bc.trans (hC.mono bc.size); clear hC
    obtain ⟨okf_0, okf_1, okf_2, okf_3, okf_4, okf_5, okf_6, okf_7, okf_8⟩ := kf.nine
    obtain ⟨okf_0f, okf_1f, okf_2f, okf_3f, okf_4f, okf_5f, okf_6f, okf_7f, okf_8f⟩ := kf.nineF
    have hG := st5_2 w7 (g5) (.int .i64 C0) (.int .i64 C1) (.int .i64 C2) (.int .i64 C3) (.int .i64 C4)
    replace kb := kb.grown hG (some_ne (by omega)); replace kr := kr.grown hG (some_ne (by omega)); replace k1 := k1.grown hG (some_ne (by omega)); replace k2 := k2.grown hG (some_ne (by omega)); replace k3 := k3.grown hG (some_ne (by omega)); replace k5 := k5.grown hG (some_ne (by omega)); replace v1 := v1.off kf (no_u8_9 _ _ _ _ _ _ _ _ _ _ _) hG; replace v2 := v2.off kf (no_u8_9 _ _ _ _ _ _ _ _ _ _ _) hG; replace v3 := v3.off kf (no_u8_9 _ _ _ _ _ _ _ _ _ _ _) hG; replace v5 := v5.off kf (no_u8_9 _ _ _ _ _ _ _ _ _ _ _) hG; replace y6 := y6.off kf (no_u8_9 _ _ _ _ _ _ _ _ _ _ _) hG; replace bc := Below.off bc bc.size (by omega) hG; replace kf := kf.put5_2 (.int .i64 C0) (.int .i64 C1) (.int .i64 C2) (.int .i64 C3) (.int .i64 C4); clear hG
    have z_kc_kb := kb.lt
    have z_kc_kr := kr.lt
    have z_kc_k1 := k1.lt
    have z_kc_k2 := k2.lt
    have z_kc_k3 := k3.lt
    have z_kc_kf := kf.lt
    have z_kc_k5 := k5.lt
    have zb_kc := bc.size
    have kc := Blk.new (((((w7.setCell ⟨g5, 2, none⟩ (.int .i64 C0)).setCell ⟨g5, 3, none⟩ (.int .i64 C1)).setCell ⟨g5, 4, none⟩ (.int .i64 C2)).setCell ⟨g5, 5, none⟩ (.int .i64 C3)).setCell ⟨g5, 6, none⟩ (.int .i64 C4)) 23 #[.int .i64 C0, .int .i64 C1, .int .i64 C2, .int .i64 C3, .int .i64 C4]
    have hsz : (((((w7.setCell ⟨g5, 2, none⟩ (.int .i64 C0)).setCell ⟨g5, 3, none⟩ (.int .i64 C1)).setCell ⟨g5, 4, none⟩ (.int .i64 C2)).setCell ⟨g5, 5, none⟩ (.int .i64 C3)).setCell ⟨g5, 6, none⟩ (.int .i64 C4)).heap.size = w7.heap.size := (by first | rfl | simp)
    rw [hsz] at kc z_kc_kb z_kc_kr z_kc_k1 z_kc_k2 z_kc_k3 z_kc_kf z_kc_k5 zb_kc
    clear hsz
    have al := Below.al (((((w7.setCell ⟨g5, 2, none⟩ (.int .i64 C0)).setCell ⟨g5, 3, none⟩ (.int .i64 C1)).setCell ⟨g5, 4, none⟩ (.int .i64 C2)).setCell ⟨g5, 5, none⟩ (.int .i64 C3)).setCell ⟨g5, 6, none⟩ (.int .i64 C4)) (.cells #[.int .i64 C0, .int .i64 C1, .int .i64 C2, .int .i64 C3, .int .i64 C4] 23)
    replace kb := kb.on al; replace kr := kr.on al; replace k1 := k1.on al; replace k2 := k2.on al; replace k3 := k3.on al; replace kf := kf.on al; replace k5 := k5.on al; replace v1 := v1.on al; replace v2 := v2.on al; replace v3 := v3.on al; replace v5 := v5.on al; replace y6 := y6.on al; replace bc := bc.trans (al.mono bc.size); clear al
    obtain ⟨⟨ykc_0, ykc_1, ykc_2, ykc_3, ykc_4⟩, ykc_0f, ykc_1f, ykc_2f, ykc_3f, ykc_4f⟩ := kc.five
    obtain ⟨ykf_0, ykf_1, ykf_2, ykf_3, ykf_4, ykf_5, ykf_6, ykf_7, ykf_8⟩ := kf.nine
    obtain ⟨ykf_0f, ykf_1f, ykf_2f, ykf_3f, ykf_4f, ykf_5f, ykf_6f, ykf_7f, ykf_8f⟩ := kf.nineF
    have hst := run_storeVar_row (P := Tryd.prog) ((((((w7.setCell ⟨g5, 2, none⟩ (.int .i64 C0)).setCell ⟨g5, 3, none⟩ (.int .i64 C1)).setCell ⟨g5, 4, none⟩ (.int .i64 C2)).setCell ⟨g5, 5, none⟩ (.int .i64 C3)).setCell ⟨g5, 6, none⟩ (.int .i64 C4)).alloc (.cells #[.int .i64 C0, .int .i64 C1, .int .i64 C2, .int .i64 C3, .int .i64 C4] 23)) (w.heap.size + 1) 26 26 _ #[.int .i64 4, .int .i64 v, .int .i64 C0, .int .i64 C1, .int .i64 C2, .int .i64 C3, .int .i64 C4, .int .i64 0, .slice A6 n6 c6] kr info26 rfl (by simp [Value.oneCell'])
    simp [go_sem, z_kc_kr] at hst
    have hG := only_setRow ((((((w7.setCell ⟨g5, 2, none⟩ (.int .i64 C0)).setCell ⟨g5, 3, none⟩ (.int .i64 C1)).setCell ⟨g5, 4, none⟩ (.int .i64 C2)).setCell ⟨g5, 5, none⟩ (.int .i64 C3)).setCell ⟨g5, 6, none⟩ (.int .i64 C4)).alloc (.cells #[.int .i64 C0, .int .i64 C1, .int .i64 C2, .int .i64 C3, .int .i64 C4] 23)) (w.heap.size + 1) #[.int .i64 4, .int .i64 v, .int .i64 C0, .int .i64 C1, .int .i64 C2, .int .i64 C3, .int .i64 C4, .int .i64 0, .slice A6 n6 c6]
    replace kb := kb.grown hG (some_ne (by omega)); replace k1 := k1.grown hG (some_ne (by omega)); replace k2 := k2.grown hG (some_ne (by omega)); replace k3 := k3.grown hG (some_ne (by omega)); replace kf := kf.grown hG (some_ne (by omega)); replace k5 := k5.grown hG (some_ne (by omega)); replace kc := kc.grown hG (some_ne (by omega)); replace v1 := v1.off kr (no_u8_9 _ _ _ _ _ _ _ _ _ _ _) hG; replace v2 := v2.off kr (no_u8_9 _ _ _ _ _ _ _ _ _ _ _) hG; replace v3 := v3.off kr (no_u8_9 _ _ _ _ _ _ _ _ _ _ _) hG; replace v5 := v5.off kr (no_u8_9 _ _ _ _ _ _ _ _ _ _ _) hG; replace y6 := y6.off kr (no_u8_9 _ _ _ _ _ _ _ _ _ _ _) hG; replace bc := Below.off bc bc.size (by omega) hG; replace kr := Blk.row kr #[.int .i64 4, .int .i64 v, .int .i64 C0, .int .i64 C1, .int .i64 C2, .int .i64 C3, .int .i64 C4, .int .i64 0, .slice A6 n6 c6]; clear hG
    go_wp2
    obtain ⟨xkr_0, xkr_1, xkr_2, xkr_3, xkr_4, xkr_5, xkr_6, xkr_7, xkr_8⟩ := kr.nine
    obtain ⟨xkr_0f, xkr_1f, xkr_2f, xkr_3f, xkr_4f, xkr_5f, xkr_6f, xkr_7f, xkr_8f⟩ := kr.nineF
    exact bodyPost_ret (v := .tuple #[.agg #[.int .i64 4, .int .i64 v, .int .i64 C0, .int .i64 C1, .int .i64 C2, .int .i64 C3, .int .i64 C4, .int .i64 0, .slice A6 n6 c6], .int .i64 0]) (by simp [results, Tryd.results56, go_sem, xkr_0, xkr_1, xkr_2, xkr_3, xkr_4, xkr_5, xkr_6, xkr_7, xkr_8]) rfl ⟨A6, n6, c6, by rw [HZ.out]; rfl, by rw [HZ.out]; exact HN6.out, by rw [HZ.out]; exact y6, bc⟩
  · simp only [if_neg hm] at h6
    have hz : Z = (51, zeroF) := by rw [hZ]; simp [hm]
    have HZ := Lib.hid hz; have H6 := Lib.hid h6; clear h6 hz hZ hm
    obtain ⟨kb, kr, bc⟩ := bx2 w #[.int .i64 L.length, .slice A n c] #[.int .i64 0, .int .i64 0, .int .i64 0, .int .i64 0, .int .i64 0, .int .i64 0, .int .i64 0, .int .i64 0, .slice none 0 0] 28 26
    go_enter Tryd.func56, Tryd.ntmps56
    go_wp2_with fail
    generalize (w.alloc (.cells #[.int .i64 L.length, .slice A n c] 28)).alloc (.cells #[.int .i64 0, .int .i64 0, .int .i64 0, .int .i64 0, .int .i64 0, .int .i64 0, .int .i64 0, .int .i64 0, .slice none 0 0] 26) = u1 at *
    refine (H1.out _ bc).mono ?_
    rintro e w1 ⟨A1, n1, c1, rfl, v1, hC⟩
    dsimp only at v1 ⊢
    replace kb := kb.on hC; replace kr := kr.on hC; replace bc := bc.trans (hC.mono bc.size); clear hC
    have z_k1_kb := kb.lt
    have z_k1_kr := kr.lt
    have zb_k1 := bc.size
    have k1 := Blk.new w1 28 #[.int .i64 X1.length, .slice A1 n1 c1]
    have al := Below.al w1 (.cells #[.int .i64 X1.length, .slice A1 n1 c1] 28)
    replace kb := kb.on al; replace kr := kr.on al; replace v1 := v1.on al; replace bc := bc.trans (al.mono bc.size); clear al
    obtain ⟨pkb_0, pkb_1, pkb_0f, pkb_1f⟩ := kb.two
    obtain ⟨pkr_0, pkr_1, pkr_2, pkr_3, pkr_4, pkr_5, pkr_6, pkr_7, pkr_8⟩ := kr.nine
    obtain ⟨pkr_0f, pkr_1f, pkr_2f, pkr_3f, pkr_4f, pkr_5f, pkr_6f, pkr_7f, pkr_8f⟩ := kr.nineF
    obtain ⟨pk1_0, pk1_1, pk1_0f, pk1_1f⟩ := k1.two
    go_wp2_with fail
    clear pkb_0 pkb_1 pkb_0f pkb_1f pkr_0 pkr_1 pkr_2 pkr_3 pkr_4 pkr_5 pkr_6 pkr_7 pkr_8 pkr_0f pkr_1f pkr_2f pkr_3f pkr_4f pkr_5f pkr_6f pkr_7f pkr_8f pk1_0 pk1_1 pk1_0f pk1_1f
    generalize w1.alloc (.cells #[.int .i64 X1.length, .slice A1 n1 c1] 28) = u2 at *
    generalize w1.heap.size = g2 at *
    refine (H2.out _ A1 n1 c1 v1).mono ?_
    rintro e w2 ⟨A2, n2, c2, rfl, v2, hC⟩
    dsimp only at v2 ⊢
    replace kb := kb.on hC; replace kr := kr.on hC; replace k1 := k1.on hC; replace v1 := v1.on hC; replace bc := bc.trans (hC.mono bc.size); clear hC
    have z_k2_kb := kb.lt
    have z_k2_kr := kr.lt
    have z_k2_k1 := k1.lt
    have zb_k2 := bc.size
    have k2 := Blk.new w2 28 #[.int .i64 P.length, .slice A2 n2 c2]
    have al := Below.al w2 (.cells #[.int .i64 P.length, .slice A2 n2 c2] 28)
    replace kb := kb.on al; replace kr := kr.on al; replace k1 := k1.on al; replace v1 := v1.on al; replace v2 := v2.on al; replace bc := bc.trans (al.mono bc.size); clear al
    obtain ⟨pkb_0, pkb_1, pkb_0f, pkb_1f⟩ := kb.two
    obtain ⟨pkr_0, pkr_1, pkr_2, pkr_3, pkr_4, pkr_5, pkr_6, pkr_7, pkr_8⟩ := kr.nine
    obtain ⟨pkr_0f, pkr_1f, pkr_2f, pkr_3f, pkr_4f, pkr_5f, pkr_6f, pkr_7f, pkr_8f⟩ := kr.nineF
    obtain ⟨pk1_0, pk1_1, pk1_0f, pk1_1f⟩ := k1.two
    obtain ⟨pk2_0, pk2_1, pk2_0f, pk2_1f⟩ := k2.two
    go_wp2_with fail
    clear pkb_0 pkb_1 pkb_0f pkb_1f pkr_0 pkr_1 pkr_2 pkr_3 pkr_4 pkr_5 pkr_6 pkr_7 pkr_8 pkr_0f pkr_1f pkr_2f pkr_3f pkr_4f pkr_5f pkr_6f pkr_7f pkr_8f pk1_0 pk1_1 pk1_0f pk1_1f pk2_0 pk2_1 pk2_0f pk2_1f
    generalize w2.alloc (.cells #[.int .i64 P.length, .slice A2 n2 c2] 28) = u3 at *
    generalize w2.heap.size = g3 at *
    refine (H3.out _ A2 n2 c2 v2).mono ?_
    rintro e w3 ⟨A3, n3, c3, rfl, v3, hC⟩
    dsimp only at v3 ⊢
    replace kb := kb.on hC; replace kr := kr.on hC; replace k1 := k1.on hC; replace k2 := k2.on hC; replace v1 := v1.on hC; replace v2 := v2.on hC; replace bc := bc.trans (hC.mono bc.size); clear hC
    have z_k3_kb := kb.lt
    have z_k3_kr := kr.lt
    have z_k3_k1 := k1.lt
    have z_k3_k2 := k2.lt
    have zb_k3 := bc.size
    have k3 := Blk.new w3 28 #[.int .i64 U.length, .slice A3 n3 c3]
    have al := Below.al w3 (.cells #[.int .i64 U.length, .slice A3 n3 c3] 28)
    replace kb := kb.on al; replace kr := kr.on al; replace k1 := k1.on al; replace k2 := k2.on al; replace v1 := v1.on al; replace v2 := v2.on al; replace v3 := v3.on al; replace bc := bc.trans (al.mono bc.size); clear al
    obtain ⟨pkb_0, pkb_1, pkb_0f, pkb_1f⟩ := kb.two
    obtain ⟨pkr_0, pkr_1, pkr_2, pkr_3, pkr_4, pkr_5, pkr_6, pkr_7, pkr_8⟩ := kr.nine
    obtain ⟨pkr_0f, pkr_1f, pkr_2f, pkr_3f, pkr_4f, pkr_5f, pkr_6f, pkr_7f, pkr_8f⟩ := kr.nineF
    obtain ⟨pk1_0, pk1_1, pk1_0f, pk1_1f⟩ := k1.two
    obtain ⟨pk2_0, pk2_1, pk2_0f, pk2_1f⟩ := k2.two
    obtain ⟨pk3_0, pk3_1, pk3_0f, pk3_1f⟩ := k3.two
    go_wp2_with fail
    clear pkb_0 pkb_1 pkb_0f pkb_1f pkr_0 pkr_1 pkr_2 pkr_3 pkr_4 pkr_5 pkr_6 pkr_7 pkr_8 pkr_0f pkr_1f pkr_2f pkr_3f pkr_4f pkr_5f pkr_6f pkr_7f pkr_8f pk1_0 pk1_1 pk1_0f pk1_1f pk2_0 pk2_1 pk2_0f pk2_1f pk3_0 pk3_1 pk3_0f pk3_1f
    generalize w3.alloc (.cells #[.int .i64 U.length, .slice A3 n3 c3] 28) = u4 at *
    generalize w3.heap.size = g4 at *
    refine (HR.out _ bc).mono ?_
    rintro e w4 ⟨rfl, hC⟩
    dsimp only
    replace kb := kb.on hC; replace kr := kr.on hC; replace k1 := k1.on hC; replace k2 := k2.on hC; replace k3 := k3.on hC; replace v1 := v1.on hC; replace v2 := v2.on hC; replace v3 := v3.on hC; replace bc := bc.trans (hC.mono bc.size); clear hC
    have z_kf_kb := kb.lt
    have z_kf_kr := kr.lt
    have z_kf_k1 := k1.lt
    have z_kf_k2 := k2.lt
    have z_kf_k3 := k3.lt
    have zb_kf := bc.size
    have kf := Blk.new w4 26 #[.int .i64 4, .int .i64 v, .int .i64 0, .int .i64 0, .int .i64 0, .int .i64 0, .int .i64 0, .int .i64 0, .slice none 0 0]
    have al := Below.al w4 (.cells #[.int .i64 4, .int .i64 v, .int .i64 0, .int .i64 0, .int .i64 0, .int .i64 0, .int .i64 0, .int .i64 0, .slice none 0 0] 26)
    replace kb := kb.on al; replace kr := kr.on al; replace k1 := k1.on al; replace k2 := k2.on al; replace k3 := k3.on al; replace v1 := v1.on al; replace v2 := v2.on al; replace v3 := v3.on al; replace bc := bc.trans (al.mono bc.size); clear al
    obtain ⟨pkb_0, pkb_1, pkb_0f, pkb_1f⟩ := kb.two
    obtain ⟨pkr_0, pkr_1, pkr_2, pkr_3, pkr_4, pkr_5, pkr_6, pkr_7, pkr_8⟩ := kr.nine
    obtain ⟨pkr_0f, pkr_1f, pkr_2f, pkr_3f, pkr_4f, pkr_5f, pkr_6f, pkr_7f, pkr_8f⟩ := kr.nineF
    obtain ⟨pk1_0, pk1_1, pk1_0f, pk1_1f⟩ := k1.two
    obtain ⟨pk2_0, pk2_1, pk2_0f, pk2_1f⟩ := k2.two
    obtain ⟨pk3_0, pk3_1, pk3_0f, pk3_1f⟩ := k3.two
    obtain ⟨pkf_0, pkf_1, pkf_2, pkf_3, pkf_4, pkf_5, pkf_6, pkf_7, pkf_8⟩ := kf.nine
    obtain ⟨pkf_0f, pkf_1f, pkf_2f, pkf_3f, pkf_4f, pkf_5f, pkf_6f, pkf_7f, pkf_8f⟩ := kf.nineF
    go_wp2_with fail
    clear pkb_0 pkb_1 pkb_0f pkb_1f pkr_0 pkr_1 pkr_2 pkr_3 pkr_4 pkr_5 pkr_6 pkr_7 pkr_8 pkr_0f pkr_1f pkr_2f pkr_3f pkr_4f pkr_5f pkr_6f pkr_7f pkr_8f pk1_0 pk1_1 pk1_0f pk1_1f pk2_0 pk2_1 pk2_0f pk2_1f pk3_0 pk3_1 pk3_0f pk3_1f pkf_0 pkf_1 pkf_2 pkf_3 pkf_4 pkf_5 pkf_6 pkf_7 pkf_8 pkf_0f pkf_1f pkf_2f pkf_3f pkf_4f pkf_5f pkf_6f pkf_7f pkf_8f
    generalize w4.alloc (.cells #[.int .i64 4, .int .i64 v, .int .i64 0, .int .i64 0, .int .i64 0, .int .i64 0, .int .i64 0, .int .i64 0, .slice none 0 0] 26) = u5 at *
    generalize w4.heap.size = g5 at *
    refine (H4.out _ bc A3 n3 c3 v3).mono ?_
    rintro e w5 ⟨A5, n5, c5, rfl, v5, hC⟩
    dsimp only at v5 ⊢
    replace kb := kb.on hC; replace kr := kr.on hC; replace k1 := k1.on hC; replace k2 := k2.on hC; replace k3 := k3.on hC; replace kf := kf.on hC; replace v1 := v1.on hC; replace v2 := v2.on hC; replace v3 := v3.on hC; replace bc := bc.trans (hC.mono bc.size); clear hC
    have z_k5_kb := kb.lt
    have z_k5_kr := kr.lt
    have z_k5_k1 := k1.lt
    have z_k5_k2 := k2.lt
    have z_k5_k3 := k3.lt
    have z_k5_kf := kf.lt
    have zb_k5 := bc.size
    have k5 := Blk.new w5 28 #[.int .i64 P2.length, .slice A5 n5 c5]
    have al := Below.al w5 (.cells #[.int .i64 P2.length, .slice A5 n5 c5] 28)
    replace kb := kb.on al; replace kr := kr.on al; replace k1 := k1.on al; replace k2 := k2.on al; replace k3 := k3.on al; replace kf := kf.on al; replace v1 := v1.on al; replace v2 := v2.on al; replace v3 := v3.on al; replace v5 := v5.on al; replace bc := bc.trans (al.mono bc.size); clear al
    obtain ⟨pkb_0, pkb_1, pkb_0f, pkb_1f⟩ := kb.two
    obtain ⟨pkr_0, pkr_1, pkr_2, pkr_3, pkr_4, pkr_5, pkr_6, pkr_7, pkr_8⟩ := kr.nine
    obtain ⟨pkr_0f, pkr_1f, pkr_2f, pkr_3f, pkr_4f, pkr_5f, pkr_6f, pkr_7f, pkr_8f⟩ := kr.nineF
    obtain ⟨pk1_0, pk1_1, pk1_0f, pk1_1f⟩ := k1.two
    obtain ⟨pk2_0, pk2_1, pk2_0f, pk2_1f⟩ := k2.two
    obtain ⟨pk3_0, pk3_1, pk3_0f, pk3_1f⟩ := k3.two
    obtain ⟨pkf_0, pkf_1, pkf_2, pkf_3, pkf_4, pkf_5, pkf_6, pkf_7, pkf_8⟩ := kf.nine
    obtain ⟨pkf_0f, pkf_1f, pkf_2f, pkf_3f, pkf_4f, pkf_5f, pkf_6f, pkf_7f, pkf_8f⟩ := kf.nineF
    obtain ⟨pk5_0, pk5_1, pk5_0f, pk5_1f⟩ := k5.two
    go_wp2_with fail
    clear pkb_0 pkb_1 pkb_0f pkb_1f pkr_0 pkr_1 pkr_2 pkr_3 pkr_4 pkr_5 pkr_6 pkr_7 pkr_8 pkr_0f pkr_1f pkr_2f pkr_3f pkr_4f pkr_5f pkr_6f pkr_7f pkr_8f pk1_0 pk1_1 pk1_0f pk1_1f pk2_0 pk2_1 pk2_0f pk2_1f pk3_0 pk3_1 pk3_0f pk3_1f pkf_0 pkf_1 pkf_2 pkf_3 pkf_4 pkf_5 pkf_6 pkf_7 pkf_8 pkf_0f pkf_1f pkf_2f pkf_3f pkf_4f pkf_5f pkf_6f pkf_7f pkf_8f pk5_0 pk5_1 pk5_0f pk5_1f
    generalize w5.alloc (.cells #[.int .i64 P2.length, .slice A5 n5 c5] 28) = u6 at *
    generalize w5.heap.size = g6 at *
    refine (H5.out _ A5 n5 c5 v5).mono ?_
    rintro e w6 ⟨A6, n6, c6, rfl, hn6, y6, hC⟩
    dsimp only at y6 ⊢
    replace kb := kb.on hC; replace kr := kr.on hC; replace k1 := k1.on hC; replace k2 := k2.on hC; replace k3 := k3.on hC; replace kf := kf.on hC; replace k5 := k5.on hC; replace v1 := v1.on hC; replace v2 := v2.on hC; replace v3 := v3.on hC; replace v5 := v5.on hC; replace bc := bc.trans (hC.mono bc.size); clear hC
    have HN6 := Lib.hid hn6; clear hn6
    obtain ⟨okf_0, okf_1, okf_2, okf_3, okf_4, okf_5, okf_6, okf_7, okf_8⟩ := kf.nine
    obtain ⟨okf_0f, okf_1f, okf_2f, okf_3f, okf_4f, okf_5f, okf_6f, okf_7f, okf_8f⟩ := kf.nineF
    have hG := st1_8 w6 (g5) (.slice A6 n6 c6)
    replace kb := kb.grown hG (some_ne (by omega)); replace kr := kr.grown hG (some_ne (by omega)); replace k1 := k1.grown hG (some_ne (by omega)); replace k2 := k2.grown hG (some_ne (by omega)); replace k3 := k3.grown hG (some_ne (by omega)); replace k5 := k5.grown hG (some_ne (by omega)); replace v1 := v1.off kf (no_u8_9 _ _ _ _ _ _ _ _ _ _ _) hG; replace v2 := v2.off kf (no_u8_9 _ _ _ _ _ _ _ _ _ _ _) hG; replace v3 := v3.off kf (no_u8_9 _ _ _ _ _ _ _ _ _ _ _) hG; replace v5 := v5.off kf (no_u8_9 _ _ _ _ _ _ _ _ _ _ _) hG; replace y6 := y6.off kf (no_u8_9 _ _ _ _ _ _ _ _ _ _ _) hG; replace bc := Below.off bc bc.size (by omega) hG; replace kf := kf.put1_8 (.slice A6 n6 c6); clear hG
    obtain ⟨pkb_0, pkb_1, pkb_0f, pkb_1f⟩ := kb.two
    obtain ⟨pkr_0, pkr_1, pkr_2, pkr_3, pkr_4, pkr_5, pkr_6, pkr_7, pkr_8⟩ := kr.nine
    obtain ⟨pkr_0f, pkr_1f, pkr_2f, pkr_3f, pkr_4f, pkr_5f, pkr_6f, pkr_7f, pkr_8f⟩ := kr.nineF
    obtain ⟨pk1_0, pk1_1, pk1_0f, pk1_1f⟩ := k1.two
    obtain ⟨pk2_0, pk2_1, pk2_0f, pk2_1f⟩ := k2.two
    obtain ⟨pk3_0, pk3_1, pk3_0f, pk3_1f⟩ := k3.two
    obtain ⟨pkf_0, pkf_1, pkf_2, pkf_3, pkf_4, pkf_5, pkf_6, pkf_7, pkf_8⟩ := kf.nine
    obtain ⟨pkf_0f, pkf_1f, pkf_2f, pkf_3f, pkf_4f, pkf_5f, pkf_6f, pkf_7f, pkf_8f⟩ := kf.nineF
    obtain ⟨pk5_0, pk5_1, pk5_0f, pk5_1f⟩ := k5.two
    go_wp2_with fail
    clear okf_0 okf_1 okf_2 okf_3 okf_4 okf_5 okf_6 okf_7 okf_8 okf_0f okf_1f okf_2f okf_3f okf_4f okf_5f okf_6f okf_7f okf_8f pkb_0 pkb_1 pkb_0f pkb_1f pkr_0 pkr_1 pkr_2 pkr_3 pkr_4 pkr_5 pkr_6 pkr_7 pkr_8 pkr_0f pkr_1f pkr_2f pkr_3f pkr_4f pkr_5f pkr_6f pkr_7f pkr_8f pk1_0 pk1_1 pk1_0f pk1_1f pk2_0 pk2_1 pk2_0f pk2_1f pk3_0 pk3_1 pk3_0f pk3_1f pkf_0 pkf_1 pkf_2 pkf_3 pkf_4 pkf_5 pkf_6 pkf_7 pkf_8 pkf_0f pkf_1f pkf_2f pkf_3f pkf_4f pkf_5f pkf_6f pkf_7f pkf_8f pk5_0 pk5_1 pk5_0f pk5_1f
    generalize w6.setCell ⟨g5, 8, none⟩ (.slice A6 n6 c6) = u7 at *
    refine (H6.out _ A3 n3 c3 v3).mono ?_
    rintro e w7 ⟨rfl, hC⟩
    dsimp only
    replace kb := kb.on hC; replace kr := kr.on hC; replace k1 := k1.on hC; replace k2 := k2.on hC; replace k3 := k3.on hC; replace kf := kf.on hC; replace k5 := k5.on hC; replace v1 := v1.on hC; replace v2 := v2.on hC; replace v3 := v3.on hC; replace v5 := v5.on hC; replace y6 := y6.on hC; replace bc := bc.trans (hC.mono bc.size); clear hC
    unfold zeroC
    have z_kc_kb := kb.lt
    have z_kc_kr := kr.lt
    have z_kc_k1 := k1.lt
    have z_kc_k2 := k2.lt
    have z_kc_k3 := k3.lt
    have z_kc_kf := kf.lt
    have z_kc_k5 := k5.lt
    have zb_kc := bc.size
    have kc := Blk.new w7 23 #[.int .i64 0, .int .i64 0, .int .i64 0, .int .i64 0, .int .i64 0]
    have al := Below.al w7 (.cells #[.int .i64 0, .int .i64 0, .int .i64 0, .int .i64 0, .int .i64 0] 23)
    replace kb := kb.on al; replace kr := kr.on al; replace k1 := k1.on al; replace k2 := k2.on al; replace k3 := k3.on al; replace kf := kf.on al; replace k5 := k5.on al; replace v1 := v1.on al; replace v2 := v2.on al; replace v3 := v3.on al; replace v5 := v5.on al; replace y6 := y6.on al; replace bc := bc.trans (al.mono bc.size); clear al
    have hst := run_storeVar_row (P := Tryd.prog) (w7.alloc (.cells #[.int .i64 0, .int .i64 0, .int .i64 0, .int .i64 0, .int .i64 0] 23)) (w.heap.size + 1) 26 26 _ #[.int .i64 0, .int .i64 0, .int .i64 0, .int .i64 0, .int .i64 0, .int .i64 0, .int .i64 0, .int .i64 0, .slice none 0 0] kr info26 rfl (by simp [Value.oneCell'])
    simp [go_sem, z_kc_kr] at hst
    have hG := only_setRow (w7.alloc (.cells #[.int .i64 0, .int .i64 0, .int .i64 0, .int .i64 0, .int .i64 0] 23)) (w.heap.size + 1) #[.int .i64 0, .int .i64 0, .int .i64 0, .int .i64 0, .int .i64 0, .int .i64 0, .int .i64 0, .int .i64 0, .slice none 0 0]
    replace kb := kb.grown hG (some_ne (by omega)); replace k1 := k1.grown hG (some_ne (by omega)); replace k2 := k2.grown hG (some_ne (by omega)); replace k3 := k3.grown hG (some_ne (by omega)); replace kf := kf.grown hG (some_ne (by omega)); replace k5 := k5.grown hG (some_ne (by omega)); replace kc := kc.grown hG (some_ne (by omega)); replace v1 := v1.off kr (no_u8_9 _ _ _ _ _ _ _ _ _ _ _) hG; replace v2 := v2.off kr (no_u8_9 _ _ _ _ _ _ _ _ _ _ _) hG; replace v3 := v3.off kr (no_u8_9 _ _ _ _ _ _ _ _ _ _ _) hG; replace v5 := v5.off kr (no_u8_9 _ _ _ _ _ _ _ _ _ _ _) hG; replace y6 := y6.off kr (no_u8_9 _ _ _ _ _ _ _ _ _ _ _) hG; replace bc := Below.off bc bc.size (by omega) hG; replace kr := Blk.row kr #[.int .i64 0, .int .i64 0, .int .i64 0, .int .i64 0, .int .i64 0, .int .i64 0, .int .i64 0, .int .i64 0, .slice none 0 0]; clear hG
    go_wp2
    obtain ⟨xkr_0, xkr_1, xkr_2, xkr_3, xkr_4, xkr_5, xkr_6, xkr_7, xkr_8⟩ := kr.nine
    obtain ⟨xkr_0f, xkr_1f, xkr_2f, xkr_3f, xkr_4f, xkr_5f, xkr_6f, xkr_7f, xkr_8f⟩ := kr.nineF
    exact bodyPost_ret (v := .tuple #[.agg #[.int .i64 0, .int .i64 0, .int .i64 0, .int .i64 0, .int .i64 0, .int .i64 0, .int .i64 0, .int .i64 0, .slice none 0 0], .int .i64 51]) (by simp [results, Tryd.results56, go_sem, xkr_0, xkr_1, xkr_2, xkr_3, xkr_4, xkr_5, xkr_6, xkr_7, xkr_8]) rfl ⟨none, 0, 0, by rw [HZ.out]; rfl, by rw [HZ.out]; rfl, by rw [HZ.out]; exact Byt.none _, bc⟩
end Go.Proofs.YtcfbeelljhjnoaaDoor
