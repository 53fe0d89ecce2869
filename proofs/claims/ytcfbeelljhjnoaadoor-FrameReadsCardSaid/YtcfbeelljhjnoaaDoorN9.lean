/-
  Encode of package frame answers as the document says. Conditions: that the bytes can be read, and that the program's tables hold what its text lays.
-/
import Derived.Test.YtcfbeelljhjnoaaDoorN8
import Derived.Test.YtcfbeelljhjnoaaDoorNA
import Derived.Test.YtcfbeelljhjnoaaDoorNQ
namespace Go.Proofs.YtcfbeelljhjnoaaDoor
open Go.RowKit

set_option maxRecDepth 8000 in
set_option maxHeartbeats 4000000 in
theorem encode_1 (R T P Mo Nx Me F : Int) (ds : List UInt8) (A : Option Addr) (n c : Nat) (w : World) (hn : n = ds.length) (_hA : Byt w.heap.size w A ds) (hm : mayF ⟨1, R, ⟨T, P, Mo, Nx, Me⟩, F, ds⟩ = true) (hT : Tab w) (hW : WTab w) :
    Calls Tryd.prog 8 #[.agg #[.int .i64 1, .int .i64 R, .int .i64 T, .int .i64 P, .int .i64 Mo, .int .i64 Nx, .int .i64 Me, .int .i64 F, .slice A n c]] w (ResV w (0, bitsF ⟨1, R, ⟨T, P, Mo, Nx, Me⟩, F, ds⟩)) := by
  obtain ⟨Z, hZ⟩ : ∃ Z, Z = bitsF ⟨1, R, ⟨T, P, Mo, Nx, Me⟩, F, ds⟩ := ⟨_, rfl⟩
  have hZ2 := hZ
  rw [frame_1 _ rfl] at hZ2
  rw [← hZ]
  dsimp only at hZ2
  have hm2 := (mayF_iff _).1 hm
  dsimp only at hm2
  obtain ⟨-, -, hC, hR0, hR4, hd8, -, hc1, -⟩ := hm2
  have hF : 0 ≤ F ∧ F < 8 := by omega
  have hTT := mayC_T hC
  dsimp only at hTT
  have hl := bitsOf_length ⟨T, P, Mo, Nx, Me⟩
  have hb := fun (W : World) (h : Below w.heap.size w W) => bits_list ⟨T, P, Mo, Nx, Me⟩ hC (hW.on h)
  have hck := fun (W : World) => check_1 R T P Mo Nx Me F ds A n c W hn
  rw [checkF_yes hm] at hck
  generalize bitsOf ⟨T, P, Mo, Nx, Me⟩ = S at *
  have hh := fun (W : World) (B : Option Addr) (m d : Nat) (hV : Bv W S B m) => headBits_1 R T P Mo Nx Me F A n c S B m d W hl hV hF hTT
  generalize hY : (numBits 0 2 ++ (numBits F.toNat 3 ++ (numBits T.toNat 8 ++ numBits 0 3)) : List Bool) = Y at *
  have hYl : Y.length = 16 := by rw [← hY]; simp [numBits_length]
  have HZ := Lib.hid hZ2; have HB := Lib.hid hb; have HCK := Lib.hid hck; have HH := Lib.hid hh; have HYL := Lib.hid hYl; have HL := Lib.hid hl
  clear hZ hZ2 hb hck hh hYl hY hl hm hc1 hC hR0 hR4 hd8 hn _hA hF hTT
  obtain ⟨kf, kr, bc⟩ := bx2 w #[.int .i64 1, .int .i64 R, .int .i64 T, .int .i64 P, .int .i64 Mo, .int .i64 Nx, .int .i64 Me, .int .i64 F, .slice A n c] #[.int .i64 0, .slice none 0 0] 26 28
  go_enter Tryd.func8, Tryd.ntmps8
  go_wp2_with fail
  generalize (w.alloc (.cells #[.int .i64 1, .int .i64 R, .int .i64 T, .int .i64 P, .int .i64 Mo, .int .i64 Nx, .int .i64 Me, .int .i64 F, .slice A n c] 26)).alloc (.cells #[.int .i64 0, .slice none 0 0] 28) = u1 at *
  refine (HCK.out _).mono ?_
  rintro e w1 ⟨rfl, hC⟩
  dsimp only
  replace kf := kf.on hC; replace kr := kr.on hC; replace bc := bc.trans (hC.mono bc.size); clear hC
  obtain ⟨pkf_0, pkf_1, pkf_2, pkf_3, pkf_4, pkf_5, pkf_6, pkf_7, pkf_8⟩ := kf.nine
  obtain ⟨pkf_0f, pkf_1f, pkf_2f, pkf_3f, pkf_4f, pkf_5f, pkf_6f, pkf_7f, pkf_8f⟩ := kf.nineF
  go_wp2_with fail
  clear pkf_0 pkf_1 pkf_2 pkf_3 pkf_4 pkf_5 pkf_6 pkf_7 pkf_8 pkf_0f pkf_1f pkf_2f pkf_3f pkf_4f pkf_5f pkf_6f pkf_7f pkf_8f
  refine (partsOf_1 _).mono ?_
  rintro e w2 ⟨rfl, hC⟩
  dsimp only
  replace kf := kf.on hC; replace kr := kr.on hC; replace bc := bc.trans (hC.mono bc.size); clear hC
  have z_kp_kf := kf.lt
  have z_kp_kr := kr.lt
  have zb_kp := bc.size
  have kp := Blk.new w2 51 #[.int .i64 11, .int .i64 3, .int .i64 0, .int .i64 24, .int .i64 0]
  have al := Below.al w2 (.cells #[.int .i64 11, .int .i64 3, .int .i64 0, .int .i64 24, .int .i64 0] 51)
  replace kf := kf.on al; replace kr := kr.on al; replace bc := bc.trans (al.mono bc.size); clear al
  obtain ⟨pkf_0, pkf_1, pkf_2, pkf_3, pkf_4, pkf_5, pkf_6, pkf_7, pkf_8⟩ := kf.nine
  obtain ⟨pkf_0f, pkf_1f, pkf_2f, pkf_3f, pkf_4f, pkf_5f, pkf_6f, pkf_7f, pkf_8f⟩ := kf.nineF
  go_wp2_with fail
  clear pkf_0 pkf_1 pkf_2 pkf_3 pkf_4 pkf_5 pkf_6 pkf_7 pkf_8 pkf_0f pkf_1f pkf_2f pkf_3f pkf_4f pkf_5f pkf_6f pkf_7f pkf_8f
  generalize w2.alloc (.cells #[.int .i64 11, .int .i64 3, .int .i64 0, .int .i64 24, .int .i64 0] 51) = u2 at *
  generalize w2.heap.size = g2 at *
  refine (HB.out _ bc).mono ?_
  rintro e w3 ⟨A3, n3, c3, rfl, v3, hC⟩
  dsimp only at v3 ⊢
  replace kf := kf.on hC; replace kr := kr.on hC; replace kp := kp.on hC; replace bc := bc.trans (hC.mono bc.size); clear hC
  have z_ks_kf := kf.lt
  have z_ks_kr := kr.lt
  have z_ks_kp := kp.lt
  have zb_ks := bc.size
  have ks := Blk.new w3 28 #[.int .i64 S.length, .slice A3 n3 c3]
  have al := Below.al w3 (.cells #[.int .i64 S.length, .slice A3 n3 c3] 28)
  replace kf := kf.on al; replace kr := kr.on al; replace kp := kp.on al; replace v3 := v3.on al; replace bc := bc.trans (al.mono bc.size); clear al
  obtain ⟨pkf_0, pkf_1, pkf_2, pkf_3, pkf_4, pkf_5, pkf_6, pkf_7, pkf_8⟩ := kf.nine
  obtain ⟨pkf_0f, pkf_1f, pkf_2f, pkf_3f, pkf_4f, pkf_5f, pkf_6f, pkf_7f, pkf_8f⟩ := kf.nineF
  obtain ⟨⟨pkp_0, pkp_1, pkp_2, pkp_3, pkp_4⟩, pkp_0f, pkp_1f, pkp_2f, pkp_3f, pkp_4f⟩ := kp.five
  obtain ⟨pks_0, pks_1, pks_0f, pks_1f⟩ := ks.two
  go_wp2_with fail
  clear pkf_0 pkf_1 pkf_2 pkf_3 pkf_4 pkf_5 pkf_6 pkf_7 pkf_8 pkf_0f pkf_1f pkf_2f pkf_3f pkf_4f pkf_5f pkf_6f pkf_7f pkf_8f pkp_0 pkp_1 pkp_2 pkp_3 pkp_4 pkp_0f pkp_1f pkp_2f pkp_3f pkp_4f pks_0 pks_1 pks_0f pks_1f
  generalize w3.alloc (.cells #[.int .i64 S.length, .slice A3 n3 c3] 28) = u3 at *
  generalize w3.heap.size = g3 at *
  refine (HH.out _ A3 n3 c3 v3).mono ?_
  rintro e w4 ⟨A4, n4, c4, rfl, v4, hC⟩
  dsimp only at v4 ⊢
  replace kf := kf.on hC; replace kr := kr.on hC; replace kp := kp.on hC; replace ks := ks.on hC; replace v3 := v3.on hC; replace bc := bc.trans (hC.mono bc.size); clear hC
  have z_ko_kf := kf.lt
  have z_ko_kr := kr.lt
  have z_ko_kp := kp.lt
  have z_ko_ks := ks.lt
  have zb_ko := bc.size
  have ko := Blk.new w4 28 #[.int .i64 Y.length, .slice A4 n4 c4]
  have al := Below.al w4 (.cells #[.int .i64 Y.length, .slice A4 n4 c4] 28)
  replace kf := kf.on al; replace kr := kr.on al; replace kp := kp.on al; replace ks := ks.on al; replace v3 := v3.on al; replace v4 := v4.on al; replace bc := bc.trans (al.mono bc.size); clear al
  obtain ⟨pkf_0, pkf_1, pkf_2, pkf_3, pkf_4, pkf_5, pkf_6, pkf_7, pkf_8⟩ := kf.nine
  obtain ⟨pkf_0f, pkf_1f, pkf_2f, pkf_3f, pkf_4f, pkf_5f, pkf_6f, pkf_7f, pkf_8f⟩ := kf.nineF
  obtain ⟨⟨pkp_0, pkp_1, pkp_2, pkp_3, pkp_4⟩, pkp_0f, pkp_1f, pkp_2f, pkp_3f, pkp_4f⟩ := kp.five
  obtain ⟨pks_0, pks_1, pks_0f, pks_1f⟩ := ks.two
  obtain ⟨pko_0, pko_1, pko_0f, pko_1f⟩ := ko.two
  go_wp2_with fail
  clear pkf_0 pkf_1 pkf_2 pkf_3 pkf_4 pkf_5 pkf_6 pkf_7 pkf_8 pkf_0f pkf_1f pkf_2f pkf_3f pkf_4f pkf_5f pkf_6f pkf_7f pkf_8f pkp_0 pkp_1 pkp_2 pkp_3 pkp_4 pkp_0f pkp_1f pkp_2f pkp_3f pkp_4f pks_0 pks_1 pks_0f pks_1f pko_0 pko_1 pko_0f pko_1f
  generalize w4.alloc (.cells #[.int .i64 Y.length, .slice A4 n4 c4] 28) = u4 at *
  generalize w4.heap.size = g4 at *
  refine (seal_list v4 (Bv.nil _) c4 0 (M := 0) rfl rfl (by rw [HYL.out]; decide) (hT.on bc)).mono ?_
  rintro e w5 ⟨A5, n5, c5, rfl, v5, hC⟩
  dsimp only at v5 ⊢
  replace kf := kf.on hC; replace kr := kr.on hC; replace kp := kp.on hC; replace ks := ks.on hC; replace ko := ko.on hC; replace v3 := v3.on hC; replace v4 := v4.on hC; replace bc := bc.trans (hC.mono bc.size); clear hC
  generalize hX5 : sealB [] Y = X5 at v5 ⊢
  have l5 : X5.length = 40 := by rw [← hX5, sealB_length, HYL.out]
  have HL5 := Lib.hid l5; have HX5 := Lib.hid hX5; clear l5 hX5
  obtain ⟨oko_0, oko_1, oko_0f, oko_1f⟩ := ko.two
  have hG := st2 w5 (g4) (.int .i64 X5.length) (.slice A5 n5 c5)
  replace kf := kf.grown hG (some_ne (by omega)); replace kr := kr.grown hG (some_ne (by omega)); replace kp := kp.grown hG (some_ne (by omega)); replace ks := ks.grown hG (some_ne (by omega)); replace v3 := v3.off ko (no_u8 _ _ _ _) hG; replace v4 := v4.off ko (no_u8 _ _ _ _) hG; replace v5 := v5.off ko (no_u8 _ _ _ _) hG; replace bc := Below.off bc bc.size (by omega) hG; replace ko := ko.put2 (.int .i64 X5.length) (.slice A5 n5 c5); clear hG
  obtain ⟨⟨ykp_0, ykp_1, ykp_2, ykp_3, ykp_4⟩, ykp_0f, ykp_1f, ykp_2f, ykp_3f, ykp_4f⟩ := kp.five
  obtain ⟨yko_0, yko_1, yko_0f, yko_1f⟩ := ko.two
  obtain ⟨ykr_0, ykr_1, ykr_0f, ykr_1f⟩ := kr.two
  have hG := st2 ((w5.setCell ⟨g4, 0, none⟩ (.int .i64 X5.length)).setCell ⟨g4, 1, none⟩ (.slice A5 n5 c5)) (w.heap.size + 1) (.int .i64 X5.length) (.slice A5 n5 c5)
  replace kf := kf.grown hG (some_ne (by omega)); replace kp := kp.grown hG (some_ne (by omega)); replace ks := ks.grown hG (some_ne (by omega)); replace ko := ko.grown hG (some_ne (by omega)); replace v3 := v3.off kr (no_u8 _ _ _ _) hG; replace v4 := v4.off kr (no_u8 _ _ _ _) hG; replace v5 := v5.off kr (no_u8 _ _ _ _) hG; replace bc := Below.off bc bc.size (by omega) hG; replace kr := kr.put2 (.int .i64 X5.length) (.slice A5 n5 c5); clear hG
  go_wp2
  have hz : Z = X5 := by rw [HZ.out, ← HX5.out]
  rw [hz]
  exact bodyPost_ret (v := .tuple #[.agg #[.int .i64 X5.length, .slice A5 n5 c5], .int .i64 0]) (by simp [results, Tryd.results8, go_sem, ykr_0, ykr_1]) rfl ⟨A5, n5, c5, rfl, v5, bc⟩
set_option maxRecDepth 8000 in
set_option maxHeartbeats 4000000 in
theorem encode_2 (R T P Mo Nx Me F : Int) (ds : List UInt8) (A : Option Addr) (n c : Nat) (w : World) (hn : n = ds.length) (hA : Byt w.heap.size w A ds) (hm : mayF ⟨2, R, ⟨T, P, Mo, Nx, Me⟩, F, ds⟩ = true) (hT : Tab w) (hW : WTab w) :
    Calls Tryd.prog 8 #[.agg #[.int .i64 2, .int .i64 R, .int .i64 T, .int .i64 P, .int .i64 Mo, .int .i64 Nx, .int .i64 Me, .int .i64 F, .slice A n c]] w (ResV w (0, bitsF ⟨2, R, ⟨T, P, Mo, Nx, Me⟩, F, ds⟩)) := by
  obtain ⟨Z, hZ⟩ : ∃ Z, Z = bitsF ⟨2, R, ⟨T, P, Mo, Nx, Me⟩, F, ds⟩ := ⟨_, rfl⟩
  have hZ2 := hZ
  rw [frame_2 _ rfl] at hZ2
  rw [← hZ]
  dsimp only at hZ2
  have hm2 := (mayF_iff _).1 hm
  dsimp only at hm2
  obtain ⟨-, -, hC, hR0, hR4, hd8, -, hc1, -⟩ := hm2
  have hl := bitsOf_length ⟨T, P, Mo, Nx, Me⟩
  have hb := fun (W : World) (h : Below w.heap.size w W) => bits_list ⟨T, P, Mo, Nx, Me⟩ hC (hW.on h)
  have hck := fun (W : World) => check_2 R T P Mo Nx Me F ds A n c W hn
  rw [checkF_yes hm] at hck
  have hd := fun (W : World) (h : Below w.heap.size w W) => dataBits_any A n c ds W hn (by omega) (hA.on h)
  have hdl := dataL_length ds
  generalize bitsOf ⟨T, P, Mo, Nx, Me⟩ = S at *
  have hh := fun (W : World) (B : Option Addr) (m d : Nat) (hV : Bv W S B m) => headBits_2 R T P Mo Nx Me F A n c S B m d W hl hV ⟨hR0, hR4⟩
  generalize hY : (numBits 1 2 ++ numBits R.toNat 3 : List Bool) = Y at *
  have hYl : Y.length = 5 := by rw [← hY]; simp [numBits_length]
  have hdl8 : (dataL ds).length ≤ 64 := by omega
  generalize dataL ds = D at *
  have HD := Lib.hid hd; have HDL := Lib.hid hdl8; clear hd hdl hdl8
  have HZ := Lib.hid hZ2; have HB := Lib.hid hb; have HCK := Lib.hid hck; have HH := Lib.hid hh; have HYL := Lib.hid hYl; have HL := Lib.hid hl
  clear hZ hZ2 hb hck hh hYl hY hl hm hc1 hC hR0 hR4 hd8 hn hA
  obtain ⟨kf, kr, bc⟩ := bx2 w #[.int .i64 2, .int .i64 R, .int .i64 T, .int .i64 P, .int .i64 Mo, .int .i64 Nx, .int .i64 Me, .int .i64 F, .slice A n c] #[.int .i64 0, .slice none 0 0] 26 28
  go_enter Tryd.func8, Tryd.ntmps8
  go_wp2_with fail
  generalize (w.alloc (.cells #[.int .i64 2, .int .i64 R, .int .i64 T, .int .i64 P, .int .i64 Mo, .int .i64 Nx, .int .i64 Me, .int .i64 F, .slice A n c] 26)).alloc (.cells #[.int .i64 0, .slice none 0 0] 28) = u1 at *
  refine (HCK.out _).mono ?_
  rintro e w1 ⟨rfl, hC⟩
  dsimp only
  replace kf := kf.on hC; replace kr := kr.on hC; replace bc := bc.trans (hC.mono bc.size); clear hC
  obtain ⟨pkf_0, pkf_1, pkf_2, pkf_3, pkf_4, pkf_5, pkf_6, pkf_7, pkf_8⟩ := kf.nine
  obtain ⟨pkf_0f, pkf_1f, pkf_2f, pkf_3f, pkf_4f, pkf_5f, pkf_6f, pkf_7f, pkf_8f⟩ := kf.nineF
  go_wp2_with fail
  clear pkf_0 pkf_1 pkf_2 pkf_3 pkf_4 pkf_5 pkf_6 pkf_7 pkf_8 pkf_0f pkf_1f pkf_2f pkf_3f pkf_4f pkf_5f pkf_6f pkf_7f pkf_8f
  refine (partsOf_2 _).mono ?_
  rintro e w2 ⟨rfl, hC⟩
  dsimp only
  replace kf := kf.on hC; replace kr := kr.on hC; replace bc := bc.trans (hC.mono bc.size); clear hC
  have z_kp_kf := kf.lt
  have z_kp_kr := kr.lt
  have zb_kp := bc.size
  have kp := Blk.new w2 51 #[.int .i64 3, .int .i64 0, .int .i64 0, .int .i64 0, .int .i64 8]
  have al := Below.al w2 (.cells #[.int .i64 3, .int .i64 0, .int .i64 0, .int .i64 0, .int .i64 8] 51)
  replace kf := kf.on al; replace kr := kr.on al; replace bc := bc.trans (al.mono bc.size); clear al
  obtain ⟨pkf_0, pkf_1, pkf_2, pkf_3, pkf_4, pkf_5, pkf_6, pkf_7, pkf_8⟩ := kf.nine
  obtain ⟨pkf_0f, pkf_1f, pkf_2f, pkf_3f, pkf_4f, pkf_5f, pkf_6f, pkf_7f, pkf_8f⟩ := kf.nineF
  go_wp2_with fail
  clear pkf_0 pkf_1 pkf_2 pkf_3 pkf_4 pkf_5 pkf_6 pkf_7 pkf_8 pkf_0f pkf_1f pkf_2f pkf_3f pkf_4f pkf_5f pkf_6f pkf_7f pkf_8f
  generalize w2.alloc (.cells #[.int .i64 3, .int .i64 0, .int .i64 0, .int .i64 0, .int .i64 8] 51) = u2 at *
  generalize w2.heap.size = g2 at *
  refine (HB.out _ bc).mono ?_
  rintro e w3 ⟨A3, n3, c3, rfl, v3, hC⟩
  dsimp only at v3 ⊢
  replace kf := kf.on hC; replace kr := kr.on hC; replace kp := kp.on hC; replace bc := bc.trans (hC.mono bc.size); clear hC
  have z_ks_kf := kf.lt
  have z_ks_kr := kr.lt
  have z_ks_kp := kp.lt
  have zb_ks := bc.size
  have ks := Blk.new w3 28 #[.int .i64 S.length, .slice A3 n3 c3]
  have al := Below.al w3 (.cells #[.int .i64 S.length, .slice A3 n3 c3] 28)
  replace kf := kf.on al; replace kr := kr.on al; replace kp := kp.on al; replace v3 := v3.on al; replace bc := bc.trans (al.mono bc.size); clear al
  obtain ⟨pkf_0, pkf_1, pkf_2, pkf_3, pkf_4, pkf_5, pkf_6, pkf_7, pkf_8⟩ := kf.nine
  obtain ⟨pkf_0f, pkf_1f, pkf_2f, pkf_3f, pkf_4f, pkf_5f, pkf_6f, pkf_7f, pkf_8f⟩ := kf.nineF
  obtain ⟨⟨pkp_0, pkp_1, pkp_2, pkp_3, pkp_4⟩, pkp_0f, pkp_1f, pkp_2f, pkp_3f, pkp_4f⟩ := kp.five
  obtain ⟨pks_0, pks_1, pks_0f, pks_1f⟩ := ks.two
  go_wp2_with fail
  clear pkf_0 pkf_1 pkf_2 pkf_3 pkf_4 pkf_5 pkf_6 pkf_7 pkf_8 pkf_0f pkf_1f pkf_2f pkf_3f pkf_4f pkf_5f pkf_6f pkf_7f pkf_8f pkp_0 pkp_1 pkp_2 pkp_3 pkp_4 pkp_0f pkp_1f pkp_2f pkp_3f pkp_4f pks_0 pks_1 pks_0f pks_1f
  generalize w3.alloc (.cells #[.int .i64 S.length, .slice A3 n3 c3] 28) = u3 at *
  generalize w3.heap.size = g3 at *
  refine (HH.out _ A3 n3 c3 v3).mono ?_
  rintro e w4 ⟨A4, n4, c4, rfl, v4, hC⟩
  dsimp only at v4 ⊢
  replace kf := kf.on hC; replace kr := kr.on hC; replace kp := kp.on hC; replace ks := ks.on hC; replace v3 := v3.on hC; replace bc := bc.trans (hC.mono bc.size); clear hC
  have z_ko_kf := kf.lt
  have z_ko_kr := kr.lt
  have z_ko_kp := kp.lt
  have z_ko_ks := ks.lt
  have zb_ko := bc.size
  have ko := Blk.new w4 28 #[.int .i64 Y.length, .slice A4 n4 c4]
  have al := Below.al w4 (.cells #[.int .i64 Y.length, .slice A4 n4 c4] 28)
  replace kf := kf.on al; replace kr := kr.on al; replace kp := kp.on al; replace ks := ks.on al; replace v3 := v3.on al; replace v4 := v4.on al; replace bc := bc.trans (al.mono bc.size); clear al
  obtain ⟨pkf_0, pkf_1, pkf_2, pkf_3, pkf_4, pkf_5, pkf_6, pkf_7, pkf_8⟩ := kf.nine
  obtain ⟨pkf_0f, pkf_1f, pkf_2f, pkf_3f, pkf_4f, pkf_5f, pkf_6f, pkf_7f, pkf_8f⟩ := kf.nineF
  obtain ⟨⟨pkp_0, pkp_1, pkp_2, pkp_3, pkp_4⟩, pkp_0f, pkp_1f, pkp_2f, pkp_3f, pkp_4f⟩ := kp.five
  obtain ⟨pks_0, pks_1, pks_0f, pks_1f⟩ := ks.two
  obtain ⟨pko_0, pko_1, pko_0f, pko_1f⟩ := ko.two
  go_wp2_with fail
  clear pkf_0 pkf_1 pkf_2 pkf_3 pkf_4 pkf_5 pkf_6 pkf_7 pkf_8 pkf_0f pkf_1f pkf_2f pkf_3f pkf_4f pkf_5f pkf_6f pkf_7f pkf_8f pkp_0 pkp_1 pkp_2 pkp_3 pkp_4 pkp_0f pkp_1f pkp_2f pkp_3f pkp_4f pks_0 pks_1 pks_0f pks_1f pko_0 pko_1 pko_0f pko_1f
  generalize w4.alloc (.cells #[.int .i64 Y.length, .slice A4 n4 c4] 28) = u4 at *
  generalize w4.heap.size = g4 at *
  have hdr : Below u4.heap.size u4 u4.drew := (Below.refl _ _).drew
  replace kf := kf.on hdr; replace kr := kr.on hdr; replace kp := kp.on hdr; replace ks := ks.on hdr; replace ko := ko.on hdr; replace v3 := v3.on hdr; replace v4 := v4.on hdr; replace bc := bc.trans (hdr.mono bc.size)
  clear hdr
  obtain ⟨pkf_0, pkf_1, pkf_2, pkf_3, pkf_4, pkf_5, pkf_6, pkf_7, pkf_8⟩ := kf.nine
  obtain ⟨pkf_0f, pkf_1f, pkf_2f, pkf_3f, pkf_4f, pkf_5f, pkf_6f, pkf_7f, pkf_8f⟩ := kf.nineF
  obtain ⟨pko_0, pko_1, pko_0f, pko_1f⟩ := ko.two
  go_region_with (first | (have _ := v6; go_at_call 30; clear pkf_0 pkf_1 pkf_2 pkf_3 pkf_4 pkf_5 pkf_6 pkf_7 pkf_8 pkf_0f pkf_1f pkf_2f pkf_3f pkf_4f pkf_5f pkf_6f pkf_7f pkf_8f pko_0 pko_1 pko_0f pko_1f; have z_kq_kf := kf.lt; have z_kq_kr := kr.lt; have z_kq_kp := kp.lt; have z_kq_ks := ks.lt; have z_kq_ko := ko.lt; have zb_kq := bc.size; have kq := Blk.new w6 28 #[.int .i64 Y.length, .slice A4 n4 c4, .int .i64 D.length, .slice A6 n6 c6]; have al := Below.al w6 (.cells #[.int .i64 Y.length, .slice A4 n4 c4, .int .i64 D.length, .slice A6 n6 c6] 28); replace kf := kf.on al; replace kr := kr.on al; replace kp := kp.on al; replace ks := ks.on al; replace ko := ko.on al; replace v3 := v3.on al; replace v4 := v4.on al; replace v6 := v6.on al; replace bc := bc.trans (al.mono bc.size); clear al; refine (join_list v4 v6 kq rfl rfl (by have := HDL.out; rw [HYL.out]; omega)).mono ?_; rintro e w7 ⟨A7, n7, c7, rfl, v7, hC⟩; dsimp only at v7 ⊢; replace kf := kf.on hC; replace kr := kr.on hC; replace kp := kp.on hC; replace ks := ks.on hC; replace ko := ko.on hC; replace kq := kq.on hC; replace v3 := v3.on hC; replace v4 := v4.on hC; replace v6 := v6.on hC; replace bc := bc.trans (hC.mono bc.size); clear hC; generalize hX7 : Y ++ D = X7 at *; have l7 : X7.length ≤ 119 := (by have := HDL.out; rw [← hX7, List.length_append, HYL.out]; omega); have HL7 := Lib.hid l7; have HX7 := Lib.hid hX7; clear l7 hX7; obtain ⟨pkf_0, pkf_1, pkf_2, pkf_3, pkf_4, pkf_5, pkf_6, pkf_7, pkf_8⟩ := kf.nine; obtain ⟨pkf_0f, pkf_1f, pkf_2f, pkf_3f, pkf_4f, pkf_5f, pkf_6f, pkf_7f, pkf_8f⟩ := kf.nineF; obtain ⟨pko_0, pko_1, pko_0f, pko_1f⟩ := ko.two) | (go_at_call 31; refine (HD.out _ bc).mono ?_; rintro e w6 ⟨A6, n6, c6, rfl, v6, hC⟩; dsimp only at v6 ⊢; replace kf := kf.on hC; replace kr := kr.on hC; replace kp := kp.on hC; replace ks := ks.on hC; replace ko := ko.on hC; replace v3 := v3.on hC; replace v4 := v4.on hC; replace bc := bc.trans (hC.mono bc.size); clear hC; clear pkf_0 pkf_1 pkf_2 pkf_3 pkf_4 pkf_5 pkf_6 pkf_7 pkf_8 pkf_0f pkf_1f pkf_2f pkf_3f pkf_4f pkf_5f pkf_6f pkf_7f pkf_8f pko_0 pko_1 pko_0f pko_1f; obtain ⟨pkf_0, pkf_1, pkf_2, pkf_3, pkf_4, pkf_5, pkf_6, pkf_7, pkf_8⟩ := kf.nine; obtain ⟨pkf_0f, pkf_1f, pkf_2f, pkf_3f, pkf_4f, pkf_5f, pkf_6f, pkf_7f, pkf_8f⟩ := kf.nineF; obtain ⟨pko_0, pko_1, pko_0f, pko_1f⟩ := ko.two))
  all_goals
    clear kq v6 v4
    obtain ⟨oko_0, oko_1, oko_0f, oko_1f⟩ := ko.two
    have hG := st2 w7 (g4) (.int .i64 X7.length) (.slice A7 n7 c7)
    replace kf := kf.grown hG (some_ne (by omega)); replace kr := kr.grown hG (some_ne (by omega)); replace kp := kp.grown hG (some_ne (by omega)); replace ks := ks.grown hG (some_ne (by omega)); replace v3 := v3.off ko (no_u8 _ _ _ _) hG; replace v7 := v7.off ko (no_u8 _ _ _ _) hG; replace bc := Below.off bc bc.size (by omega) hG; replace ko := ko.put2 (.int .i64 X7.length) (.slice A7 n7 c7); clear hG
    obtain ⟨pkf_0, pkf_1, pkf_2, pkf_3, pkf_4, pkf_5, pkf_6, pkf_7, pkf_8⟩ := kf.nine
    obtain ⟨pkf_0f, pkf_1f, pkf_2f, pkf_3f, pkf_4f, pkf_5f, pkf_6f, pkf_7f, pkf_8f⟩ := kf.nineF
    obtain ⟨pks_0, pks_1, pks_0f, pks_1f⟩ := ks.two
    obtain ⟨pko_0, pko_1, pko_0f, pko_1f⟩ := ko.two
    go_wp2_with fail
    clear oko_0 oko_1 oko_0f oko_1f pkf_0 pkf_1 pkf_2 pkf_3 pkf_4 pkf_5 pkf_6 pkf_7 pkf_8 pkf_0f pkf_1f pkf_2f pkf_3f pkf_4f pkf_5f pkf_6f pkf_7f pkf_8f pks_0 pks_1 pks_0f pks_1f pko_0 pko_1 pko_0f pko_1f
    generalize (w7.setCell ⟨g4, 0, none⟩ (.int .i64 X7.length)).setCell ⟨g4, 1, none⟩ (.slice A7 n7 c7) = u5 at *
    refine (seal_list v7 v3 c7 c3 rfl rfl (by have := HL7.out; omega) (hT.on bc)).mono ?_
    rintro e w8 ⟨A8, n8, c8, rfl, v8, hC⟩
    dsimp only at v8 ⊢
    replace kf := kf.on hC; replace kr := kr.on hC; replace kp := kp.on hC; replace ks := ks.on hC; replace ko := ko.on hC; replace v3 := v3.on hC; replace v7 := v7.on hC; replace bc := bc.trans (hC.mono bc.size); clear hC
    generalize hX8 : sealB S X7 = X8 at v8 ⊢
    have HX8 := Lib.hid hX8; clear hX8
    obtain ⟨oko_0, oko_1, oko_0f, oko_1f⟩ := ko.two
    have hG := st2 w8 (g4) (.int .i64 X8.length) (.slice A8 n8 c8)
    replace kf := kf.grown hG (some_ne (by omega)); replace kr := kr.grown hG (some_ne (by omega)); replace kp := kp.grown hG (some_ne (by omega)); replace ks := ks.grown hG (some_ne (by omega)); replace v3 := v3.off ko (no_u8 _ _ _ _) hG; replace v7 := v7.off ko (no_u8 _ _ _ _) hG; replace v8 := v8.off ko (no_u8 _ _ _ _) hG; replace bc := Below.off bc bc.size (by omega) hG; replace ko := ko.put2 (.int .i64 X8.length) (.slice A8 n8 c8); clear hG
    obtain ⟨⟨ykp_0, ykp_1, ykp_2, ykp_3, ykp_4⟩, ykp_0f, ykp_1f, ykp_2f, ykp_3f, ykp_4f⟩ := kp.five
    obtain ⟨yko_0, yko_1, yko_0f, yko_1f⟩ := ko.two
    obtain ⟨ykr_0, ykr_1, ykr_0f, ykr_1f⟩ := kr.two
    have hG := st2 ((w8.setCell ⟨g4, 0, none⟩ (.int .i64 X8.length)).setCell ⟨g4, 1, none⟩ (.slice A8 n8 c8)) (w.heap.size + 1) (.int .i64 X8.length) (.slice A8 n8 c8)
    replace kf := kf.grown hG (some_ne (by omega)); replace kp := kp.grown hG (some_ne (by omega)); replace ks := ks.grown hG (some_ne (by omega)); replace ko := ko.grown hG (some_ne (by omega)); replace v3 := v3.off kr (no_u8 _ _ _ _) hG; replace v7 := v7.off kr (no_u8 _ _ _ _) hG; replace v8 := v8.off kr (no_u8 _ _ _ _) hG; replace bc := Below.off bc bc.size (by omega) hG; replace kr := kr.put2 (.int .i64 X8.length) (.slice A8 n8 c8); clear hG
    go_wp2
    have hz : Z = X8 := by rw [HZ.out, ← HX8.out, ← HX7.out]
    rw [hz]
    exact bodyPost_ret (v := .tuple #[.agg #[.int .i64 X8.length, .slice A8 n8 c8], .int .i64 0]) (by simp [results, Tryd.results8, go_sem, ykr_0, ykr_1]) rfl ⟨A8, n8, c8, rfl, v8, bc⟩
set_option maxRecDepth 8000 in
set_option maxHeartbeats 4000000 in
theorem encode_3 (R T P Mo Nx Me F : Int) (ds : List UInt8) (A : Option Addr) (n c : Nat) (w : World) (hn : n = ds.length) (_hA : Byt w.heap.size w A ds) (hm : mayF ⟨3, R, ⟨T, P, Mo, Nx, Me⟩, F, ds⟩ = true) (hT : Tab w) (hW : WTab w) :
    Calls Tryd.prog 8 #[.agg #[.int .i64 3, .int .i64 R, .int .i64 T, .int .i64 P, .int .i64 Mo, .int .i64 Nx, .int .i64 Me, .int .i64 F, .slice A n c]] w (ResV w (0, bitsF ⟨3, R, ⟨T, P, Mo, Nx, Me⟩, F, ds⟩)) := by
  obtain ⟨Z, hZ⟩ : ∃ Z, Z = bitsF ⟨3, R, ⟨T, P, Mo, Nx, Me⟩, F, ds⟩ := ⟨_, rfl⟩
  have hZ2 := hZ
  rw [frame_3 _ rfl] at hZ2
  rw [← hZ]
  dsimp only at hZ2
  have hm2 := (mayF_iff _).1 hm
  dsimp only at hm2
  obtain ⟨-, -, hC, hR0, hR4, hd8, -, hc1, -⟩ := hm2
  have hl := bitsOf_length ⟨T, P, Mo, Nx, Me⟩
  have hb := fun (W : World) (h : Below w.heap.size w W) => bits_list ⟨T, P, Mo, Nx, Me⟩ hC (hW.on h)
  have hck := fun (W : World) => check_3 R T P Mo Nx Me F ds A n c W hn
  rw [checkF_yes hm] at hck
  generalize bitsOf ⟨T, P, Mo, Nx, Me⟩ = S at *
  have hh := fun (W : World) (B : Option Addr) (m d : Nat) (hV : Bv W S B m) => headBits_3 R T P Mo Nx Me F A n c S B m d W hl hV ⟨hR0, hR4⟩
  generalize hY : (numBits 2 2 ++ (numBits R.toNat 3 ++ (numBits 0 1 ++ S)) : List Bool) = Y at *
  have hYl : Y.length = 30 := by rw [← hY]; simp [numBits_length, hl]
  have HZ := Lib.hid hZ2; have HB := Lib.hid hb; have HCK := Lib.hid hck; have HH := Lib.hid hh; have HYL := Lib.hid hYl; have HL := Lib.hid hl
  clear hZ hZ2 hb hck hh hYl hY hl hm hc1 hC hR0 hR4 hd8 hn _hA
  obtain ⟨kf, kr, bc⟩ := bx2 w #[.int .i64 3, .int .i64 R, .int .i64 T, .int .i64 P, .int .i64 Mo, .int .i64 Nx, .int .i64 Me, .int .i64 F, .slice A n c] #[.int .i64 0, .slice none 0 0] 26 28
  go_enter Tryd.func8, Tryd.ntmps8
  go_wp2_with fail
  generalize (w.alloc (.cells #[.int .i64 3, .int .i64 R, .int .i64 T, .int .i64 P, .int .i64 Mo, .int .i64 Nx, .int .i64 Me, .int .i64 F, .slice A n c] 26)).alloc (.cells #[.int .i64 0, .slice none 0 0] 28) = u1 at *
  refine (HCK.out _).mono ?_
  rintro e w1 ⟨rfl, hC⟩
  dsimp only
  replace kf := kf.on hC; replace kr := kr.on hC; replace bc := bc.trans (hC.mono bc.size); clear hC
  obtain ⟨pkf_0, pkf_1, pkf_2, pkf_3, pkf_4, pkf_5, pkf_6, pkf_7, pkf_8⟩ := kf.nine
  obtain ⟨pkf_0f, pkf_1f, pkf_2f, pkf_3f, pkf_4f, pkf_5f, pkf_6f, pkf_7f, pkf_8f⟩ := kf.nineF
  go_wp2_with fail
  clear pkf_0 pkf_1 pkf_2 pkf_3 pkf_4 pkf_5 pkf_6 pkf_7 pkf_8 pkf_0f pkf_1f pkf_2f pkf_3f pkf_4f pkf_5f pkf_6f pkf_7f pkf_8f
  refine (partsOf_3 _).mono ?_
  rintro e w2 ⟨rfl, hC⟩
  dsimp only
  replace kf := kf.on hC; replace kr := kr.on hC; replace bc := bc.trans (hC.mono bc.size); clear hC
  have z_kp_kf := kf.lt
  have z_kp_kr := kr.lt
  have zb_kp := bc.size
  have kp := Blk.new w2 51 #[.int .i64 3, .int .i64 1, .int .i64 24, .int .i64 24, .int .i64 0]
  have al := Below.al w2 (.cells #[.int .i64 3, .int .i64 1, .int .i64 24, .int .i64 24, .int .i64 0] 51)
  replace kf := kf.on al; replace kr := kr.on al; replace bc := bc.trans (al.mono bc.size); clear al
  obtain ⟨pkf_0, pkf_1, pkf_2, pkf_3, pkf_4, pkf_5, pkf_6, pkf_7, pkf_8⟩ := kf.nine
  obtain ⟨pkf_0f, pkf_1f, pkf_2f, pkf_3f, pkf_4f, pkf_5f, pkf_6f, pkf_7f, pkf_8f⟩ := kf.nineF
  go_wp2_with fail
  clear pkf_0 pkf_1 pkf_2 pkf_3 pkf_4 pkf_5 pkf_6 pkf_7 pkf_8 pkf_0f pkf_1f pkf_2f pkf_3f pkf_4f pkf_5f pkf_6f pkf_7f pkf_8f
  generalize w2.alloc (.cells #[.int .i64 3, .int .i64 1, .int .i64 24, .int .i64 24, .int .i64 0] 51) = u2 at *
  generalize w2.heap.size = g2 at *
  refine (HB.out _ bc).mono ?_
  rintro e w3 ⟨A3, n3, c3, rfl, v3, hC⟩
  dsimp only at v3 ⊢
  replace kf := kf.on hC; replace kr := kr.on hC; replace kp := kp.on hC; replace bc := bc.trans (hC.mono bc.size); clear hC
  have z_ks_kf := kf.lt
  have z_ks_kr := kr.lt
  have z_ks_kp := kp.lt
  have zb_ks := bc.size
  have ks := Blk.new w3 28 #[.int .i64 S.length, .slice A3 n3 c3]
  have al := Below.al w3 (.cells #[.int .i64 S.length, .slice A3 n3 c3] 28)
  replace kf := kf.on al; replace kr := kr.on al; replace kp := kp.on al; replace v3 := v3.on al; replace bc := bc.trans (al.mono bc.size); clear al
  obtain ⟨pkf_0, pkf_1, pkf_2, pkf_3, pkf_4, pkf_5, pkf_6, pkf_7, pkf_8⟩ := kf.nine
  obtain ⟨pkf_0f, pkf_1f, pkf_2f, pkf_3f, pkf_4f, pkf_5f, pkf_6f, pkf_7f, pkf_8f⟩ := kf.nineF
  obtain ⟨⟨pkp_0, pkp_1, pkp_2, pkp_3, pkp_4⟩, pkp_0f, pkp_1f, pkp_2f, pkp_3f, pkp_4f⟩ := kp.five
  obtain ⟨pks_0, pks_1, pks_0f, pks_1f⟩ := ks.two
  go_wp2_with fail
  clear pkf_0 pkf_1 pkf_2 pkf_3 pkf_4 pkf_5 pkf_6 pkf_7 pkf_8 pkf_0f pkf_1f pkf_2f pkf_3f pkf_4f pkf_5f pkf_6f pkf_7f pkf_8f pkp_0 pkp_1 pkp_2 pkp_3 pkp_4 pkp_0f pkp_1f pkp_2f pkp_3f pkp_4f pks_0 pks_1 pks_0f pks_1f
  generalize w3.alloc (.cells #[.int .i64 S.length, .slice A3 n3 c3] 28) = u3 at *
  generalize w3.heap.size = g3 at *
  refine (HH.out _ A3 n3 c3 v3).mono ?_
  rintro e w4 ⟨A4, n4, c4, rfl, v4, hC⟩
  dsimp only at v4 ⊢
  replace kf := kf.on hC; replace kr := kr.on hC; replace kp := kp.on hC; replace ks := ks.on hC; replace v3 := v3.on hC; replace bc := bc.trans (hC.mono bc.size); clear hC
  have z_ko_kf := kf.lt
  have z_ko_kr := kr.lt
  have z_ko_kp := kp.lt
  have z_ko_ks := ks.lt
  have zb_ko := bc.size
  have ko := Blk.new w4 28 #[.int .i64 Y.length, .slice A4 n4 c4]
  have al := Below.al w4 (.cells #[.int .i64 Y.length, .slice A4 n4 c4] 28)
  replace kf := kf.on al; replace kr := kr.on al; replace kp := kp.on al; replace ks := ks.on al; replace v3 := v3.on al; replace v4 := v4.on al; replace bc := bc.trans (al.mono bc.size); clear al
  obtain ⟨pkf_0, pkf_1, pkf_2, pkf_3, pkf_4, pkf_5, pkf_6, pkf_7, pkf_8⟩ := kf.nine
  obtain ⟨pkf_0f, pkf_1f, pkf_2f, pkf_3f, pkf_4f, pkf_5f, pkf_6f, pkf_7f, pkf_8f⟩ := kf.nineF
  obtain ⟨⟨pkp_0, pkp_1, pkp_2, pkp_3, pkp_4⟩, pkp_0f, pkp_1f, pkp_2f, pkp_3f, pkp_4f⟩ := kp.five
  obtain ⟨pks_0, pks_1, pks_0f, pks_1f⟩ := ks.two
  obtain ⟨pko_0, pko_1, pko_0f, pko_1f⟩ := ko.two
  go_wp2_with fail
  clear pkf_0 pkf_1 pkf_2 pkf_3 pkf_4 pkf_5 pkf_6 pkf_7 pkf_8 pkf_0f pkf_1f pkf_2f pkf_3f pkf_4f pkf_5f pkf_6f pkf_7f pkf_8f pkp_0 pkp_1 pkp_2 pkp_3 pkp_4 pkp_0f pkp_1f pkp_2f pkp_3f pkp_4f pks_0 pks_1 pks_0f pks_1f pko_0 pko_1 pko_0f pko_1f
  generalize w4.alloc (.cells #[.int .i64 Y.length, .slice A4 n4 c4] 28) = u4 at *
  generalize w4.heap.size = g4 at *
  refine (seal_list v4 (Bv.nil _) c4 0 (M := 0) rfl rfl (by rw [HYL.out]; decide) (hT.on bc)).mono ?_
  rintro e w5 ⟨A5, n5, c5, rfl, v5, hC⟩
  dsimp only at v5 ⊢
  replace kf := kf.on hC; replace kr := kr.on hC; replace kp := kp.on hC; replace ks := ks.on hC; replace ko := ko.on hC; replace v3 := v3.on hC; replace v4 := v4.on hC; replace bc := bc.trans (hC.mono bc.size); clear hC
  generalize hX5 : sealB [] Y = X5 at v5 ⊢
  have l5 : X5.length = 54 := by rw [← hX5, sealB_length, HYL.out]
  have HL5 := Lib.hid l5; have HX5 := Lib.hid hX5; clear l5 hX5
  obtain ⟨oko_0, oko_1, oko_0f, oko_1f⟩ := ko.two
  have hG := st2 w5 (g4) (.int .i64 X5.length) (.slice A5 n5 c5)
  replace kf := kf.grown hG (some_ne (by omega)); replace kr := kr.grown hG (some_ne (by omega)); replace kp := kp.grown hG (some_ne (by omega)); replace ks := ks.grown hG (some_ne (by omega)); replace v3 := v3.off ko (no_u8 _ _ _ _) hG; replace v4 := v4.off ko (no_u8 _ _ _ _) hG; replace v5 := v5.off ko (no_u8 _ _ _ _) hG; replace bc := Below.off bc bc.size (by omega) hG; replace ko := ko.put2 (.int .i64 X5.length) (.slice A5 n5 c5); clear hG
  obtain ⟨⟨ykp_0, ykp_1, ykp_2, ykp_3, ykp_4⟩, ykp_0f, ykp_1f, ykp_2f, ykp_3f, ykp_4f⟩ := kp.five
  obtain ⟨yko_0, yko_1, yko_0f, yko_1f⟩ := ko.two
  obtain ⟨ykr_0, ykr_1, ykr_0f, ykr_1f⟩ := kr.two
  have hG := st2 ((w5.setCell ⟨g4, 0, none⟩ (.int .i64 X5.length)).setCell ⟨g4, 1, none⟩ (.slice A5 n5 c5)) (w.heap.size + 1) (.int .i64 X5.length) (.slice A5 n5 c5)
  replace kf := kf.grown hG (some_ne (by omega)); replace kp := kp.grown hG (some_ne (by omega)); replace ks := ks.grown hG (some_ne (by omega)); replace ko := ko.grown hG (some_ne (by omega)); replace v3 := v3.off kr (no_u8 _ _ _ _) hG; replace v4 := v4.off kr (no_u8 _ _ _ _) hG; replace v5 := v5.off kr (no_u8 _ _ _ _) hG; replace bc := Below.off bc bc.size (by omega) hG; replace kr := kr.put2 (.int .i64 X5.length) (.slice A5 n5 c5); clear hG
  go_wp2
  have hz : Z = X5 := by rw [HZ.out, ← HX5.out]
  rw [hz]
  exact bodyPost_ret (v := .tuple #[.agg #[.int .i64 X5.length, .slice A5 n5 c5], .int .i64 0]) (by simp [results, Tryd.results8, go_sem, ykr_0, ykr_1]) rfl ⟨A5, n5, c5, rfl, v5, bc⟩
set_option maxRecDepth 8000 in
set_option maxHeartbeats 4000000 in
theorem encode_4 (R T P Mo Nx Me F : Int) (ds : List UInt8) (A : Option Addr) (n c : Nat) (w : World) (hn : n = ds.length) (hA : Byt w.heap.size w A ds) (hm : mayF ⟨4, R, ⟨T, P, Mo, Nx, Me⟩, F, ds⟩ = true) (hT : Tab w) (hW : WTab w) :
    Calls Tryd.prog 8 #[.agg #[.int .i64 4, .int .i64 R, .int .i64 T, .int .i64 P, .int .i64 Mo, .int .i64 Nx, .int .i64 Me, .int .i64 F, .slice A n c]] w (ResV w (0, bitsF ⟨4, R, ⟨T, P, Mo, Nx, Me⟩, F, ds⟩)) := by
  obtain ⟨Z, hZ⟩ : ∃ Z, Z = bitsF ⟨4, R, ⟨T, P, Mo, Nx, Me⟩, F, ds⟩ := ⟨_, rfl⟩
  have hZ2 := hZ
  rw [frame_4 _ rfl] at hZ2
  rw [← hZ]
  dsimp only at hZ2
  have hm2 := (mayF_iff _).1 hm
  dsimp only at hm2
  obtain ⟨-, -, hC, hR0, hR4, hd8, -, hc1, -⟩ := hm2
  have hl := bitsOf_length ⟨T, P, Mo, Nx, Me⟩
  have hb := fun (W : World) (h : Below w.heap.size w W) => bits_list ⟨T, P, Mo, Nx, Me⟩ hC (hW.on h)
  have hck := fun (W : World) => check_4 R T P Mo Nx Me F ds A n c W hn
  rw [checkF_yes hm] at hck
  have hd := fun (W : World) (h : Below w.heap.size w W) => dataBits_any A n c ds W hn (by omega) (hA.on h)
  have hdl := dataL_length ds
  generalize bitsOf ⟨T, P, Mo, Nx, Me⟩ = S at *
  have hh := fun (W : World) (B : Option Addr) (m d : Nat) (hV : Bv W S B m) => headBits_4 R T P Mo Nx Me F A n c S B m d W hl hV ⟨hR0, hR4⟩
  generalize hY : (numBits 3 2 ++ (numBits R.toNat 3 ++ (numBits 0 2 ++ S)) : List Bool) = Y at *
  have hYl : Y.length = 31 := by rw [← hY]; simp [numBits_length, hl]
  have hdl8 : (dataL ds).length ≤ 64 := by omega
  generalize dataL ds = D at *
  have HD := Lib.hid hd; have HDL := Lib.hid hdl8; clear hd hdl hdl8
  have HZ := Lib.hid hZ2; have HB := Lib.hid hb; have HCK := Lib.hid hck; have HH := Lib.hid hh; have HYL := Lib.hid hYl; have HL := Lib.hid hl
  clear hZ hZ2 hb hck hh hYl hY hl hm hc1 hC hR0 hR4 hd8 hn hA
  obtain ⟨kf, kr, bc⟩ := bx2 w #[.int .i64 4, .int .i64 R, .int .i64 T, .int .i64 P, .int .i64 Mo, .int .i64 Nx, .int .i64 Me, .int .i64 F, .slice A n c] #[.int .i64 0, .slice none 0 0] 26 28
  go_enter Tryd.func8, Tryd.ntmps8
  go_wp2_with fail
  generalize (w.alloc (.cells #[.int .i64 4, .int .i64 R, .int .i64 T, .int .i64 P, .int .i64 Mo, .int .i64 Nx, .int .i64 Me, .int .i64 F, .slice A n c] 26)).alloc (.cells #[.int .i64 0, .slice none 0 0] 28) = u1 at *
  refine (HCK.out _).mono ?_
  rintro e w1 ⟨rfl, hC⟩
  dsimp only
  replace kf := kf.on hC; replace kr := kr.on hC; replace bc := bc.trans (hC.mono bc.size); clear hC
  obtain ⟨pkf_0, pkf_1, pkf_2, pkf_3, pkf_4, pkf_5, pkf_6, pkf_7, pkf_8⟩ := kf.nine
  obtain ⟨pkf_0f, pkf_1f, pkf_2f, pkf_3f, pkf_4f, pkf_5f, pkf_6f, pkf_7f, pkf_8f⟩ := kf.nineF
  go_wp2_with fail
  clear pkf_0 pkf_1 pkf_2 pkf_3 pkf_4 pkf_5 pkf_6 pkf_7 pkf_8 pkf_0f pkf_1f pkf_2f pkf_3f pkf_4f pkf_5f pkf_6f pkf_7f pkf_8f
  refine (partsOf_4 _).mono ?_
  rintro e w2 ⟨rfl, hC⟩
  dsimp only
  replace kf := kf.on hC; replace kr := kr.on hC; replace bc := bc.trans (hC.mono bc.size); clear hC
  have z_kp_kf := kf.lt
  have z_kp_kr := kr.lt
  have zb_kp := bc.size
  have kp := Blk.new w2 51 #[.int .i64 3, .int .i64 2, .int .i64 24, .int .i64 24, .int .i64 8]
  have al := Below.al w2 (.cells #[.int .i64 3, .int .i64 2, .int .i64 24, .int .i64 24, .int .i64 8] 51)
  replace kf := kf.on al; replace kr := kr.on al; replace bc := bc.trans (al.mono bc.size); clear al
  obtain ⟨pkf_0, pkf_1, pkf_2, pkf_3, pkf_4, pkf_5, pkf_6, pkf_7, pkf_8⟩ := kf.nine
  obtain ⟨pkf_0f, pkf_1f, pkf_2f, pkf_3f, pkf_4f, pkf_5f, pkf_6f, pkf_7f, pkf_8f⟩ := kf.nineF
  go_wp2_with fail
  clear pkf_0 pkf_1 pkf_2 pkf_3 pkf_4 pkf_5 pkf_6 pkf_7 pkf_8 pkf_0f pkf_1f pkf_2f pkf_3f pkf_4f pkf_5f pkf_6f pkf_7f pkf_8f
  generalize w2.alloc (.cells #[.int .i64 3, .int .i64 2, .int .i64 24, .int .i64 24, .int .i64 8] 51) = u2 at *
  generalize w2.heap.size = g2 at *
  refine (HB.out _ bc).mono ?_
  rintro e w3 ⟨A3, n3, c3, rfl, v3, hC⟩
  dsimp only at v3 ⊢
  replace kf := kf.on hC; replace kr := kr.on hC; replace kp := kp.on hC; replace bc := bc.trans (hC.mono bc.size); clear hC
  have z_ks_kf := kf.lt
  have z_ks_kr := kr.lt
  have z_ks_kp := kp.lt
  have zb_ks := bc.size
  have ks := Blk.new w3 28 #[.int .i64 S.length, .slice A3 n3 c3]
  have al := Below.al w3 (.cells #[.int .i64 S.length, .slice A3 n3 c3] 28)
  replace kf := kf.on al; replace kr := kr.on al; replace kp := kp.on al; replace v3 := v3.on al; replace bc := bc.trans (al.mono bc.size); clear al
  obtain ⟨pkf_0, pkf_1, pkf_2, pkf_3, pkf_4, pkf_5, pkf_6, pkf_7, pkf_8⟩ := kf.nine
  obtain ⟨pkf_0f, pkf_1f, pkf_2f, pkf_3f, pkf_4f, pkf_5f, pkf_6f, pkf_7f, pkf_8f⟩ := kf.nineF
  obtain ⟨⟨pkp_0, pkp_1, pkp_2, pkp_3, pkp_4⟩, pkp_0f, pkp_1f, pkp_2f, pkp_3f, pkp_4f⟩ := kp.five
  obtain ⟨pks_0, pks_1, pks_0f, pks_1f⟩ := ks.two
  go_wp2_with fail
  clear pkf_0 pkf_1 pkf_2 pkf_3 pkf_4 pkf_5 pkf_6 pkf_7 pkf_8 pkf_0f pkf_1f pkf_2f pkf_3f pkf_4f pkf_5f pkf_6f pkf_7f pkf_8f pkp_0 pkp_1 pkp_2 pkp_3 pkp_4 pkp_0f pkp_1f pkp_2f pkp_3f pkp_4f pks_0 pks_1 pks_0f pks_1f
  generalize w3.alloc (.cells #[.int .i64 S.length, .slice A3 n3 c3] 28) = u3 at *
  generalize w3.heap.size = g3 at *
  refine (HH.out _ A3 n3 c3 v3).mono ?_
  rintro e w4 ⟨A4, n4, c4, rfl, v4, hC⟩
  dsimp only at v4 ⊢
  replace kf := kf.on hC; replace kr := kr.on hC; replace kp := kp.on hC; replace ks := ks.on hC; replace v3 := v3.on hC; replace bc := bc.trans (hC.mono bc.size); clear hC
  have z_ko_kf := kf.lt
  have z_ko_kr := kr.lt
  have z_ko_kp := kp.lt
  have z_ko_ks := ks.lt
  have zb_ko := bc.size
  have ko := Blk.new w4 28 #[.int .i64 Y.length, .slice A4 n4 c4]
  have al := Below.al w4 (.cells #[.int .i64 Y.length, .slice A4 n4 c4] 28)
  replace kf := kf.on al; replace kr := kr.on al; replace kp := kp.on al; replace ks := ks.on al; replace v3 := v3.on al; replace v4 := v4.on al; replace bc := bc.trans (al.mono bc.size); clear al
  obtain ⟨pkf_0, pkf_1, pkf_2, pkf_3, pkf_4, pkf_5, pkf_6, pkf_7, pkf_8⟩ := kf.nine
  obtain ⟨pkf_0f, pkf_1f, pkf_2f, pkf_3f, pkf_4f, pkf_5f, pkf_6f, pkf_7f, pkf_8f⟩ := kf.nineF
  obtain ⟨⟨pkp_0, pkp_1, pkp_2, pkp_3, pkp_4⟩, pkp_0f, pkp_1f, pkp_2f, pkp_3f, pkp_4f⟩ := kp.five
  obtain ⟨pks_0, pks_1, pks_0f, pks_1f⟩ := ks.two
  obtain ⟨pko_0, pko_1, pko_0f, pko_1f⟩ := ko.two
  go_wp2_with fail
  clear pkf_0 pkf_1 pkf_2 pkf_3 pkf_4 pkf_5 pkf_6 pkf_7 pkf_8 pkf_0f pkf_1f pkf_2f pkf_3f pkf_4f pkf_5f pkf_6f pkf_7f pkf_8f pkp_0 pkp_1 pkp_2 pkp_3 pkp_4 pkp_0f pkp_1f pkp_2f pkp_3f pkp_4f pks_0 pks_1 pks_0f pks_1f pko_0 pko_1 pko_0f pko_1f
  generalize w4.alloc (.cells #[.int .i64 Y.length, .slice A4 n4 c4] 28) = u4 at *
  generalize w4.heap.size = g4 at *
  refine (seal_list v4 (Bv.nil _) c4 0 (M := 0) rfl rfl (by rw [HYL.out]; decide) (hT.on bc)).mono ?_
  rintro e w5 ⟨A5, n5, c5, rfl, v5, hC⟩
  dsimp only at v5 ⊢
  replace kf := kf.on hC; replace kr := kr.on hC; replace kp := kp.on hC; replace ks := ks.on hC; replace ko := ko.on hC; replace v3 := v3.on hC; replace v4 := v4.on hC; replace bc := bc.trans (hC.mono bc.size); clear hC
  generalize hX5 : sealB [] Y = X5 at v5 ⊢
  have l5 : X5.length = 55 := by rw [← hX5, sealB_length, HYL.out]
  have HL5 := Lib.hid l5; have HX5 := Lib.hid hX5; clear l5 hX5
  obtain ⟨oko_0, oko_1, oko_0f, oko_1f⟩ := ko.two
  have hG := st2 w5 (g4) (.int .i64 X5.length) (.slice A5 n5 c5)
  replace kf := kf.grown hG (some_ne (by omega)); replace kr := kr.grown hG (some_ne (by omega)); replace kp := kp.grown hG (some_ne (by omega)); replace ks := ks.grown hG (some_ne (by omega)); replace v3 := v3.off ko (no_u8 _ _ _ _) hG; replace v4 := v4.off ko (no_u8 _ _ _ _) hG; replace v5 := v5.off ko (no_u8 _ _ _ _) hG; replace bc := Below.off bc bc.size (by omega) hG; replace ko := ko.put2 (.int .i64 X5.length) (.slice A5 n5 c5); clear hG
  obtain ⟨pkf_0, pkf_1, pkf_2, pkf_3, pkf_4, pkf_5, pkf_6, pkf_7, pkf_8⟩ := kf.nine
  obtain ⟨pkf_0f, pkf_1f, pkf_2f, pkf_3f, pkf_4f, pkf_5f, pkf_6f, pkf_7f, pkf_8f⟩ := kf.nineF
  obtain ⟨⟨pkp_0, pkp_1, pkp_2, pkp_3, pkp_4⟩, pkp_0f, pkp_1f, pkp_2f, pkp_3f, pkp_4f⟩ := kp.five
  obtain ⟨pks_0, pks_1, pks_0f, pks_1f⟩ := ks.two
  obtain ⟨pko_0, pko_1, pko_0f, pko_1f⟩ := ko.two
  go_wp2_with fail
  clear oko_0 oko_1 oko_0f oko_1f pkf_0 pkf_1 pkf_2 pkf_3 pkf_4 pkf_5 pkf_6 pkf_7 pkf_8 pkf_0f pkf_1f pkf_2f pkf_3f pkf_4f pkf_5f pkf_6f pkf_7f pkf_8f pkp_0 pkp_1 pkp_2 pkp_3 pkp_4 pkp_0f pkp_1f pkp_2f pkp_3f pkp_4f pks_0 pks_1 pks_0f pks_1f pko_0 pko_1 pko_0f pko_1f
  generalize (w5.setCell ⟨g4, 0, none⟩ (.int .i64 X5.length)).setCell ⟨g4, 1, none⟩ (.slice A5 n5 c5) = u5 at *
  have hdr : Below u5.heap.size u5 u5.drew := (Below.refl _ _).drew
  replace kf := kf.on hdr; replace kr := kr.on hdr; replace kp := kp.on hdr; replace ks := ks.on hdr; replace ko := ko.on hdr; replace v3 := v3.on hdr; replace v4 := v4.on hdr; replace v5 := v5.on hdr; replace bc := bc.trans (hdr.mono bc.size)
  clear hdr
  obtain ⟨pkf_0, pkf_1, pkf_2, pkf_3, pkf_4, pkf_5, pkf_6, pkf_7, pkf_8⟩ := kf.nine
  obtain ⟨pkf_0f, pkf_1f, pkf_2f, pkf_3f, pkf_4f, pkf_5f, pkf_6f, pkf_7f, pkf_8f⟩ := kf.nineF
  obtain ⟨pko_0, pko_1, pko_0f, pko_1f⟩ := ko.two
  go_region_with (first | (have _ := v6; go_at_call 30; clear pkf_0 pkf_1 pkf_2 pkf_3 pkf_4 pkf_5 pkf_6 pkf_7 pkf_8 pkf_0f pkf_1f pkf_2f pkf_3f pkf_4f pkf_5f pkf_6f pkf_7f pkf_8f pko_0 pko_1 pko_0f pko_1f; have z_kq_kf := kf.lt; have z_kq_kr := kr.lt; have z_kq_kp := kp.lt; have z_kq_ks := ks.lt; have z_kq_ko := ko.lt; have zb_kq := bc.size; have kq := Blk.new w6 28 #[.int .i64 X5.length, .slice A5 n5 c5, .int .i64 D.length, .slice A6 n6 c6]; have al := Below.al w6 (.cells #[.int .i64 X5.length, .slice A5 n5 c5, .int .i64 D.length, .slice A6 n6 c6] 28); replace kf := kf.on al; replace kr := kr.on al; replace kp := kp.on al; replace ks := ks.on al; replace ko := ko.on al; replace v3 := v3.on al; replace v4 := v4.on al; replace v5 := v5.on al; replace v6 := v6.on al; replace bc := bc.trans (al.mono bc.size); clear al; refine (join_list v5 v6 kq rfl rfl (by have := HDL.out; rw [HL5.out]; omega)).mono ?_; rintro e w7 ⟨A7, n7, c7, rfl, v7, hC⟩; dsimp only at v7 ⊢; replace kf := kf.on hC; replace kr := kr.on hC; replace kp := kp.on hC; replace ks := ks.on hC; replace ko := ko.on hC; replace kq := kq.on hC; replace v3 := v3.on hC; replace v4 := v4.on hC; replace v5 := v5.on hC; replace v6 := v6.on hC; replace bc := bc.trans (hC.mono bc.size); clear hC; generalize hX7 : X5 ++ D = X7 at *; have l7 : X7.length ≤ 119 := (by have := HDL.out; rw [← hX7, List.length_append, HL5.out]; omega); have HL7 := Lib.hid l7; have HX7 := Lib.hid hX7; clear l7 hX7; obtain ⟨pkf_0, pkf_1, pkf_2, pkf_3, pkf_4, pkf_5, pkf_6, pkf_7, pkf_8⟩ := kf.nine; obtain ⟨pkf_0f, pkf_1f, pkf_2f, pkf_3f, pkf_4f, pkf_5f, pkf_6f, pkf_7f, pkf_8f⟩ := kf.nineF; obtain ⟨pko_0, pko_1, pko_0f, pko_1f⟩ := ko.two) | (go_at_call 31; refine (HD.out _ bc).mono ?_; rintro e w6 ⟨A6, n6, c6, rfl, v6, hC⟩; dsimp only at v6 ⊢; replace kf := kf.on hC; replace kr := kr.on hC; replace kp := kp.on hC; replace ks := ks.on hC; replace ko := ko.on hC; replace v3 := v3.on hC; replace v4 := v4.on hC; replace v5 := v5.on hC; replace bc := bc.trans (hC.mono bc.size); clear hC; clear pkf_0 pkf_1 pkf_2 pkf_3 pkf_4 pkf_5 pkf_6 pkf_7 pkf_8 pkf_0f pkf_1f pkf_2f pkf_3f pkf_4f pkf_5f pkf_6f pkf_7f pkf_8f pko_0 pko_1 pko_0f pko_1f; obtain ⟨pkf_0, pkf_1, pkf_2, pkf_3, pkf_4, pkf_5, pkf_6, pkf_7, pkf_8⟩ := kf.nine; obtain ⟨pkf_0f, pkf_1f, pkf_2f, pkf_3f, pkf_4f, pkf_5f, pkf_6f, pkf_7f, pkf_8f⟩ := kf.nineF; obtain ⟨pko_0, pko_1, pko_0f, pko_1f⟩ := ko.two))
  all_goals
    clear kq v6 v5
    obtain ⟨oko_0, oko_1, oko_0f, oko_1f⟩ := ko.two
    have hG := st2 w7 (g4) (.int .i64 X7.length) (.slice A7 n7 c7)
    replace kf := kf.grown hG (some_ne (by omega)); replace kr := kr.grown hG (some_ne (by omega)); replace kp := kp.grown hG (some_ne (by omega)); replace ks := ks.grown hG (some_ne (by omega)); replace v3 := v3.off ko (no_u8 _ _ _ _) hG; replace v4 := v4.off ko (no_u8 _ _ _ _) hG; replace v7 := v7.off ko (no_u8 _ _ _ _) hG; replace bc := Below.off bc bc.size (by omega) hG; replace ko := ko.put2 (.int .i64 X7.length) (.slice A7 n7 c7); clear hG
    obtain ⟨pkf_0, pkf_1, pkf_2, pkf_3, pkf_4, pkf_5, pkf_6, pkf_7, pkf_8⟩ := kf.nine
    obtain ⟨pkf_0f, pkf_1f, pkf_2f, pkf_3f, pkf_4f, pkf_5f, pkf_6f, pkf_7f, pkf_8f⟩ := kf.nineF
    obtain ⟨pks_0, pks_1, pks_0f, pks_1f⟩ := ks.two
    obtain ⟨pko_0, pko_1, pko_0f, pko_1f⟩ := ko.two
    go_wp2_with fail
    clear oko_0 oko_1 oko_0f oko_1f pkf_0 pkf_1 pkf_2 pkf_3 pkf_4 pkf_5 pkf_6 pkf_7 pkf_8 pkf_0f pkf_1f pkf_2f pkf_3f pkf_4f pkf_5f pkf_6f pkf_7f pkf_8f pks_0 pks_1 pks_0f pks_1f pko_0 pko_1 pko_0f pko_1f
    generalize (w7.setCell ⟨g4, 0, none⟩ (.int .i64 X7.length)).setCell ⟨g4, 1, none⟩ (.slice A7 n7 c7) = u6 at *
    refine (seal_list v7 v3 c7 c3 rfl rfl (by have := HL7.out; omega) (hT.on bc)).mono ?_
    rintro e w8 ⟨A8, n8, c8, rfl, v8, hC⟩
    dsimp only at v8 ⊢
    replace kf := kf.on hC; replace kr := kr.on hC; replace kp := kp.on hC; replace ks := ks.on hC; replace ko := ko.on hC; replace v3 := v3.on hC; replace v4 := v4.on hC; replace v7 := v7.on hC; replace bc := bc.trans (hC.mono bc.size); clear hC
    generalize hX8 : sealB S X7 = X8 at v8 ⊢
    have HX8 := Lib.hid hX8; clear hX8
    obtain ⟨oko_0, oko_1, oko_0f, oko_1f⟩ := ko.two
    have hG := st2 w8 (g4) (.int .i64 X8.length) (.slice A8 n8 c8)
    replace kf := kf.grown hG (some_ne (by omega)); replace kr := kr.grown hG (some_ne (by omega)); replace kp := kp.grown hG (some_ne (by omega)); replace ks := ks.grown hG (some_ne (by omega)); replace v3 := v3.off ko (no_u8 _ _ _ _) hG; replace v4 := v4.off ko (no_u8 _ _ _ _) hG; replace v7 := v7.off ko (no_u8 _ _ _ _) hG; replace v8 := v8.off ko (no_u8 _ _ _ _) hG; replace bc := Below.off bc bc.size (by omega) hG; replace ko := ko.put2 (.int .i64 X8.length) (.slice A8 n8 c8); clear hG
    obtain ⟨⟨ykp_0, ykp_1, ykp_2, ykp_3, ykp_4⟩, ykp_0f, ykp_1f, ykp_2f, ykp_3f, ykp_4f⟩ := kp.five
    obtain ⟨yko_0, yko_1, yko_0f, yko_1f⟩ := ko.two
    obtain ⟨ykr_0, ykr_1, ykr_0f, ykr_1f⟩ := kr.two
    have hG := st2 ((w8.setCell ⟨g4, 0, none⟩ (.int .i64 X8.length)).setCell ⟨g4, 1, none⟩ (.slice A8 n8 c8)) (w.heap.size + 1) (.int .i64 X8.length) (.slice A8 n8 c8)
    replace kf := kf.grown hG (some_ne (by omega)); replace kp := kp.grown hG (some_ne (by omega)); replace ks := ks.grown hG (some_ne (by omega)); replace ko := ko.grown hG (some_ne (by omega)); replace v3 := v3.off kr (no_u8 _ _ _ _) hG; replace v4 := v4.off kr (no_u8 _ _ _ _) hG; replace v7 := v7.off kr (no_u8 _ _ _ _) hG; replace v8 := v8.off kr (no_u8 _ _ _ _) hG; replace bc := Below.off bc bc.size (by omega) hG; replace kr := kr.put2 (.int .i64 X8.length) (.slice A8 n8 c8); clear hG
    go_wp2
    have hz : Z = X8 := by rw [HZ.out, ← HX8.out, ← HX7.out, ← HX5.out]
    rw [hz]
    exact bodyPost_ret (v := .tuple #[.agg #[.int .i64 X8.length, .slice A8 n8 c8], .int .i64 0]) (by simp [results, Tryd.results8, go_sem, ykr_0, ykr_1]) rfl ⟨A8, n8, c8, rfl, v8, bc⟩
end Go.Proofs.YtcfbeelljhjnoaaDoor