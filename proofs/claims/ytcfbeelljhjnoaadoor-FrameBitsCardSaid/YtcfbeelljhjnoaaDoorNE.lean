/-
  The document's Encode, by Kind. Conditions: that the bytes can be read, and that the frame may be.
-/
import Derived.Test.YtcfbeelljhjnoaaDoorNC
import Derived.Test.YtcfbeelljhjnoaaDoorN4
import Derived.Deep.RegionLaw
import Derived.Test.YtcfbeelljhjnoaaDoorNQ
namespace Go.Proofs.YtcfbeelljhjnoaaDoor
open Go.RowKit

set_option maxRecDepth 8000 in
set_option maxHeartbeats 4000000 in
theorem rencode_4 (R T P Mo Nx Me F : Int) (ds : List UInt8) (A : Option Addr) (n c : Nat) (w : World) (hn : n = ds.length) (hA : Byt w.heap.size w A ds) (hm : mayF ⟨4, R, ⟨T, P, Mo, Nx, Me⟩, F, ds⟩ = true) :
    Calls Tryd.prog 9 #[.agg #[.int .i64 4, .int .i64 R, .int .i64 T, .int .i64 P, .int .i64 Mo, .int .i64 Nx, .int .i64 Me, .int .i64 F, .slice A n c]] w (ResV w (0, bitsF ⟨4, R, ⟨T, P, Mo, Nx, Me⟩, F, ds⟩)) := by
  obtain ⟨Z, hZ⟩ : ∃ Z, Z = bitsF ⟨4, R, ⟨T, P, Mo, Nx, Me⟩, F, ds⟩ := ⟨_, rfl⟩
  have hZ2 := hZ
  rw [frame_4 _ rfl] at hZ2
  rw [← hZ]
  dsimp only at hZ2
  have hm2 := (mayF_iff _).1 hm
  dsimp only at hm2
  obtain ⟨-, -, hC, hR0, hR4, hd8, -, hc1, -⟩ := hm2
  have nR := nat_of hR0
  have lR : R.toNat < 2 ^ 3 := by omega
  have NR := Lib.hid nR; have LR := Lib.hid lR; clear nR lR
  have hl := bitsOf_length ⟨T, P, Mo, Nx, Me⟩
  have hb := fun (W : World) => rbits_list ⟨T, P, Mo, Nx, Me⟩ (w := W) hC
  have hck := fun (W : World) => rcheck_4 R T P Mo Nx Me F ds A n c W hn
  rw [checkF_yes hm] at hck
  have hd := fun (L : List Bool) (A0 : Option Addr) (n0 c0 : Nat) (W : World) (h : Below w.heap.size w W) (hV : Bv W L A0 n0) (hl : L.length ≤ 4000) => rtail_any L A0 n0 c0 ds A n c W hV hn (by omega) (hA.on h) hl
  have hdl := dataL_length ds
  generalize bitsOf ⟨T, P, Mo, Nx, Me⟩ = S at *
  have hdl8 : (dataL ds).length ≤ 64 := by omega
  generalize dataL ds = D at *
  have HD := Lib.hid hd; have HDL := Lib.hid hdl8; clear hd hdl hdl8
  have HZ := Lib.hid hZ2; have HB := Lib.hid hb; have HCK := Lib.hid hck; have HL := Lib.hid hl
  clear hZ hZ2 hb hck hl hm hc1 hC hR0 hR4 hd8 hn hA
  obtain ⟨kf, kr, bc⟩ := bx2 w #[.int .i64 4, .int .i64 R, .int .i64 T, .int .i64 P, .int .i64 Mo, .int .i64 Nx, .int .i64 Me, .int .i64 F, .slice A n c] #[.int .i64 0, .slice none 0 0] 26 28
  go_enter Tryd.func9, Tryd.ntmps9
  go_wp2_with fail
  generalize (w.alloc (.cells #[.int .i64 4, .int .i64 R, .int .i64 T, .int .i64 P, .int .i64 Mo, .int .i64 Nx, .int .i64 Me, .int .i64 F, .slice A n c] 26)).alloc (.cells #[.int .i64 0, .slice none 0 0] 28) = u1 at *
  refine (HCK.out _).mono ?_
  rintro e w1 ⟨rfl, hC⟩
  dsimp only
  replace kf := kf.on hC; replace kr := kr.on hC; replace bc := bc.trans (hC.mono bc.size); clear hC
  have z_kn_kf := kf.lt
  have z_kn_kr := kr.lt
  have zb_kn := bc.size
  have kn := Blk.new w1 28 #[.int .i64 0, .slice none 0 0]
  have al := Below.al w1 (.cells #[.int .i64 0, .slice none 0 0] 28)
  replace kf := kf.on al; replace kr := kr.on al; replace bc := bc.trans (al.mono bc.size); clear al
  obtain ⟨pkf_0, pkf_1, pkf_2, pkf_3, pkf_4, pkf_5, pkf_6, pkf_7, pkf_8⟩ := kf.nine
  obtain ⟨pkf_0f, pkf_1f, pkf_2f, pkf_3f, pkf_4f, pkf_5f, pkf_6f, pkf_7f, pkf_8f⟩ := kf.nineF
  go_wp2_with fail
  clear pkf_0 pkf_1 pkf_2 pkf_3 pkf_4 pkf_5 pkf_6 pkf_7 pkf_8 pkf_0f pkf_1f pkf_2f pkf_3f pkf_4f pkf_5f pkf_6f pkf_7f pkf_8f
  generalize w1.alloc (.cells #[.int .i64 0, .slice none 0 0] 28) = u2 at *
  generalize w1.heap.size = g2 at *
  refine (HB.out _).mono ?_
  rintro e w2 ⟨A2, n2, c2, rfl, v2, hC⟩
  dsimp only at v2 ⊢
  replace kf := kf.on hC; replace kr := kr.on hC; replace kn := kn.on hC; replace bc := bc.trans (hC.mono bc.size); clear hC
  have z_ks_kf := kf.lt
  have z_ks_kr := kr.lt
  have z_ks_kn := kn.lt
  have zb_ks := bc.size
  have ks := Blk.new w2 28 #[.int .i64 S.length, .slice A2 n2 c2]
  have al := Below.al w2 (.cells #[.int .i64 S.length, .slice A2 n2 c2] 28)
  replace kf := kf.on al; replace kr := kr.on al; replace kn := kn.on al; replace v2 := v2.on al; replace bc := bc.trans (al.mono bc.size); clear al
  obtain ⟨pkf_0, pkf_1, pkf_2, pkf_3, pkf_4, pkf_5, pkf_6, pkf_7, pkf_8⟩ := kf.nine
  obtain ⟨pkf_0f, pkf_1f, pkf_2f, pkf_3f, pkf_4f, pkf_5f, pkf_6f, pkf_7f, pkf_8f⟩ := kf.nineF
  obtain ⟨pkn_0, pkn_1, pkn_0f, pkn_1f⟩ := kn.two
  go_wp2_with fail
  clear pkf_0 pkf_1 pkf_2 pkf_3 pkf_4 pkf_5 pkf_6 pkf_7 pkf_8 pkf_0f pkf_1f pkf_2f pkf_3f pkf_4f pkf_5f pkf_6f pkf_7f pkf_8f pkn_0 pkn_1 pkn_0f pkn_1f
  generalize w2.alloc (.cells #[.int .i64 S.length, .slice A2 n2 c2] 28) = u3 at *
  generalize w2.heap.size = g3 at *
  refine (rput5_list (Bv.nil _) 0 (N := 0) (vi := 3) (Wi := 2) (v := 3) (W := 2) rfl rfl rfl (by decide) (by decide) (by decide)).mono ?_
  rintro e w3 ⟨A3, n3, c3, rfl, v3, hC⟩
  dsimp only at v3 ⊢
  replace kf := kf.on hC; replace kr := kr.on hC; replace kn := kn.on hC; replace ks := ks.on hC; replace v2 := v2.on hC; replace bc := bc.trans (hC.mono bc.size); clear hC
  generalize hX3 : ([] ++ numBits 3 2 : List Bool) = X3 at *
  have l3 : X3.length = 2 := (by rw [← hX3, List.nil_append, numBits_length])
  have HL3 := Lib.hid l3; have HX3 := Lib.hid hX3; clear l3 hX3
  have z_kb_kf := kf.lt
  have z_kb_kr := kr.lt
  have z_kb_kn := kn.lt
  have z_kb_ks := ks.lt
  have zb_kb := bc.size
  have kb := Blk.new w3 28 #[.int .i64 X3.length, .slice A3 n3 c3]
  have al := Below.al w3 (.cells #[.int .i64 X3.length, .slice A3 n3 c3] 28)
  replace kf := kf.on al; replace kr := kr.on al; replace kn := kn.on al; replace ks := ks.on al; replace v2 := v2.on al; replace v3 := v3.on al; replace bc := bc.trans (al.mono bc.size); clear al
  obtain ⟨pkf_0, pkf_1, pkf_2, pkf_3, pkf_4, pkf_5, pkf_6, pkf_7, pkf_8⟩ := kf.nine
  obtain ⟨pkf_0f, pkf_1f, pkf_2f, pkf_3f, pkf_4f, pkf_5f, pkf_6f, pkf_7f, pkf_8f⟩ := kf.nineF
  obtain ⟨pkr_0, pkr_1, pkr_0f, pkr_1f⟩ := kr.two
  obtain ⟨pkn_0, pkn_1, pkn_0f, pkn_1f⟩ := kn.two
  obtain ⟨pks_0, pks_1, pks_0f, pks_1f⟩ := ks.two
  obtain ⟨pkb_0, pkb_1, pkb_0f, pkb_1f⟩ := kb.two
  go_wp2_with fail
  clear pkf_0 pkf_1 pkf_2 pkf_3 pkf_4 pkf_5 pkf_6 pkf_7 pkf_8 pkf_0f pkf_1f pkf_2f pkf_3f pkf_4f pkf_5f pkf_6f pkf_7f pkf_8f pkr_0 pkr_1 pkr_0f pkr_1f pkn_0 pkn_1 pkn_0f pkn_1f pks_0 pks_1 pks_0f pks_1f pkb_0 pkb_1 pkb_0f pkb_1f
  generalize w3.alloc (.cells #[.int .i64 X3.length, .slice A3 n3 c3] 28) = u4 at *
  generalize w3.heap.size = g4 at *
  have hdr : Below u4.heap.size u4 u4.drew := (Below.refl _ _).drew
  replace kf := kf.on hdr; replace kr := kr.on hdr; replace kn := kn.on hdr; replace ks := ks.on hdr; replace kb := kb.on hdr; replace v2 := v2.on hdr; replace v3 := v3.on hdr; replace bc := bc.trans (hdr.mono bc.size)
  clear hdr
  obtain ⟨pkb_0, pkb_1, pkb_0f, pkb_1f⟩ := kb.two
  obtain ⟨pkf_0, pkf_1, pkf_2, pkf_3, pkf_4, pkf_5, pkf_6, pkf_7, pkf_8⟩ := kf.nine
  obtain ⟨pkf_0f, pkf_1f, pkf_2f, pkf_3f, pkf_4f, pkf_5f, pkf_6f, pkf_7f, pkf_8f⟩ := kf.nineF
  go_region_law (first | (have _ := v4; go_simp; go_at_call 33; refine (rput5_list v4 c4 (vi := 0) (Wi := 2) (v := 0) (W := 2) rfl rfl rfl (by decide) (by decide) (by rw [HL4.out]; decide)).mono ?_; rintro e w5 ⟨A5, n5, c5, rfl, v5, hC⟩; dsimp only at v5 ⊢; replace kf := kf.on hC; replace kr := kr.on hC; replace kn := kn.on hC; replace ks := ks.on hC; replace kb := kb.on hC; replace v2 := v2.on hC; replace v3 := v3.on hC; replace v4 := v4.on hC; replace bc := bc.trans (hC.mono bc.size); clear hC; generalize hX5 : (X4 ++ numBits 0 2 : List Bool) = X5 at *; have l5 : X5.length = 7 := (by rw [← hX5, List.length_append, HL4.out, numBits_length]); have HL5 := Lib.hid l5; have HX5 := Lib.hid hX5; clear l5 hX5; clear pkb_0 pkb_1 pkb_0f pkb_1f pkf_0 pkf_1 pkf_2 pkf_3 pkf_4 pkf_5 pkf_6 pkf_7 pkf_8 pkf_0f pkf_1f pkf_2f pkf_3f pkf_4f pkf_5f pkf_6f pkf_7f pkf_8f; obtain ⟨pkb_0, pkb_1, pkb_0f, pkb_1f⟩ := kb.two; obtain ⟨pkf_0, pkf_1, pkf_2, pkf_3, pkf_4, pkf_5, pkf_6, pkf_7, pkf_8⟩ := kf.nine; obtain ⟨pkf_0f, pkf_1f, pkf_2f, pkf_3f, pkf_4f, pkf_5f, pkf_6f, pkf_7f, pkf_8f⟩ := kf.nineF) | (go_simp; go_at_call 33; refine (rput5_list v3 c3 (vi := R) (Wi := 3) (v := R.toNat) (W := 3) rfl (by exact NR.out) rfl (by decide) LR.out (by rw [HL3.out]; decide)).mono ?_; rintro e w4 ⟨A4, n4, c4, rfl, v4, hC⟩; dsimp only at v4 ⊢; replace kf := kf.on hC; replace kr := kr.on hC; replace kn := kn.on hC; replace ks := ks.on hC; replace kb := kb.on hC; replace v2 := v2.on hC; replace v3 := v3.on hC; replace bc := bc.trans (hC.mono bc.size); clear hC; generalize hX4 : (X3 ++ numBits R.toNat 3 : List Bool) = X4 at *; have l4 : X4.length = 5 := (by rw [← hX4, List.length_append, HL3.out, numBits_length]); have HL4 := Lib.hid l4; have HX4 := Lib.hid hX4; clear l4 hX4; clear pkb_0 pkb_1 pkb_0f pkb_1f pkf_0 pkf_1 pkf_2 pkf_3 pkf_4 pkf_5 pkf_6 pkf_7 pkf_8 pkf_0f pkf_1f pkf_2f pkf_3f pkf_4f pkf_5f pkf_6f pkf_7f pkf_8f; obtain ⟨pkb_0, pkb_1, pkb_0f, pkb_1f⟩ := kb.two; obtain ⟨pkf_0, pkf_1, pkf_2, pkf_3, pkf_4, pkf_5, pkf_6, pkf_7, pkf_8⟩ := kf.nine; obtain ⟨pkf_0f, pkf_1f, pkf_2f, pkf_3f, pkf_4f, pkf_5f, pkf_6f, pkf_7f, pkf_8f⟩ := kf.nineF))
  all_goals
    clear v3 v4
    obtain ⟨okb_0, okb_1, okb_0f, okb_1f⟩ := kb.two
    have hG := st2 w5 (g4) (.int .i64 X5.length) (.slice A5 n5 c5)
    replace kf := kf.grown hG (some_ne (by omega)); replace kr := kr.grown hG (some_ne (by omega)); replace kn := kn.grown hG (some_ne (by omega)); replace ks := ks.grown hG (some_ne (by omega)); replace v2 := v2.off kb (no_u8 _ _ _ _) hG; replace v5 := v5.off kb (no_u8 _ _ _ _) hG; replace bc := Below.off bc bc.size (by omega) hG; replace kb := kb.put2 (.int .i64 X5.length) (.slice A5 n5 c5); clear hG
    obtain ⟨pkf_0, pkf_1, pkf_2, pkf_3, pkf_4, pkf_5, pkf_6, pkf_7, pkf_8⟩ := kf.nine
    obtain ⟨pkf_0f, pkf_1f, pkf_2f, pkf_3f, pkf_4f, pkf_5f, pkf_6f, pkf_7f, pkf_8f⟩ := kf.nineF
    obtain ⟨pkb_0, pkb_1, pkb_0f, pkb_1f⟩ := kb.two
    obtain ⟨pks_0, pks_1, pks_0f, pks_1f⟩ := ks.two
    have z_kq_kf := kf.lt
    have z_kq_kr := kr.lt
    have z_kq_kn := kn.lt
    have z_kq_ks := ks.lt
    have z_kq_kb := kb.lt
    have zb_kq := bc.size
    have kq := Blk.new ((w5.setCell ⟨g4, 0, none⟩ (.int .i64 X5.length)).setCell ⟨g4, 1, none⟩ (.slice A5 n5 c5)) 28 #[.int .i64 X5.length, .slice A5 n5 c5, .int .i64 S.length, .slice A2 n2 c2]
    have hsz : ((w5.setCell ⟨g4, 0, none⟩ (.int .i64 X5.length)).setCell ⟨g4, 1, none⟩ (.slice A5 n5 c5)).heap.size = w5.heap.size := (by simp)
    rw [hsz] at kq z_kq_kf z_kq_kr z_kq_kn z_kq_ks z_kq_kb zb_kq
    clear hsz
    have al := Below.al ((w5.setCell ⟨g4, 0, none⟩ (.int .i64 X5.length)).setCell ⟨g4, 1, none⟩ (.slice A5 n5 c5)) (.cells #[.int .i64 X5.length, .slice A5 n5 c5, .int .i64 S.length, .slice A2 n2 c2] 28)
    replace kf := kf.on al; replace kr := kr.on al; replace kn := kn.on al; replace ks := ks.on al; replace kb := kb.on al; replace v2 := v2.on al; replace v5 := v5.on al; replace bc := bc.trans (al.mono bc.size); clear al
    go_wp2_with fail
    clear okb_0 okb_1 okb_0f okb_1f pkf_0 pkf_1 pkf_2 pkf_3 pkf_4 pkf_5 pkf_6 pkf_7 pkf_8 pkf_0f pkf_1f pkf_2f pkf_3f pkf_4f pkf_5f pkf_6f pkf_7f pkf_8f pkb_0 pkb_1 pkb_0f pkb_1f pks_0 pks_1 pks_0f pks_1f
    generalize ((w5.setCell ⟨g4, 0, none⟩ (.int .i64 X5.length)).setCell ⟨g4, 1, none⟩ (.slice A5 n5 c5)).alloc (.cells #[.int .i64 X5.length, .slice A5 n5 c5, .int .i64 S.length, .slice A2 n2 c2] 28) = u5 at *
    generalize w5.heap.size = g5 at *
    refine (rjoin_list v5 v2 kq rfl rfl (by rw [HL5.out, HL.out]; decide)).mono ?_
    rintro e w6 ⟨A6, n6, c6, rfl, v6, hC⟩
    dsimp only at v6 ⊢
    replace kf := kf.on hC; replace kr := kr.on hC; replace kn := kn.on hC; replace ks := ks.on hC; replace kb := kb.on hC; replace kq := kq.on hC; replace v2 := v2.on hC; replace v5 := v5.on hC; replace bc := bc.trans (hC.mono bc.size); clear hC
    generalize hX6 : (X5 ++ S : List Bool) = X6 at *
    have l6 : X6.length = 31 := (by rw [← hX6, List.length_append, HL5.out, HL.out])
    have HL6 := Lib.hid l6; have HX6 := Lib.hid hX6; clear l6 hX6
    clear kq v5
    obtain ⟨okb_0, okb_1, okb_0f, okb_1f⟩ := kb.two
    have hG := st2 w6 (g4) (.int .i64 X6.length) (.slice A6 n6 c6)
    replace kf := kf.grown hG (some_ne (by omega)); replace kr := kr.grown hG (some_ne (by omega)); replace kn := kn.grown hG (some_ne (by omega)); replace ks := ks.grown hG (some_ne (by omega)); replace v2 := v2.off kb (no_u8 _ _ _ _) hG; replace v6 := v6.off kb (no_u8 _ _ _ _) hG; replace bc := Below.off bc bc.size (by omega) hG; replace kb := kb.put2 (.int .i64 X6.length) (.slice A6 n6 c6); clear hG
    obtain ⟨pkf_0, pkf_1, pkf_2, pkf_3, pkf_4, pkf_5, pkf_6, pkf_7, pkf_8⟩ := kf.nine
    obtain ⟨pkf_0f, pkf_1f, pkf_2f, pkf_3f, pkf_4f, pkf_5f, pkf_6f, pkf_7f, pkf_8f⟩ := kf.nineF
    obtain ⟨pkb_0, pkb_1, pkb_0f, pkb_1f⟩ := kb.two
    obtain ⟨pkn_0, pkn_1, pkn_0f, pkn_1f⟩ := kn.two
    go_wp2_with fail
    clear okb_0 okb_1 okb_0f okb_1f pkf_0 pkf_1 pkf_2 pkf_3 pkf_4 pkf_5 pkf_6 pkf_7 pkf_8 pkf_0f pkf_1f pkf_2f pkf_3f pkf_4f pkf_5f pkf_6f pkf_7f pkf_8f pkb_0 pkb_1 pkb_0f pkb_1f pkn_0 pkn_1 pkn_0f pkn_1f
    generalize (w6.setCell ⟨g4, 0, none⟩ (.int .i64 X6.length)).setCell ⟨g4, 1, none⟩ (.slice A6 n6 c6) = u6 at *
    refine (rseal_list v6 (Bv.nil _) c6 0 (M := 0) rfl rfl (by rw [HL6.out]; decide)).mono ?_
    rintro e w7 ⟨A7, n7, c7, rfl, v7, hC⟩
    dsimp only at v7 ⊢
    replace kf := kf.on hC; replace kr := kr.on hC; replace kn := kn.on hC; replace ks := ks.on hC; replace kb := kb.on hC; replace v2 := v2.on hC; replace v6 := v6.on hC; replace bc := bc.trans (hC.mono bc.size); clear hC
    generalize hX7 : (sealB [] X6 : List Bool) = X7 at *
    have l7 : X7.length = 55 := (by rw [← hX7, sealB_length, HL6.out])
    have HL7 := Lib.hid l7; have HX7 := Lib.hid hX7; clear l7 hX7
    clear v6
    obtain ⟨okb_0, okb_1, okb_0f, okb_1f⟩ := kb.two
    have hG := st2 w7 (g4) (.int .i64 X7.length) (.slice A7 n7 c7)
    replace kf := kf.grown hG (some_ne (by omega)); replace kr := kr.grown hG (some_ne (by omega)); replace kn := kn.grown hG (some_ne (by omega)); replace ks := ks.grown hG (some_ne (by omega)); replace v2 := v2.off kb (no_u8 _ _ _ _) hG; replace v7 := v7.off kb (no_u8 _ _ _ _) hG; replace bc := Below.off bc bc.size (by omega) hG; replace kb := kb.put2 (.int .i64 X7.length) (.slice A7 n7 c7); clear hG
    obtain ⟨pkf_0, pkf_1, pkf_2, pkf_3, pkf_4, pkf_5, pkf_6, pkf_7, pkf_8⟩ := kf.nine
    obtain ⟨pkf_0f, pkf_1f, pkf_2f, pkf_3f, pkf_4f, pkf_5f, pkf_6f, pkf_7f, pkf_8f⟩ := kf.nineF
    obtain ⟨pkb_0, pkb_1, pkb_0f, pkb_1f⟩ := kb.two
    obtain ⟨pks_0, pks_1, pks_0f, pks_1f⟩ := ks.two
    go_wp2_with fail
    clear okb_0 okb_1 okb_0f okb_1f pkf_0 pkf_1 pkf_2 pkf_3 pkf_4 pkf_5 pkf_6 pkf_7 pkf_8 pkf_0f pkf_1f pkf_2f pkf_3f pkf_4f pkf_5f pkf_6f pkf_7f pkf_8f pkb_0 pkb_1 pkb_0f pkb_1f pks_0 pks_1 pks_0f pks_1f
    generalize (w7.setCell ⟨g4, 0, none⟩ (.int .i64 X7.length)).setCell ⟨g4, 1, none⟩ (.slice A7 n7 c7) = u7 at *
    have hdr : Below u7.heap.size u7 u7.drew := (Below.refl _ _).drew
    replace kf := kf.on hdr; replace kr := kr.on hdr; replace kn := kn.on hdr; replace ks := ks.on hdr; replace kb := kb.on hdr; replace v2 := v2.on hdr; replace v7 := v7.on hdr; replace bc := bc.trans (hdr.mono bc.size)
    clear hdr
    obtain ⟨pkb_0, pkb_1, pkb_0f, pkb_1f⟩ := kb.two
    obtain ⟨pkf_0, pkf_1, pkf_2, pkf_3, pkf_4, pkf_5, pkf_6, pkf_7, pkf_8⟩ := kf.nine
    obtain ⟨pkf_0f, pkf_1f, pkf_2f, pkf_3f, pkf_4f, pkf_5f, pkf_6f, pkf_7f, pkf_8f⟩ := kf.nineF
    obtain ⟨pks_0, pks_1, pks_0f, pks_1f⟩ := ks.two
    go_region_held3 (fun w' => w'.cell? ⟨g4, 0, none⟩ = some (.int .i64 X7.length) ∧ w'.cell? ⟨g4, 1, none⟩ = some (.slice A7 n7 c7) ∧ w'.cell? ⟨w.heap.size, 8, none⟩ = some (.slice A n c) ∧ w'.cell? ⟨g3, 0, none⟩ = some (.int .i64 S.length) ∧ w'.cell? ⟨g3, 1, none⟩ = some (.slice A2 n2 c2)) (first | exact ⟨zkb_0, zkb_1, zkf_8, zks_0, zks_1⟩ | exact ⟨pkb_0, pkb_1, pkf_8, pks_0, pks_1⟩) (first | (have _ := v8; go_at_call 34; refine (rseal_list v8 v2 c8 c2 rfl rfl (by have := HL8.out; omega)).mono ?_; rintro e w9 ⟨A9, n9, c9, rfl, v9, hC⟩; dsimp only at v9 ⊢; replace kf := kf.on hC; replace kr := kr.on hC; replace kn := kn.on hC; replace ks := ks.on hC; replace kb := kb.on hC; replace v2 := v2.on hC; replace v7 := v7.on hC; replace v8 := v8.on hC; replace bc := bc.trans (hC.mono bc.size); clear hC; generalize hX9 : sealB S X8 = X9 at *; have HX9 := Lib.hid hX9; clear hX9; clear pkb_0 pkb_1 pkb_0f pkb_1f pkf_0 pkf_1 pkf_2 pkf_3 pkf_4 pkf_5 pkf_6 pkf_7 pkf_8 pkf_0f pkf_1f pkf_2f pkf_3f pkf_4f pkf_5f pkf_6f pkf_7f pkf_8f pks_0 pks_1 pks_0f pks_1f; obtain ⟨pkb_0, pkb_1, pkb_0f, pkb_1f⟩ := kb.two; obtain ⟨pkf_0, pkf_1, pkf_2, pkf_3, pkf_4, pkf_5, pkf_6, pkf_7, pkf_8⟩ := kf.nine; obtain ⟨pkf_0f, pkf_1f, pkf_2f, pkf_3f, pkf_4f, pkf_5f, pkf_6f, pkf_7f, pkf_8f⟩ := kf.nineF; obtain ⟨pks_0, pks_1, pks_0f, pks_1f⟩ := ks.two; obtain ⟨ykr_0, ykr_1, ykr_0f, ykr_1f⟩ := kr.two; have hG := st2 w9 (w.heap.size + 1) (.int .i64 X9.length) (.slice A9 n9 c9); replace kf := kf.grown hG (some_ne (by omega)); replace kn := kn.grown hG (some_ne (by omega)); replace ks := ks.grown hG (some_ne (by omega)); replace kb := kb.grown hG (some_ne (by omega)); replace v2 := v2.off kr (no_u8 _ _ _ _) hG; replace v7 := v7.off kr (no_u8 _ _ _ _) hG; replace v8 := v8.off kr (no_u8 _ _ _ _) hG; replace v9 := v9.off kr (no_u8 _ _ _ _) hG; replace bc := Below.off bc bc.size (by omega) hG; replace kr := kr.put2 (.int .i64 X9.length) (.slice A9 n9 c9); clear hG; obtain ⟨zkb_0, zkb_1, zkb_0f, zkb_1f⟩ := kb.two; obtain ⟨zkf_0, zkf_1, zkf_2, zkf_3, zkf_4, zkf_5, zkf_6, zkf_7, zkf_8⟩ := kf.nine; obtain ⟨zkf_0f, zkf_1f, zkf_2f, zkf_3f, zkf_4f, zkf_5f, zkf_6f, zkf_7f, zkf_8f⟩ := kf.nineF; obtain ⟨zks_0, zks_1, zks_0f, zks_1f⟩ := ks.two) | (go_at_call 35; refine (HD.out X7 A7 n7 c7 _ bc v7 (by rw [HL7.out]; decide)).mono ?_; rintro e w8 ⟨A8, n8, c8, rfl, v8, hC⟩; dsimp only at v8 ⊢; replace kf := kf.on hC; replace kr := kr.on hC; replace kn := kn.on hC; replace ks := ks.on hC; replace kb := kb.on hC; replace v2 := v2.on hC; replace v7 := v7.on hC; replace bc := bc.trans (hC.mono bc.size); clear hC; generalize hX8 : (X7 ++ D : List Bool) = X8 at *; have l8 : X8.length ≤ 119 := (by have := HDL.out; rw [← hX8, List.length_append, HL7.out]; omega); have HL8 := Lib.hid l8; have HX8 := Lib.hid hX8; clear l8 hX8; clear pkb_0 pkb_1 pkb_0f pkb_1f pkf_0 pkf_1 pkf_2 pkf_3 pkf_4 pkf_5 pkf_6 pkf_7 pkf_8 pkf_0f pkf_1f pkf_2f pkf_3f pkf_4f pkf_5f pkf_6f pkf_7f pkf_8f pks_0 pks_1 pks_0f pks_1f; obtain ⟨pkb_0, pkb_1, pkb_0f, pkb_1f⟩ := kb.two; obtain ⟨pkf_0, pkf_1, pkf_2, pkf_3, pkf_4, pkf_5, pkf_6, pkf_7, pkf_8⟩ := kf.nine; obtain ⟨pkf_0f, pkf_1f, pkf_2f, pkf_3f, pkf_4f, pkf_5f, pkf_6f, pkf_7f, pkf_8f⟩ := kf.nineF; obtain ⟨pks_0, pks_1, pks_0f, pks_1f⟩ := ks.two))
    go_wp2
    have hz : Z = X9 := by rw [HZ.out, ← HX9.out, ← HX8.out, ← HX7.out, ← HX6.out, ← HX5.out, ← HX4.out, ← HX3.out]; simp only [List.append_assoc, List.nil_append]
    rw [hz]
    exact bodyPost_ret (v := .tuple #[.agg #[.int .i64 X9.length, .slice A9 n9 c9], .int .i64 0]) (by simp [results, Tryd.results9, go_sem, ykr_0, ykr_1]) rfl ⟨A9, n9, c9, rfl, v9, bc⟩
end Go.Proofs.YtcfbeelljhjnoaaDoor
