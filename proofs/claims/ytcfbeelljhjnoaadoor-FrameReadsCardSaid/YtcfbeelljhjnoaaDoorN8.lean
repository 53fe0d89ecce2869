/-
  Contracts of headBits of package frame (FrI, FrX): the bits ahead of the first sum. Conditions: that the bits can be read, and that the frame may be.
-/
import Derived.Test.YtcfbeelljhjnoaaDoorNA
namespace Go.Proofs.YtcfbeelljhjnoaaDoor
open Go.RowKit

set_option maxRecDepth 8000 in
set_option maxHeartbeats 2000000 in
theorem headBits_3 (R T P Mo Nx Me F : Int) (A : Option Addr) (n c : Nat) (S : List Bool) (B : Option Addr) (m d : Nat) (w : World) (hS : S.length = 24) (hV : Bv w S B m) (hR : 0 ≤ R ∧ R ≤ 4) :
    Calls Tryd.prog 28 #[.agg #[.int .i64 3, .int .i64 R, .int .i64 T, .int .i64 P, .int .i64 Mo, .int .i64 Nx, .int .i64 Me, .int .i64 F, .slice A n c], .agg #[.int .i64 3, .int .i64 1, .int .i64 24, .int .i64 24, .int .i64 0], .agg #[.int .i64 S.length, .slice B m d]] w (ResB w (numBits 2 2 ++ (numBits R.toNat 3 ++ (numBits 0 1 ++ S)))) := by
  obtain ⟨Z, hZ⟩ : ∃ Z, Z = numBits 2 2 ++ (numBits R.toNat 3 ++ (numBits 0 1 ++ S)) := ⟨_, rfl⟩
  rw [← hZ]
  have HZ := Lib.hid hZ; have HS := Lib.hid hS; clear hZ hS
  have wR : IntKind.u64.wrap R = R := IntWalk.u64_in _ (by omega)
  have nR := nat_of hR.1
  have lR : R.toNat < 2 ^ 3 := by omega
  have NR := Lib.hid nR; clear nR hR
  obtain ⟨kf, kp, ks, kr, bc⟩ := bx4 w #[.int .i64 3, .int .i64 R, .int .i64 T, .int .i64 P, .int .i64 Mo, .int .i64 Nx, .int .i64 Me, .int .i64 F, .slice A n c] #[.int .i64 3, .int .i64 1, .int .i64 24, .int .i64 24, .int .i64 0] #[.int .i64 S.length, .slice B m d] #[.int .i64 0, .slice none 0 0] 26 51 28 28
  replace hV := hV.on bc
  go_enter Tryd.func28, Tryd.ntmps28
  go_wp2_with fail
  generalize (((w.alloc (.cells #[.int .i64 3, .int .i64 R, .int .i64 T, .int .i64 P, .int .i64 Mo, .int .i64 Nx, .int .i64 Me, .int .i64 F, .slice A n c] 26)).alloc (.cells #[.int .i64 3, .int .i64 1, .int .i64 24, .int .i64 24, .int .i64 0] 51)).alloc (.cells #[.int .i64 S.length, .slice B m d] 28)).alloc (.cells #[.int .i64 0, .slice none 0 0] 28) = u1 at *
  refine (put_list (Bv.nil _) 0 (N := 0) (vi := 2) (Wi := 2) (v := 2) (W := 2) rfl rfl rfl (by decide) (by decide) (by decide)).mono ?_
  rintro e w1 ⟨A1, n1, c1, rfl, v1, hC⟩
  dsimp only at v1 ⊢
  replace kf := kf.on hC; replace kp := kp.on hC; replace ks := ks.on hC; replace kr := kr.on hC; replace hV := hV.on hC; replace bc := bc.trans (hC.mono bc.size); clear hC
  generalize hX1 : ([] ++ numBits 2 2 : List Bool) = X1 at v1 ⊢
  have l1 : X1.length = 2 := by rw [← hX1, List.length_append, numBits_length]; try rfl
  have HL1 := Lib.hid l1; have HX1 := Lib.hid hX1; clear l1 hX1
  have z_ko_kf := kf.lt
  have z_ko_kp := kp.lt
  have z_ko_ks := ks.lt
  have z_ko_kr := kr.lt
  have zb_ko := bc.size
  have ko := Blk.new w1 28 #[.int .i64 X1.length, .slice A1 n1 c1]
  have al := Below.al w1 (.cells #[.int .i64 X1.length, .slice A1 n1 c1] 28)
  replace kf := kf.on al; replace kp := kp.on al; replace ks := ks.on al; replace kr := kr.on al; replace hV := hV.on al; replace v1 := v1.on al; replace bc := bc.trans (al.mono bc.size); clear al
  obtain ⟨pkf_0, pkf_1, pkf_2, pkf_3, pkf_4, pkf_5, pkf_6, pkf_7, pkf_8⟩ := kf.nine
  obtain ⟨pkf_0f, pkf_1f, pkf_2f, pkf_3f, pkf_4f, pkf_5f, pkf_6f, pkf_7f, pkf_8f⟩ := kf.nineF
  obtain ⟨⟨pkp_0, pkp_1, pkp_2, pkp_3, pkp_4⟩, pkp_0f, pkp_1f, pkp_2f, pkp_3f, pkp_4f⟩ := kp.five
  obtain ⟨pks_0, pks_1, pks_0f, pks_1f⟩ := ks.two
  obtain ⟨pkr_0, pkr_1, pkr_0f, pkr_1f⟩ := kr.two
  obtain ⟨pko_0, pko_1, pko_0f, pko_1f⟩ := ko.two
  go_wp2_with fail
  clear pkf_0 pkf_1 pkf_2 pkf_3 pkf_4 pkf_5 pkf_6 pkf_7 pkf_8 pkf_0f pkf_1f pkf_2f pkf_3f pkf_4f pkf_5f pkf_6f pkf_7f pkf_8f pkp_0 pkp_1 pkp_2 pkp_3 pkp_4 pkp_0f pkp_1f pkp_2f pkp_3f pkp_4f pks_0 pks_1 pks_0f pks_1f pkr_0 pkr_1 pkr_0f pkr_1f pko_0 pko_1 pko_0f pko_1f
  generalize w1.alloc (.cells #[.int .i64 X1.length, .slice A1 n1 c1] 28) = u2 at *
  generalize w1.heap.size = g2 at *
  refine (put_list v1 c1 (Wi := 3) (v := R.toNat) (W := 3) rfl NR.out rfl (by decide) lR (by rw [HL1.out]; decide)).mono ?_
  rintro e w2 ⟨A2, n2, c2, rfl, v2, hC⟩
  dsimp only at v2 ⊢
  replace kf := kf.on hC; replace kp := kp.on hC; replace ks := ks.on hC; replace kr := kr.on hC; replace ko := ko.on hC; replace hV := hV.on hC; replace v1 := v1.on hC; replace bc := bc.trans (hC.mono bc.size); clear hC
  generalize hX2 : (X1 ++ numBits R.toNat 3 : List Bool) = X2 at v2 ⊢
  have l2 : X2.length = 5 := by rw [← hX2, List.length_append, HL1.out, numBits_length]; try rfl
  have HL2 := Lib.hid l2; have HX2 := Lib.hid hX2; clear l2 hX2
  clear v1
  obtain ⟨oko_0, oko_1, oko_0f, oko_1f⟩ := ko.two
  have hG := st2 w2 (g2) (.int .i64 X2.length) (.slice A2 n2 c2)
  replace kf := kf.grown hG (some_ne (by omega)); replace kp := kp.grown hG (some_ne (by omega)); replace ks := ks.grown hG (some_ne (by omega)); replace kr := kr.grown hG (some_ne (by omega)); replace hV := hV.off ko (no_u8 _ _ _ _) hG; replace v2 := v2.off ko (no_u8 _ _ _ _) hG; replace bc := Below.off bc bc.size (by omega) hG; replace ko := ko.put2 (.int .i64 X2.length) (.slice A2 n2 c2); clear hG
  obtain ⟨pkf_0, pkf_1, pkf_2, pkf_3, pkf_4, pkf_5, pkf_6, pkf_7, pkf_8⟩ := kf.nine
  obtain ⟨pkf_0f, pkf_1f, pkf_2f, pkf_3f, pkf_4f, pkf_5f, pkf_6f, pkf_7f, pkf_8f⟩ := kf.nineF
  obtain ⟨⟨pkp_0, pkp_1, pkp_2, pkp_3, pkp_4⟩, pkp_0f, pkp_1f, pkp_2f, pkp_3f, pkp_4f⟩ := kp.five
  obtain ⟨pks_0, pks_1, pks_0f, pks_1f⟩ := ks.two
  obtain ⟨pkr_0, pkr_1, pkr_0f, pkr_1f⟩ := kr.two
  obtain ⟨pko_0, pko_1, pko_0f, pko_1f⟩ := ko.two
  go_wp2_with fail
  clear oko_0 oko_1 oko_0f oko_1f pkf_0 pkf_1 pkf_2 pkf_3 pkf_4 pkf_5 pkf_6 pkf_7 pkf_8 pkf_0f pkf_1f pkf_2f pkf_3f pkf_4f pkf_5f pkf_6f pkf_7f pkf_8f pkp_0 pkp_1 pkp_2 pkp_3 pkp_4 pkp_0f pkp_1f pkp_2f pkp_3f pkp_4f pks_0 pks_1 pks_0f pks_1f pkr_0 pkr_1 pkr_0f pkr_1f pko_0 pko_1 pko_0f pko_1f
  generalize (w2.setCell ⟨g2, 0, none⟩ (.int .i64 X2.length)).setCell ⟨g2, 1, none⟩ (.slice A2 n2 c2) = u3 at *
  refine (put_list v2 c2 (Wi := 1) (v := 0) (W := 1) rfl rfl rfl (by decide) (by decide) (by rw [HL2.out]; decide)).mono ?_
  rintro e w3 ⟨A3, n3, c3, rfl, v3, hC⟩
  dsimp only at v3 ⊢
  replace kf := kf.on hC; replace kp := kp.on hC; replace ks := ks.on hC; replace kr := kr.on hC; replace ko := ko.on hC; replace hV := hV.on hC; replace v2 := v2.on hC; replace bc := bc.trans (hC.mono bc.size); clear hC
  generalize hX3 : (X2 ++ numBits 0 1 : List Bool) = X3 at v3 ⊢
  have l3 : X3.length = 6 := by rw [← hX3, List.length_append, HL2.out, numBits_length]; try rfl
  have HL3 := Lib.hid l3; have HX3 := Lib.hid hX3; clear l3 hX3
  clear v2
  obtain ⟨oko_0, oko_1, oko_0f, oko_1f⟩ := ko.two
  have hG := st2 w3 (g2) (.int .i64 X3.length) (.slice A3 n3 c3)
  replace kf := kf.grown hG (some_ne (by omega)); replace kp := kp.grown hG (some_ne (by omega)); replace ks := ks.grown hG (some_ne (by omega)); replace kr := kr.grown hG (some_ne (by omega)); replace hV := hV.off ko (no_u8 _ _ _ _) hG; replace v3 := v3.off ko (no_u8 _ _ _ _) hG; replace bc := Below.off bc bc.size (by omega) hG; replace ko := ko.put2 (.int .i64 X3.length) (.slice A3 n3 c3); clear hG
  obtain ⟨pkf_0, pkf_1, pkf_2, pkf_3, pkf_4, pkf_5, pkf_6, pkf_7, pkf_8⟩ := kf.nine
  obtain ⟨pkf_0f, pkf_1f, pkf_2f, pkf_3f, pkf_4f, pkf_5f, pkf_6f, pkf_7f, pkf_8f⟩ := kf.nineF
  obtain ⟨⟨pkp_0, pkp_1, pkp_2, pkp_3, pkp_4⟩, pkp_0f, pkp_1f, pkp_2f, pkp_3f, pkp_4f⟩ := kp.five
  obtain ⟨pks_0, pks_1, pks_0f, pks_1f⟩ := ks.two
  obtain ⟨pkr_0, pkr_1, pkr_0f, pkr_1f⟩ := kr.two
  obtain ⟨pko_0, pko_1, pko_0f, pko_1f⟩ := ko.two
  have z_kq_kf := kf.lt
  have z_kq_kp := kp.lt
  have z_kq_ks := ks.lt
  have z_kq_kr := kr.lt
  have z_kq_ko := ko.lt
  have zb_kq := bc.size
  have kq := Blk.new ((w3.setCell ⟨g2, 0, none⟩ (.int .i64 X3.length)).setCell ⟨g2, 1, none⟩ (.slice A3 n3 c3)) 28 #[.int .i64 X3.length, .slice A3 n3 c3, .int .i64 S.length, .slice B m d]
  have hsz : ((w3.setCell ⟨g2, 0, none⟩ (.int .i64 X3.length)).setCell ⟨g2, 1, none⟩ (.slice A3 n3 c3)).heap.size = w3.heap.size := by simp
  rw [hsz] at kq z_kq_kf z_kq_kp z_kq_ks z_kq_kr z_kq_ko zb_kq
  clear hsz
  have al := Below.al ((w3.setCell ⟨g2, 0, none⟩ (.int .i64 X3.length)).setCell ⟨g2, 1, none⟩ (.slice A3 n3 c3)) (.cells #[.int .i64 X3.length, .slice A3 n3 c3, .int .i64 S.length, .slice B m d] 28)
  replace kf := kf.on al; replace kp := kp.on al; replace ks := ks.on al; replace kr := kr.on al; replace ko := ko.on al; replace hV := hV.on al; replace v3 := v3.on al; replace bc := bc.trans (al.mono bc.size); clear al
  go_wp2_with fail
  clear oko_0 oko_1 oko_0f oko_1f pkf_0 pkf_1 pkf_2 pkf_3 pkf_4 pkf_5 pkf_6 pkf_7 pkf_8 pkf_0f pkf_1f pkf_2f pkf_3f pkf_4f pkf_5f pkf_6f pkf_7f pkf_8f pkp_0 pkp_1 pkp_2 pkp_3 pkp_4 pkp_0f pkp_1f pkp_2f pkp_3f pkp_4f pks_0 pks_1 pks_0f pks_1f pkr_0 pkr_1 pkr_0f pkr_1f pko_0 pko_1 pko_0f pko_1f
  generalize ((w3.setCell ⟨g2, 0, none⟩ (.int .i64 X3.length)).setCell ⟨g2, 1, none⟩ (.slice A3 n3 c3)).alloc (.cells #[.int .i64 X3.length, .slice A3 n3 c3, .int .i64 S.length, .slice B m d] 28) = u4 at *
  generalize w3.heap.size = g4 at *
  refine (join_list v3 hV kq rfl rfl (by rw [HL3.out, HS.out]; decide)).mono ?_
  rintro e w9 ⟨A9, n9, c9, rfl, v9, hC⟩
  dsimp only at v9 ⊢
  replace kf := kf.on hC; replace kp := kp.on hC; replace ks := ks.on hC; replace kr := kr.on hC; replace ko := ko.on hC; replace kq := kq.on hC; replace hV := hV.on hC; replace v3 := v3.on hC; replace bc := bc.trans (hC.mono bc.size); clear hC
  generalize hX9 : X3 ++ S = X9 at v9 ⊢
  have HX9 := Lib.hid hX9; clear hX9
  clear kf kp ks kq v3 hV
  obtain ⟨oko_0, oko_1, oko_0f, oko_1f⟩ := ko.two
  have hG := st2 w9 (g2) (.int .i64 X9.length) (.slice A9 n9 c9)
  replace kr := kr.grown hG (some_ne (by omega)); replace v9 := v9.off ko (no_u8 _ _ _ _) hG; replace bc := Below.off bc bc.size (by omega) hG; replace ko := ko.put2 (.int .i64 X9.length) (.slice A9 n9 c9); clear hG
  obtain ⟨yko_0, yko_1, yko_0f, yko_1f⟩ := ko.two
  obtain ⟨ykr_0, ykr_1, ykr_0f, ykr_1f⟩ := kr.two
  have hG := st2 ((w9.setCell ⟨g2, 0, none⟩ (.int .i64 X9.length)).setCell ⟨g2, 1, none⟩ (.slice A9 n9 c9)) (w.heap.size + 1 + 1 + 1) (.int .i64 X9.length) (.slice A9 n9 c9)
  replace ko := ko.grown hG (some_ne (by omega)); replace v9 := v9.off kr (no_u8 _ _ _ _) hG; replace bc := Below.off bc bc.size (by omega) hG; replace kr := kr.put2 (.int .i64 X9.length) (.slice A9 n9 c9); clear hG
  go_wp2
  have hz : Z = X9 := by rw [HZ.out, ← HX9.out, ← HX3.out, ← HX2.out, ← HX1.out]; simp
  rw [hz]
  exact bodyPost_ret (v := .agg #[.int .i64 X9.length, .slice A9 n9 c9]) (by simp [results, Tryd.results28, go_sem, ykr_0, ykr_1]) rfl ⟨A9, n9, c9, rfl, v9, bc⟩
set_option maxRecDepth 8000 in
set_option maxHeartbeats 2000000 in
theorem headBits_4 (R T P Mo Nx Me F : Int) (A : Option Addr) (n c : Nat) (S : List Bool) (B : Option Addr) (m d : Nat) (w : World) (hS : S.length = 24) (hV : Bv w S B m) (hR : 0 ≤ R ∧ R ≤ 4) :
    Calls Tryd.prog 28 #[.agg #[.int .i64 4, .int .i64 R, .int .i64 T, .int .i64 P, .int .i64 Mo, .int .i64 Nx, .int .i64 Me, .int .i64 F, .slice A n c], .agg #[.int .i64 3, .int .i64 2, .int .i64 24, .int .i64 24, .int .i64 8], .agg #[.int .i64 S.length, .slice B m d]] w (ResB w (numBits 3 2 ++ (numBits R.toNat 3 ++ (numBits 0 2 ++ S)))) := by
  obtain ⟨Z, hZ⟩ : ∃ Z, Z = numBits 3 2 ++ (numBits R.toNat 3 ++ (numBits 0 2 ++ S)) := ⟨_, rfl⟩
  rw [← hZ]
  have HZ := Lib.hid hZ; have HS := Lib.hid hS; clear hZ hS
  have wR : IntKind.u64.wrap R = R := IntWalk.u64_in _ (by omega)
  have nR := nat_of hR.1
  have lR : R.toNat < 2 ^ 3 := by omega
  have NR := Lib.hid nR; clear nR hR
  obtain ⟨kf, kp, ks, kr, bc⟩ := bx4 w #[.int .i64 4, .int .i64 R, .int .i64 T, .int .i64 P, .int .i64 Mo, .int .i64 Nx, .int .i64 Me, .int .i64 F, .slice A n c] #[.int .i64 3, .int .i64 2, .int .i64 24, .int .i64 24, .int .i64 8] #[.int .i64 S.length, .slice B m d] #[.int .i64 0, .slice none 0 0] 26 51 28 28
  replace hV := hV.on bc
  go_enter Tryd.func28, Tryd.ntmps28
  go_wp2_with fail
  generalize (((w.alloc (.cells #[.int .i64 4, .int .i64 R, .int .i64 T, .int .i64 P, .int .i64 Mo, .int .i64 Nx, .int .i64 Me, .int .i64 F, .slice A n c] 26)).alloc (.cells #[.int .i64 3, .int .i64 2, .int .i64 24, .int .i64 24, .int .i64 8] 51)).alloc (.cells #[.int .i64 S.length, .slice B m d] 28)).alloc (.cells #[.int .i64 0, .slice none 0 0] 28) = u1 at *
  refine (put_list (Bv.nil _) 0 (N := 0) (vi := 3) (Wi := 2) (v := 3) (W := 2) rfl rfl rfl (by decide) (by decide) (by decide)).mono ?_
  rintro e w1 ⟨A1, n1, c1, rfl, v1, hC⟩
  dsimp only at v1 ⊢
  replace kf := kf.on hC; replace kp := kp.on hC; replace ks := ks.on hC; replace kr := kr.on hC; replace hV := hV.on hC; replace bc := bc.trans (hC.mono bc.size); clear hC
  generalize hX1 : ([] ++ numBits 3 2 : List Bool) = X1 at v1 ⊢
  have l1 : X1.length = 2 := by rw [← hX1, List.length_append, numBits_length]; try rfl
  have HL1 := Lib.hid l1; have HX1 := Lib.hid hX1; clear l1 hX1
  have z_ko_kf := kf.lt
  have z_ko_kp := kp.lt
  have z_ko_ks := ks.lt
  have z_ko_kr := kr.lt
  have zb_ko := bc.size
  have ko := Blk.new w1 28 #[.int .i64 X1.length, .slice A1 n1 c1]
  have al := Below.al w1 (.cells #[.int .i64 X1.length, .slice A1 n1 c1] 28)
  replace kf := kf.on al; replace kp := kp.on al; replace ks := ks.on al; replace kr := kr.on al; replace hV := hV.on al; replace v1 := v1.on al; replace bc := bc.trans (al.mono bc.size); clear al
  obtain ⟨pkf_0, pkf_1, pkf_2, pkf_3, pkf_4, pkf_5, pkf_6, pkf_7, pkf_8⟩ := kf.nine
  obtain ⟨pkf_0f, pkf_1f, pkf_2f, pkf_3f, pkf_4f, pkf_5f, pkf_6f, pkf_7f, pkf_8f⟩ := kf.nineF
  obtain ⟨⟨pkp_0, pkp_1, pkp_2, pkp_3, pkp_4⟩, pkp_0f, pkp_1f, pkp_2f, pkp_3f, pkp_4f⟩ := kp.five
  obtain ⟨pks_0, pks_1, pks_0f, pks_1f⟩ := ks.two
  obtain ⟨pkr_0, pkr_1, pkr_0f, pkr_1f⟩ := kr.two
  obtain ⟨pko_0, pko_1, pko_0f, pko_1f⟩ := ko.two
  go_wp2_with fail
  clear pkf_0 pkf_1 pkf_2 pkf_3 pkf_4 pkf_5 pkf_6 pkf_7 pkf_8 pkf_0f pkf_1f pkf_2f pkf_3f pkf_4f pkf_5f pkf_6f pkf_7f pkf_8f pkp_0 pkp_1 pkp_2 pkp_3 pkp_4 pkp_0f pkp_1f pkp_2f pkp_3f pkp_4f pks_0 pks_1 pks_0f pks_1f pkr_0 pkr_1 pkr_0f pkr_1f pko_0 pko_1 pko_0f pko_1f
  generalize w1.alloc (.cells #[.int .i64 X1.length, .slice A1 n1 c1] 28) = u2 at *
  generalize w1.heap.size = g2 at *
  refine (put_list v1 c1 (Wi := 3) (v := R.toNat) (W := 3) rfl NR.out rfl (by decide) lR (by rw [HL1.out]; decide)).mono ?_
  rintro e w2 ⟨A2, n2, c2, rfl, v2, hC⟩
  dsimp only at v2 ⊢
  replace kf := kf.on hC; replace kp := kp.on hC; replace ks := ks.on hC; replace kr := kr.on hC; replace ko := ko.on hC; replace hV := hV.on hC; replace v1 := v1.on hC; replace bc := bc.trans (hC.mono bc.size); clear hC
  generalize hX2 : (X1 ++ numBits R.toNat 3 : List Bool) = X2 at v2 ⊢
  have l2 : X2.length = 5 := by rw [← hX2, List.length_append, HL1.out, numBits_length]; try rfl
  have HL2 := Lib.hid l2; have HX2 := Lib.hid hX2; clear l2 hX2
  clear v1
  obtain ⟨oko_0, oko_1, oko_0f, oko_1f⟩ := ko.two
  have hG := st2 w2 (g2) (.int .i64 X2.length) (.slice A2 n2 c2)
  replace kf := kf.grown hG (some_ne (by omega)); replace kp := kp.grown hG (some_ne (by omega)); replace ks := ks.grown hG (some_ne (by omega)); replace kr := kr.grown hG (some_ne (by omega)); replace hV := hV.off ko (no_u8 _ _ _ _) hG; replace v2 := v2.off ko (no_u8 _ _ _ _) hG; replace bc := Below.off bc bc.size (by omega) hG; replace ko := ko.put2 (.int .i64 X2.length) (.slice A2 n2 c2); clear hG
  obtain ⟨pkf_0, pkf_1, pkf_2, pkf_3, pkf_4, pkf_5, pkf_6, pkf_7, pkf_8⟩ := kf.nine
  obtain ⟨pkf_0f, pkf_1f, pkf_2f, pkf_3f, pkf_4f, pkf_5f, pkf_6f, pkf_7f, pkf_8f⟩ := kf.nineF
  obtain ⟨⟨pkp_0, pkp_1, pkp_2, pkp_3, pkp_4⟩, pkp_0f, pkp_1f, pkp_2f, pkp_3f, pkp_4f⟩ := kp.five
  obtain ⟨pks_0, pks_1, pks_0f, pks_1f⟩ := ks.two
  obtain ⟨pkr_0, pkr_1, pkr_0f, pkr_1f⟩ := kr.two
  obtain ⟨pko_0, pko_1, pko_0f, pko_1f⟩ := ko.two
  go_wp2_with fail
  clear oko_0 oko_1 oko_0f oko_1f pkf_0 pkf_1 pkf_2 pkf_3 pkf_4 pkf_5 pkf_6 pkf_7 pkf_8 pkf_0f pkf_1f pkf_2f pkf_3f pkf_4f pkf_5f pkf_6f pkf_7f pkf_8f pkp_0 pkp_1 pkp_2 pkp_3 pkp_4 pkp_0f pkp_1f pkp_2f pkp_3f pkp_4f pks_0 pks_1 pks_0f pks_1f pkr_0 pkr_1 pkr_0f pkr_1f pko_0 pko_1 pko_0f pko_1f
  generalize (w2.setCell ⟨g2, 0, none⟩ (.int .i64 X2.length)).setCell ⟨g2, 1, none⟩ (.slice A2 n2 c2) = u3 at *
  refine (put_list v2 c2 (Wi := 2) (v := 0) (W := 2) rfl rfl rfl (by decide) (by decide) (by rw [HL2.out]; decide)).mono ?_
  rintro e w3 ⟨A3, n3, c3, rfl, v3, hC⟩
  dsimp only at v3 ⊢
  replace kf := kf.on hC; replace kp := kp.on hC; replace ks := ks.on hC; replace kr := kr.on hC; replace ko := ko.on hC; replace hV := hV.on hC; replace v2 := v2.on hC; replace bc := bc.trans (hC.mono bc.size); clear hC
  generalize hX3 : (X2 ++ numBits 0 2 : List Bool) = X3 at v3 ⊢
  have l3 : X3.length = 7 := by rw [← hX3, List.length_append, HL2.out, numBits_length]; try rfl
  have HL3 := Lib.hid l3; have HX3 := Lib.hid hX3; clear l3 hX3
  clear v2
  obtain ⟨oko_0, oko_1, oko_0f, oko_1f⟩ := ko.two
  have hG := st2 w3 (g2) (.int .i64 X3.length) (.slice A3 n3 c3)
  replace kf := kf.grown hG (some_ne (by omega)); replace kp := kp.grown hG (some_ne (by omega)); replace ks := ks.grown hG (some_ne (by omega)); replace kr := kr.grown hG (some_ne (by omega)); replace hV := hV.off ko (no_u8 _ _ _ _) hG; replace v3 := v3.off ko (no_u8 _ _ _ _) hG; replace bc := Below.off bc bc.size (by omega) hG; replace ko := ko.put2 (.int .i64 X3.length) (.slice A3 n3 c3); clear hG
  obtain ⟨pkf_0, pkf_1, pkf_2, pkf_3, pkf_4, pkf_5, pkf_6, pkf_7, pkf_8⟩ := kf.nine
  obtain ⟨pkf_0f, pkf_1f, pkf_2f, pkf_3f, pkf_4f, pkf_5f, pkf_6f, pkf_7f, pkf_8f⟩ := kf.nineF
  obtain ⟨⟨pkp_0, pkp_1, pkp_2, pkp_3, pkp_4⟩, pkp_0f, pkp_1f, pkp_2f, pkp_3f, pkp_4f⟩ := kp.five
  obtain ⟨pks_0, pks_1, pks_0f, pks_1f⟩ := ks.two
  obtain ⟨pkr_0, pkr_1, pkr_0f, pkr_1f⟩ := kr.two
  obtain ⟨pko_0, pko_1, pko_0f, pko_1f⟩ := ko.two
  have z_kq_kf := kf.lt
  have z_kq_kp := kp.lt
  have z_kq_ks := ks.lt
  have z_kq_kr := kr.lt
  have z_kq_ko := ko.lt
  have zb_kq := bc.size
  have kq := Blk.new ((w3.setCell ⟨g2, 0, none⟩ (.int .i64 X3.length)).setCell ⟨g2, 1, none⟩ (.slice A3 n3 c3)) 28 #[.int .i64 X3.length, .slice A3 n3 c3, .int .i64 S.length, .slice B m d]
  have hsz : ((w3.setCell ⟨g2, 0, none⟩ (.int .i64 X3.length)).setCell ⟨g2, 1, none⟩ (.slice A3 n3 c3)).heap.size = w3.heap.size := by simp
  rw [hsz] at kq z_kq_kf z_kq_kp z_kq_ks z_kq_kr z_kq_ko zb_kq
  clear hsz
  have al := Below.al ((w3.setCell ⟨g2, 0, none⟩ (.int .i64 X3.length)).setCell ⟨g2, 1, none⟩ (.slice A3 n3 c3)) (.cells #[.int .i64 X3.length, .slice A3 n3 c3, .int .i64 S.length, .slice B m d] 28)
  replace kf := kf.on al; replace kp := kp.on al; replace ks := ks.on al; replace kr := kr.on al; replace ko := ko.on al; replace hV := hV.on al; replace v3 := v3.on al; replace bc := bc.trans (al.mono bc.size); clear al
  go_wp2_with fail
  clear oko_0 oko_1 oko_0f oko_1f pkf_0 pkf_1 pkf_2 pkf_3 pkf_4 pkf_5 pkf_6 pkf_7 pkf_8 pkf_0f pkf_1f pkf_2f pkf_3f pkf_4f pkf_5f pkf_6f pkf_7f pkf_8f pkp_0 pkp_1 pkp_2 pkp_3 pkp_4 pkp_0f pkp_1f pkp_2f pkp_3f pkp_4f pks_0 pks_1 pks_0f pks_1f pkr_0 pkr_1 pkr_0f pkr_1f pko_0 pko_1 pko_0f pko_1f
  generalize ((w3.setCell ⟨g2, 0, none⟩ (.int .i64 X3.length)).setCell ⟨g2, 1, none⟩ (.slice A3 n3 c3)).alloc (.cells #[.int .i64 X3.length, .slice A3 n3 c3, .int .i64 S.length, .slice B m d] 28) = u4 at *
  generalize w3.heap.size = g4 at *
  refine (join_list v3 hV kq rfl rfl (by rw [HL3.out, HS.out]; decide)).mono ?_
  rintro e w9 ⟨A9, n9, c9, rfl, v9, hC⟩
  dsimp only at v9 ⊢
  replace kf := kf.on hC; replace kp := kp.on hC; replace ks := ks.on hC; replace kr := kr.on hC; replace ko := ko.on hC; replace kq := kq.on hC; replace hV := hV.on hC; replace v3 := v3.on hC; replace bc := bc.trans (hC.mono bc.size); clear hC
  generalize hX9 : X3 ++ S = X9 at v9 ⊢
  have HX9 := Lib.hid hX9; clear hX9
  clear kf kp ks kq v3 hV
  obtain ⟨oko_0, oko_1, oko_0f, oko_1f⟩ := ko.two
  have hG := st2 w9 (g2) (.int .i64 X9.length) (.slice A9 n9 c9)
  replace kr := kr.grown hG (some_ne (by omega)); replace v9 := v9.off ko (no_u8 _ _ _ _) hG; replace bc := Below.off bc bc.size (by omega) hG; replace ko := ko.put2 (.int .i64 X9.length) (.slice A9 n9 c9); clear hG
  obtain ⟨yko_0, yko_1, yko_0f, yko_1f⟩ := ko.two
  obtain ⟨ykr_0, ykr_1, ykr_0f, ykr_1f⟩ := kr.two
  have hG := st2 ((w9.setCell ⟨g2, 0, none⟩ (.int .i64 X9.length)).setCell ⟨g2, 1, none⟩ (.slice A9 n9 c9)) (w.heap.size + 1 + 1 + 1) (.int .i64 X9.length) (.slice A9 n9 c9)
  replace ko := ko.grown hG (some_ne (by omega)); replace v9 := v9.off kr (no_u8 _ _ _ _) hG; replace bc := Below.off bc bc.size (by omega) hG; replace kr := kr.put2 (.int .i64 X9.length) (.slice A9 n9 c9); clear hG
  go_wp2
  have hz : Z = X9 := by rw [HZ.out, ← HX9.out, ← HX3.out, ← HX2.out, ← HX1.out]; simp
  rw [hz]
  exact bodyPost_ret (v := .agg #[.int .i64 X9.length, .slice A9 n9 c9]) (by simp [results, Tryd.results28, go_sem, ykr_0, ykr_1]) rfl ⟨A9, n9, c9, rfl, v9, bc⟩
end Go.Proofs.YtcfbeelljhjnoaaDoor
