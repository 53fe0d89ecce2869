/-
  Contracts of dataBits and headBits of package frame: the bytes of a frame as bits, and the bits ahead of the first sum. Conditions: that the bits can be read, and that the frame may be.
-/
import Derived.Test.YtcfbeelljhjnoaaDoorN6
namespace Go.Proofs.YtcfbeelljhjnoaaDoor
open Go.RowKit

set_option maxRecDepth 8000 in
set_option maxHeartbeats 1000000 in
theorem dataBits_any (A : Option Addr) (n c : Nat) (ds : List UInt8) (w : World) (hn : n = ds.length) (hm : n ≤ 8) (hA : Byt w.heap.size w A ds) :
    Calls Tryd.prog 31 #[.slice A n c] w (ResB w (dataL ds)) := by
  have al := Below.al w (.cells #[.int .i64 0, .slice none 0 0] 28)
  have k0 := Blk.new w 28 #[.int .i64 0, .slice none 0 0]
  have ho := own_any A n c ds _ hn (by omega) (hA.on al)
  have hw : IntKind.i64.wrap ((n : Int) * 8) = (n : Int) * 8 := IntWalk.i64_in _ (by omega)
  have hl : ((dataL ds).length : Int) = (n : Int) * 8 := by rw [dataL_length, hn]; omega
  have hl4 : (dataL ds).length ≤ 4096 := by rw [dataL_length]; omega
  have HO := Lib.hid ho; have HN := Lib.hid hn; have HL := Lib.hid hl; have H4 := Lib.hid hl4
  clear ho hn hm hA hl hl4
  go_enter Tryd.func31, Tryd.ntmps31
  go_wp2_with fail
  refine HO.out.mono ?_
  rintro e w1 ⟨A1, c1, rfl, hA1, hB1⟩
  dsimp only
  have k1 := k0.on hB1
  have b1 := al.trans (hB1.mono al.size)
  obtain ⟨p0, p1, q0, q1⟩ := k1.two
  clear HO hB1 k0 al
  go_wp2
  refine bodyPost_ret (v := .agg #[.int .i64 ((n : Int) * 8), .slice A1 n c1]) (by simp [results, Tryd.results31, go_sem, p0, p1]) rfl ?_
  have hy := hA1.box k1 (N' := (n : Int) * 8) (X' := A1) (m' := n) (c' := c1)
  exact ⟨A1, n, c1, by rw [HL.out], ⟨ds, HN.out, isBits_data ds, H4.out, hy⟩, below_stored b1 (Nat.le_refl _) _ _⟩

theorem four_boxes (w : World) (c1 c2 c3 c4 : Array Value) (t1 t2 t3 t4 : TypeId) :
    Blk ((((w.alloc (.cells c1 t1)).alloc (.cells c2 t2)).alloc (.cells c3 t3)).alloc (.cells c4 t4)) w.heap.size t1 c1 ∧
    Blk ((((w.alloc (.cells c1 t1)).alloc (.cells c2 t2)).alloc (.cells c3 t3)).alloc (.cells c4 t4)) (w.heap.size + 1) t2 c2 ∧
    Blk ((((w.alloc (.cells c1 t1)).alloc (.cells c2 t2)).alloc (.cells c3 t3)).alloc (.cells c4 t4)) (w.heap.size + 1 + 1) t3 c3 ∧
    Blk ((((w.alloc (.cells c1 t1)).alloc (.cells c2 t2)).alloc (.cells c3 t3)).alloc (.cells c4 t4)) (w.heap.size + 1 + 1 + 1) t4 c4 ∧
    Below w.heap.size w ((((w.alloc (.cells c1 t1)).alloc (.cells c2 t2)).alloc (.cells c3 t3)).alloc (.cells c4 t4)) := by
  have s1 : (w.alloc (.cells c1 t1)).heap.size = w.heap.size + 1 := by simp
  have s2 : ((w.alloc (.cells c1 t1)).alloc (.cells c2 t2)).heap.size = w.heap.size + 1 + 1 := by simp
  have s3 : (((w.alloc (.cells c1 t1)).alloc (.cells c2 t2)).alloc (.cells c3 t3)).heap.size = w.heap.size + 1 + 1 + 1 := by simp
  refine ⟨(((Blk.new w _ _).alloc _).alloc _).alloc _, ?_, ?_, ?_, (((((Below.refl _ _).alloc (Nat.le_refl _) _).alloc (by omega) _).alloc (by omega) _).alloc (by omega) _)⟩
  · rw [← s1]; exact ((Blk.new _ _ _).alloc _).alloc _
  · rw [← s2]; exact (Blk.new _ _ _).alloc _
  · rw [← s3]; exact Blk.new _ _ _
theorem nat_of {x : Int} (h : 0 ≤ x) : x = (x.toNat : Int) := (Int.toNat_of_nonneg h).symm
set_option maxRecDepth 8000 in
set_option maxHeartbeats 2000000 in
theorem headBits_1 (R T P Mo Nx Me F : Int) (A : Option Addr) (n c : Nat) (S : List Bool) (B : Option Addr) (m d : Nat) (w : World) (hS : S.length = 24) (hV : Bv w S B m) (hF : 0 ≤ F ∧ F < 8) (hT : 0 ≤ T ∧ T ≤ 255) :
    Calls Tryd.prog 28 #[.agg #[.int .i64 1, .int .i64 R, .int .i64 T, .int .i64 P, .int .i64 Mo, .int .i64 Nx, .int .i64 Me, .int .i64 F, .slice A n c], .agg #[.int .i64 11, .int .i64 3, .int .i64 0, .int .i64 24, .int .i64 0], .agg #[.int .i64 S.length, .slice B m d]] w (ResB w (numBits 0 2 ++ (numBits F.toNat 3 ++ (numBits T.toNat 8 ++ numBits 0 3)))) := by
  obtain ⟨kf, kp, ks, kr, bc⟩ := four_boxes w #[.int .i64 1, .int .i64 R, .int .i64 T, .int .i64 P, .int .i64 Mo, .int .i64 Nx, .int .i64 Me, .int .i64 F, .slice A n c] #[.int .i64 11, .int .i64 3, .int .i64 0, .int .i64 24, .int .i64 0] #[.int .i64 S.length, .slice B m d] #[.int .i64 0, .slice none 0 0] 26 51 28 28
  replace hV := hV.on bc
  obtain ⟨Z, hZ⟩ : ∃ Z, Z = numBits 0 2 ++ (numBits F.toNat 3 ++ (numBits T.toNat 8 ++ numBits 0 3)) := ⟨_, rfl⟩
  rw [← hZ]
  have HZ := Lib.hid hZ; have HS := Lib.hid hS; clear hZ hS
  have wF : IntKind.u64.wrap F = F := IntWalk.u64_in _ (by omega)
  have wT : IntKind.u64.wrap T = T := IntWalk.u64_in _ (by omega)
  have nF := nat_of hF.1
  have nT := nat_of hT.1
  have lF : F.toNat < 2 ^ 3 := by omega
  have lT : T.toNat < 2 ^ 8 := by omega
  have NF := Lib.hid nF; have NT := Lib.hid nT; clear nF nT hF hT
  go_enter Tryd.func28, Tryd.ntmps28
  go_wp2_with fail
  generalize (((w.alloc (.cells #[.int .i64 1, .int .i64 R, .int .i64 T, .int .i64 P, .int .i64 Mo, .int .i64 Nx, .int .i64 Me, .int .i64 F, .slice A n c] 26)).alloc (.cells #[.int .i64 11, .int .i64 3, .int .i64 0, .int .i64 24, .int .i64 0] 51)).alloc (.cells #[.int .i64 S.length, .slice B m d] 28)).alloc (.cells #[.int .i64 0, .slice none 0 0] 28) = w0 at *
  refine (put_list (Bv.nil _) 0 (N := 0) (vi := 0) (Wi := 2) (v := 0) (W := 2) rfl rfl rfl (by decide) (by decide) (by decide)).mono ?_
  rintro e w1 ⟨A1, n1, c1, rfl, v1, hC⟩
  dsimp only at v1 ⊢
  generalize hX1 : ([] ++ numBits 0 2 : List Bool) = X1 at v1 ⊢
  have l1 : X1.length = 2 := by rw [← hX1]; rfl
  have HL1 := Lib.hid l1; have HX1 := Lib.hid hX1; clear l1 hX1
  replace kf := kf.on hC; replace kp := kp.on hC; replace ks := ks.on hC; replace kr := kr.on hC; replace hV := hV.on hC
  replace bc := bc.trans (hC.mono bc.size)
  clear hC
  have z_k7_kf := kf.lt
  have z_k7_kp := kp.lt
  have z_k7_ks := ks.lt
  have z_k7_kr := kr.lt
  have k7 := Blk.new w1 28 #[.int .i64 X1.length, .slice A1 n1 c1]
  have al := Below.al w1 (.cells #[.int .i64 X1.length, .slice A1 n1 c1] 28)
  replace kf := kf.on al; replace kp := kp.on al; replace ks := ks.on al; replace kr := kr.on al; replace hV := hV.on al; replace v1 := v1.on al
  replace bc := bc.trans (al.mono bc.size)
  clear al
  obtain ⟨pkf_0, pkf_1, pkf_2, pkf_3, pkf_4, pkf_5, pkf_6, pkf_7, pkf_8⟩ := kf.nine
  obtain ⟨⟨pkp_0, pkp_1, pkp_2, pkp_3, pkp_4⟩, pkp_0f, pkp_1f, pkp_2f, pkp_3f, pkp_4f⟩ := kp.five
  obtain ⟨pks_0, pks_1, pks_0f, pks_1f⟩ := ks.two
  obtain ⟨pkr_0, pkr_1, pkr_0f, pkr_1f⟩ := kr.two
  obtain ⟨pk7_0, pk7_1, pk7_0f, pk7_1f⟩ := k7.two
  go_wp2_with fail
  clear pkf_0 pkf_1 pkf_2 pkf_3 pkf_4 pkf_5 pkf_6 pkf_7 pkf_8 pkp_0 pkp_1 pkp_2 pkp_3 pkp_4 pkp_0f pkp_1f pkp_2f pkp_3f pkp_4f pks_0 pks_1 pks_0f pks_1f pkr_0 pkr_1 pkr_0f pkr_1f pk7_0 pk7_1 pk7_0f pk7_1f
  generalize w1.alloc (.cells #[.int .i64 X1.length, .slice A1 n1 c1] 28) = u1 at *
  generalize w1.heap.size = g7 at *
  refine (put_list v1 c1 (Wi := 3) (v := F.toNat) (W := 3) rfl NF.out rfl (by decide) lF (by rw [HL1.out]; decide)).mono ?_
  rintro e w2 ⟨A2, n2, c2, rfl, v2, hC⟩
  dsimp only at v2 ⊢
  generalize hX2 : X1 ++ numBits F.toNat 3 = X2 at v2 ⊢
  have l2 : X2.length = 5 := by rw [← hX2, List.length_append, HL1.out, numBits_length]
  have HL2 := Lib.hid l2; have HX2 := Lib.hid hX2; clear l2 hX2
  replace kf := kf.on hC; replace kp := kp.on hC; replace ks := ks.on hC; replace kr := kr.on hC; replace k7 := k7.on hC; replace hV := hV.on hC; replace v1 := v1.on hC
  replace bc := bc.trans (hC.mono bc.size)
  clear hC
  clear v1
  obtain ⟨o0, o1, o0f, o1f⟩ := k7.two
  replace hV := hV.box k7 (N' := X2.length) (X' := A2) (m' := n2) (c' := c2)
  replace v2 := v2.box k7 (N' := X2.length) (X' := A2) (m' := n2) (c' := c2)
  replace kf := kf.far2 (g' := g7) (by omega) (.int .i64 X2.length) (.slice A2 n2 c2)
  replace kp := kp.far2 (g' := g7) (by omega) (.int .i64 X2.length) (.slice A2 n2 c2)
  replace ks := ks.far2 (g' := g7) (by omega) (.int .i64 X2.length) (.slice A2 n2 c2)
  replace kr := kr.far2 (g' := g7) (by omega) (.int .i64 X2.length) (.slice A2 n2 c2)
  replace k7 := k7.put2 (.int .i64 X2.length) (.slice A2 n2 c2)
  replace bc := below_stored bc (g := g7) (by omega) (.int .i64 X2.length) (.slice A2 n2 c2)
  obtain ⟨pkf_0, pkf_1, pkf_2, pkf_3, pkf_4, pkf_5, pkf_6, pkf_7, pkf_8⟩ := kf.nine
  obtain ⟨⟨pkp_0, pkp_1, pkp_2, pkp_3, pkp_4⟩, pkp_0f, pkp_1f, pkp_2f, pkp_3f, pkp_4f⟩ := kp.five
  obtain ⟨pks_0, pks_1, pks_0f, pks_1f⟩ := ks.two
  obtain ⟨pkr_0, pkr_1, pkr_0f, pkr_1f⟩ := kr.two
  obtain ⟨pk7_0, pk7_1, pk7_0f, pk7_1f⟩ := k7.two
  go_wp2_with fail
  clear o0 o1 o0f o1f
  clear pkf_0 pkf_1 pkf_2 pkf_3 pkf_4 pkf_5 pkf_6 pkf_7 pkf_8 pkp_0 pkp_1 pkp_2 pkp_3 pkp_4 pkp_0f pkp_1f pkp_2f pkp_3f pkp_4f pks_0 pks_1 pks_0f pks_1f pkr_0 pkr_1 pkr_0f pkr_1f pk7_0 pk7_1 pk7_0f pk7_1f
  generalize (w2.setCell ⟨g7, 0, none⟩ (.int .i64 X2.length)).setCell ⟨g7, 1, none⟩ (.slice A2 n2 c2) = u2 at *
  refine (put_list v2 c2 (Wi := 8) (v := T.toNat) (W := 8) rfl NT.out rfl (by decide) lT (by rw [HL2.out]; decide)).mono ?_
  rintro e w3 ⟨A3, n3, c3, rfl, v3, hC⟩
  dsimp only at v3 ⊢
  generalize hX3 : X2 ++ numBits T.toNat 8 = X3 at v3 ⊢
  have l3 : X3.length = 13 := by rw [← hX3, List.length_append, HL2.out, numBits_length]
  have HL3 := Lib.hid l3; have HX3 := Lib.hid hX3; clear l3 hX3
  replace kf := kf.on hC; replace kp := kp.on hC; replace ks := ks.on hC; replace kr := kr.on hC; replace k7 := k7.on hC; replace hV := hV.on hC; replace v2 := v2.on hC
  replace bc := bc.trans (hC.mono bc.size)
  clear hC
  clear v2
  obtain ⟨o0, o1, o0f, o1f⟩ := k7.two
  replace hV := hV.box k7 (N' := X3.length) (X' := A3) (m' := n3) (c' := c3)
  replace v3 := v3.box k7 (N' := X3.length) (X' := A3) (m' := n3) (c' := c3)
  replace kf := kf.far2 (g' := g7) (by omega) (.int .i64 X3.length) (.slice A3 n3 c3)
  replace kp := kp.far2 (g' := g7) (by omega) (.int .i64 X3.length) (.slice A3 n3 c3)
  replace ks := ks.far2 (g' := g7) (by omega) (.int .i64 X3.length) (.slice A3 n3 c3)
  replace kr := kr.far2 (g' := g7) (by omega) (.int .i64 X3.length) (.slice A3 n3 c3)
  replace k7 := k7.put2 (.int .i64 X3.length) (.slice A3 n3 c3)
  replace bc := below_stored bc (g := g7) (by omega) (.int .i64 X3.length) (.slice A3 n3 c3)
  obtain ⟨pkf_0, pkf_1, pkf_2, pkf_3, pkf_4, pkf_5, pkf_6, pkf_7, pkf_8⟩ := kf.nine
  obtain ⟨⟨pkp_0, pkp_1, pkp_2, pkp_3, pkp_4⟩, pkp_0f, pkp_1f, pkp_2f, pkp_3f, pkp_4f⟩ := kp.five
  obtain ⟨pks_0, pks_1, pks_0f, pks_1f⟩ := ks.two
  obtain ⟨pkr_0, pkr_1, pkr_0f, pkr_1f⟩ := kr.two
  obtain ⟨pk7_0, pk7_1, pk7_0f, pk7_1f⟩ := k7.two
  go_wp2_with fail
  clear o0 o1 o0f o1f
  clear pkf_0 pkf_1 pkf_2 pkf_3 pkf_4 pkf_5 pkf_6 pkf_7 pkf_8 pkp_0 pkp_1 pkp_2 pkp_3 pkp_4 pkp_0f pkp_1f pkp_2f pkp_3f pkp_4f pks_0 pks_1 pks_0f pks_1f pkr_0 pkr_1 pkr_0f pkr_1f pk7_0 pk7_1 pk7_0f pk7_1f
  generalize (w3.setCell ⟨g7, 0, none⟩ (.int .i64 X3.length)).setCell ⟨g7, 1, none⟩ (.slice A3 n3 c3) = u3 at *
  refine (put_list v3 c3 (Wi := 3) (v := 0) (W := 3) rfl rfl rfl (by decide) (by decide) (by rw [HL3.out]; decide)).mono ?_
  rintro e w4 ⟨A4, n4, c4, rfl, v4, hC⟩
  dsimp only at v4 ⊢
  generalize hX4 : X3 ++ numBits 0 3 = X4 at v4 ⊢
  have l4 : X4.length = 16 := by rw [← hX4, List.length_append, HL3.out, numBits_length]
  have HL4 := Lib.hid l4; have HX4 := Lib.hid hX4; clear l4 hX4
  replace kf := kf.on hC; replace kp := kp.on hC; replace ks := ks.on hC; replace kr := kr.on hC; replace k7 := k7.on hC; replace hV := hV.on hC; replace v3 := v3.on hC
  replace bc := bc.trans (hC.mono bc.size)
  clear hC
  clear v3
  obtain ⟨o0, o1, o0f, o1f⟩ := k7.two
  have v9 := (v4.box k7 (N' := X4.length) (X' := A4) (m' := n4) (c' := c4))
  have kr9 := kr.far2 (g' := g7) (by omega) (.int .i64 X4.length) (.slice A4 n4 c4); have kp9 := kp.far2 (g' := g7) (by omega) (.int .i64 X4.length) (.slice A4 n4 c4); have k79 := k7.put2 (.int .i64 X4.length) (.slice A4 n4 c4); have b9 := below_stored bc (g := g7) (by omega) (.int .i64 X4.length) (.slice A4 n4 c4)
  obtain ⟨r0, r1, r0f, r1f⟩ := kr9.two
  obtain ⟨⟨x0, x1, x2, x3, x4⟩, -⟩ := kp9.five
  obtain ⟨y0, y1, y0f, y1f⟩ := k79.two
  go_wp2
  have hz : Z = X4 := by rw [HZ.out, ← HX4.out, ← HX3.out, ← HX2.out, ← HX1.out]; simp
  rw [hz]
  exact bodyPost_ret (v := .agg #[.int .i64 X4.length, .slice A4 n4 c4]) (by simp [results, Tryd.results28, go_sem, r0, r1]) rfl ⟨A4, n4, c4, rfl, v9.box kr9, below_stored b9 (by omega) _ _⟩
set_option maxRecDepth 8000 in
set_option maxHeartbeats 2000000 in
theorem headBits_2 (R T P Mo Nx Me F : Int) (A : Option Addr) (n c : Nat) (S : List Bool) (B : Option Addr) (m d : Nat) (w : World) (hS : S.length = 24) (hV : Bv w S B m) (hR : 0 ≤ R ∧ R ≤ 4) :
    Calls Tryd.prog 28 #[.agg #[.int .i64 2, .int .i64 R, .int .i64 T, .int .i64 P, .int .i64 Mo, .int .i64 Nx, .int .i64 Me, .int .i64 F, .slice A n c], .agg #[.int .i64 3, .int .i64 0, .int .i64 0, .int .i64 0, .int .i64 8], .agg #[.int .i64 S.length, .slice B m d]] w (ResB w (numBits 1 2 ++ numBits R.toNat 3)) := by
  obtain ⟨kf, kp, ks, kr, bc⟩ := four_boxes w #[.int .i64 2, .int .i64 R, .int .i64 T, .int .i64 P, .int .i64 Mo, .int .i64 Nx, .int .i64 Me, .int .i64 F, .slice A n c] #[.int .i64 3, .int .i64 0, .int .i64 0, .int .i64 0, .int .i64 8] #[.int .i64 S.length, .slice B m d] #[.int .i64 0, .slice none 0 0] 26 51 28 28
  replace hV := hV.on bc
  obtain ⟨Z, hZ⟩ : ∃ Z, Z = numBits 1 2 ++ numBits R.toNat 3 := ⟨_, rfl⟩
  rw [← hZ]
  have HZ := Lib.hid hZ; have HS := Lib.hid hS; clear hZ hS
  have wR : IntKind.u64.wrap R = R := IntWalk.u64_in _ (by omega)
  have nR := nat_of hR.1
  have lR : R.toNat < 2 ^ 3 := by omega
  have NR := Lib.hid nR; clear nR hR
  go_enter Tryd.func28, Tryd.ntmps28
  go_wp2_with fail
  generalize (((w.alloc (.cells #[.int .i64 2, .int .i64 R, .int .i64 T, .int .i64 P, .int .i64 Mo, .int .i64 Nx, .int .i64 Me, .int .i64 F, .slice A n c] 26)).alloc (.cells #[.int .i64 3, .int .i64 0, .int .i64 0, .int .i64 0, .int .i64 8] 51)).alloc (.cells #[.int .i64 S.length, .slice B m d] 28)).alloc (.cells #[.int .i64 0, .slice none 0 0] 28) = w0 at *
  refine (put_list (Bv.nil _) 0 (N := 0) (vi := 1) (Wi := 2) (v := 1) (W := 2) rfl rfl rfl (by decide) (by decide) (by decide)).mono ?_
  rintro e w1 ⟨A1, n1, c1, rfl, v1, hC⟩
  dsimp only at v1 ⊢
  generalize hX1 : ([] ++ numBits 1 2 : List Bool) = X1 at v1 ⊢
  have l1 : X1.length = 2 := by rw [← hX1]; rfl
  have HL1 := Lib.hid l1; have HX1 := Lib.hid hX1; clear l1 hX1
  replace kf := kf.on hC; replace kp := kp.on hC; replace ks := ks.on hC; replace kr := kr.on hC; replace hV := hV.on hC
  replace bc := bc.trans (hC.mono bc.size)
  clear hC
  have z_k7_kf := kf.lt
  have z_k7_kp := kp.lt
  have z_k7_ks := ks.lt
  have z_k7_kr := kr.lt
  have k7 := Blk.new w1 28 #[.int .i64 X1.length, .slice A1 n1 c1]
  have al := Below.al w1 (.cells #[.int .i64 X1.length, .slice A1 n1 c1] 28)
  replace kf := kf.on al; replace kp := kp.on al; replace ks := ks.on al; replace kr := kr.on al; replace hV := hV.on al; replace v1 := v1.on al
  replace bc := bc.trans (al.mono bc.size)
  clear al
  obtain ⟨pkf_0, pkf_1, pkf_2, pkf_3, pkf_4, pkf_5, pkf_6, pkf_7, pkf_8⟩ := kf.nine
  obtain ⟨⟨pkp_0, pkp_1, pkp_2, pkp_3, pkp_4⟩, pkp_0f, pkp_1f, pkp_2f, pkp_3f, pkp_4f⟩ := kp.five
  obtain ⟨pks_0, pks_1, pks_0f, pks_1f⟩ := ks.two
  obtain ⟨pkr_0, pkr_1, pkr_0f, pkr_1f⟩ := kr.two
  obtain ⟨pk7_0, pk7_1, pk7_0f, pk7_1f⟩ := k7.two
  go_wp2_with fail
  clear pkf_0 pkf_1 pkf_2 pkf_3 pkf_4 pkf_5 pkf_6 pkf_7 pkf_8 pkp_0 pkp_1 pkp_2 pkp_3 pkp_4 pkp_0f pkp_1f pkp_2f pkp_3f pkp_4f pks_0 pks_1 pks_0f pks_1f pkr_0 pkr_1 pkr_0f pkr_1f pk7_0 pk7_1 pk7_0f pk7_1f
  generalize w1.alloc (.cells #[.int .i64 X1.length, .slice A1 n1 c1] 28) = u1 at *
  generalize w1.heap.size = g7 at *
  refine (put_list v1 c1 (Wi := 3) (v := R.toNat) (W := 3) rfl NR.out rfl (by decide) lR (by rw [HL1.out]; decide)).mono ?_
  rintro e w2 ⟨A2, n2, c2, rfl, v2, hC⟩
  dsimp only at v2 ⊢
  generalize hX2 : X1 ++ numBits R.toNat 3 = X2 at v2 ⊢
  have l2 : X2.length = 5 := by rw [← hX2, List.length_append, HL1.out, numBits_length]
  have HL2 := Lib.hid l2; have HX2 := Lib.hid hX2; clear l2 hX2
  replace kf := kf.on hC; replace kp := kp.on hC; replace ks := ks.on hC; replace kr := kr.on hC; replace k7 := k7.on hC; replace hV := hV.on hC; replace v1 := v1.on hC
  replace bc := bc.trans (hC.mono bc.size)
  clear hC
  clear v1
  obtain ⟨o0, o1, o0f, o1f⟩ := k7.two
  replace hV := hV.box k7 (N' := X2.length) (X' := A2) (m' := n2) (c' := c2)
  replace v2 := v2.box k7 (N' := X2.length) (X' := A2) (m' := n2) (c' := c2)
  replace kf := kf.far2 (g' := g7) (by omega) (.int .i64 X2.length) (.slice A2 n2 c2)
  replace kp := kp.far2 (g' := g7) (by omega) (.int .i64 X2.length) (.slice A2 n2 c2)
  replace ks := ks.far2 (g' := g7) (by omega) (.int .i64 X2.length) (.slice A2 n2 c2)
  replace kr := kr.far2 (g' := g7) (by omega) (.int .i64 X2.length) (.slice A2 n2 c2)
  replace k7 := k7.put2 (.int .i64 X2.length) (.slice A2 n2 c2)
  replace bc := below_stored bc (g := g7) (by omega) (.int .i64 X2.length) (.slice A2 n2 c2)
  obtain ⟨pkf_0, pkf_1, pkf_2, pkf_3, pkf_4, pkf_5, pkf_6, pkf_7, pkf_8⟩ := kf.nine
  obtain ⟨⟨pkp_0, pkp_1, pkp_2, pkp_3, pkp_4⟩, pkp_0f, pkp_1f, pkp_2f, pkp_3f, pkp_4f⟩ := kp.five
  obtain ⟨pks_0, pks_1, pks_0f, pks_1f⟩ := ks.two
  obtain ⟨pkr_0, pkr_1, pkr_0f, pkr_1f⟩ := kr.two
  obtain ⟨pk7_0, pk7_1, pk7_0f, pk7_1f⟩ := k7.two
  go_wp2_with fail
  clear o0 o1 o0f o1f
  clear pkf_0 pkf_1 pkf_2 pkf_3 pkf_4 pkf_5 pkf_6 pkf_7 pkf_8 pkp_0 pkp_1 pkp_2 pkp_3 pkp_4 pkp_0f pkp_1f pkp_2f pkp_3f pkp_4f pks_0 pks_1 pks_0f pks_1f pkr_0 pkr_1 pkr_0f pkr_1f pk7_0 pk7_1 pk7_0f pk7_1f
  generalize (w2.setCell ⟨g7, 0, none⟩ (.int .i64 X2.length)).setCell ⟨g7, 1, none⟩ (.slice A2 n2 c2) = u2 at *
  refine (put_list v2 c2 (Wi := 0) (v := 0) (W := 0) rfl rfl rfl (by decide) (by decide) (by rw [HL2.out]; decide)).mono ?_
  rintro e w3 ⟨A3, n3, c3, rfl, v3, hC⟩
  dsimp only at v3 ⊢
  generalize hX3 : X2 ++ numBits 0 0 = X3 at v3 ⊢
  have l3 : X3.length = 5 := by rw [← hX3, List.length_append, HL2.out, numBits_length]
  have HL3 := Lib.hid l3; have HX3 := Lib.hid hX3; clear l3 hX3
  replace kf := kf.on hC; replace kp := kp.on hC; replace ks := ks.on hC; replace kr := kr.on hC; replace k7 := k7.on hC; replace hV := hV.on hC; replace v2 := v2.on hC
  replace bc := bc.trans (hC.mono bc.size)
  clear hC
  clear v2
  obtain ⟨o0, o1, o0f, o1f⟩ := k7.two
  have v9 := (v3.box k7 (N' := X3.length) (X' := A3) (m' := n3) (c' := c3))
  have kr9 := kr.far2 (g' := g7) (by omega) (.int .i64 X3.length) (.slice A3 n3 c3); have kp9 := kp.far2 (g' := g7) (by omega) (.int .i64 X3.length) (.slice A3 n3 c3); have k79 := k7.put2 (.int .i64 X3.length) (.slice A3 n3 c3); have b9 := below_stored bc (g := g7) (by omega) (.int .i64 X3.length) (.slice A3 n3 c3)
  obtain ⟨r0, r1, r0f, r1f⟩ := kr9.two
  obtain ⟨⟨x0, x1, x2, x3, x4⟩, -⟩ := kp9.five
  obtain ⟨y0, y1, y0f, y1f⟩ := k79.two
  go_wp2
  have hz : Z = X3 := by rw [HZ.out, ← HX3.out, ← HX2.out, ← HX1.out]; simp [numBits]
  rw [hz]
  exact bodyPost_ret (v := .agg #[.int .i64 X3.length, .slice A3 n3 c3]) (by simp [results, Tryd.results28, go_sem, r0, r1]) rfl ⟨A3, n3, c3, rfl, v9.box kr9, below_stored b9 (by omega) _ _⟩
end Go.Proofs.YtcfbeelljhjnoaaDoor
