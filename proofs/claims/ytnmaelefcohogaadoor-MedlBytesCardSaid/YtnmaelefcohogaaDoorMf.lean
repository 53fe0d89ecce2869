/-
  The document's own Bytes of layer 7. Condition: a list that can be read. (Printed by tools/gen07mf.py.)
-/
import Derived.Test.YtnmaelefcohogaaDoorMe
namespace Go.Proofs.YtnmaelefcohogaaDoor
open Go.RowKit

theorem cellsB_app (l m : List UInt8) : cellsB l ++ cellsB m = cellsB (l ++ m) := by unfold cellsB; rw [List.map_append]
theorem cellsB_one (l : List UInt8) : ∀ u ∈ cellsB l, u.oneCell' = true := by
  intro u hu
  unfold cellsB at hu
  obtain ⟨x, _, rfl⟩ := List.mem_map.1 hu
  rfl
theorem cellsB_length (l : List UInt8) : (cellsB l).length = l.length := by simp [cellsB]
/-- Behind an append. -/
theorem app_on {W W' w0 : World} {B b : Nat} {t : TypeId} {v : Value} {n : Nat} {xs : List Value} {cs : Array Value} (ho : W.ownsRow B 5 1 v n xs) (hg : W.grownBy W' v.ownBlock) (hB : w0.heap.size ≤ B) (kb : Blk W b t cs) (ht : t ≠ 5) (bc : Below w0.heap.size w0 W) : Blk W' b t cs ∧ Below w0.heap.size w0 W' :=
  ⟨kb.grown hg (own_ne_blk ho kb ht), bc.grown hg bc.size fun k ek => Nat.le_trans hB (ho.lt k ek).1⟩
theorem app_off {V W W' : World} {B n0 : Nat} {v : Value} {n : Nat} {xs : List Value} (ho : W.ownsRow B 5 1 v n xs) (hg : W.grownBy W' v.ownBlock) (hB : n0 ≤ B) (hn : n0 ≤ W.heap.size) (bw : Below n0 V W) : Below n0 V W' :=
  bw.grown hg hn fun k ek => Nat.le_trans hB (ho.lt k ek).1
set_option maxRecDepth 100000 in
set_option maxHeartbeats 8000000 in
theorem rbytes_any (m : ML) (c s : Slc) (w : World) (hM : Med w m c s) : Calls Tryd.prog 6 #[vM m c s] w (BytR w m) := by
  have hck := fun W (h : Below w.heap.size w W) => rmcheck_any m c s W (hM.on h)
  unfold BytR bytesS
  by_cases hok : okM m
  rotate_left
  · rw [if_neg hok]
    have hc0 : ¬ checkM m = 0 := fun h => hok (checkM_ok h)
    have hne := neq_of hc0
    generalize checkM m = er at *
    have HCK := Lib.hid hck; clear hck hM hok hc0
    obtain ⟨N, S, G, W, D, L, cold, ms⟩ := m
    obtain ⟨Ac, nc, cc⟩ := c
    obtain ⟨As, ns, cs⟩ := s
    dsimp only [vM] at *
    obtain ⟨kb, bc⟩ := bx1 w #[.int .i64 N, .int .i64 S, .int .i64 G, .int .i64 W, .int .i64 D, .int .i64 L, .slice Ac nc cc, .slice As ns cs] 25
    go_enter Tryd.func6, Tryd.ntmps6
    go_wp2_with (go_at_call 16; refine (HCK.out _ bc).mono ?_; rintro e w1 ⟨rfl, hC⟩; replace bc := bc.trans (hC.mono bc.size); clear hC)
    go_ret2
    exact ⟨none, 0, rfl, fun h => absurd rfl h, Nat.le_refl _, Nat.zero_le _, bc⟩
  rw [if_pos hok]
  rw [checkM_yes hok] at hck ⊢
  have hle := bodyB_le hok
  have hmd := fun o (ho : o ∈ m.ms) => okM_mode hok ho
  have hmx := maxAir_range m.N m.ms
  obtain ⟨c1, c2, c3, -, c5, c6, c7, c8, c9⟩ := hok
  have hprod : 16 ≤ m.W := by
    have := (mul_small (N := m.N) (D := m.D) (by omega) c1.2 c5.1 c5.2).1
    have e : 16 * m.N * m.D = 16 * (m.N * m.D) := Int.mul_assoc _ _ _
    omega
  have hbb : bytesM m = headB m ++ m.ms.flatMap modeB ++ beB (sumN (headB m ++ m.ms.flatMap modeB)) 3 := rfl
  have hhd : headB m = [] ++ beB 77 1 ++ beB m.N.toNat 1 ++ beB m.ms.length 1 ++ beB m.S.toNat 4 ++ beB m.G.toNat 4 ++ beB m.W.toNat 4 ++ beB m.D.toNat 1 ++ beB m.L.toNat 1 ++ beB (setN m.cold) 1 := rfl
  obtain ⟨R, hR⟩ : ∃ R, R = bytesM m := ⟨_, rfl⟩
  rw [← hR]
  rw [← hR] at hbb
  have hset := fun W (h : Below w.heap.size w W) => rtruths7_any c.A c.n c.c m.cold W hM.cn (by have := hM.cn; omega) ((hM.cb.below h).mono h.size)
  have hsb := hM.sb; have hsn := hM.sn; have hsm := hM.sm
  clear hM hR
  obtain ⟨N, S, G, W, D, L, cold, ms⟩ := m
  obtain ⟨Ac, nc, cc⟩ := c
  obtain ⟨As, ns, cs⟩ := s
  dsimp only [vM] at *
  obtain ⟨N, rfl⟩ := Int.eq_ofNat_of_zero_le (show 0 ≤ N by omega)
  obtain ⟨S, rfl⟩ := Int.eq_ofNat_of_zero_le (show 0 ≤ S by omega)
  obtain ⟨G, rfl⟩ := Int.eq_ofNat_of_zero_le (show 0 ≤ G by omega)
  obtain ⟨W, rfl⟩ := Int.eq_ofNat_of_zero_le (show 0 ≤ W by omega)
  obtain ⟨D, rfl⟩ := Int.eq_ofNat_of_zero_le c5.1
  obtain ⟨L, rfl⟩ := Int.eq_ofNat_of_zero_le c6.1
  simp only [Int.toNat_natCast] at hhd
  have hsn2 : ns = ms.length := hsn
  rw [← hsn2] at hhd
  have hN8 : N ≤ 8 := by omega
  have hns4 : ns ≤ 4 := by omega
  have hS : S ≤ 16777216 := by omega
  have hG : G ≤ 1048576 := by omega
  have hW : W ≤ 1048576 := by omega
  have hD : D ≤ 64 := by omega
  have hL : L ≤ 64 := by omega
  have hnS := fun U => rnum_any S 4 U (by decide) (by omega)
  have hnG := fun U => rnum_any G 4 U (by decide) (by omega)
  have hnW := fun U => rnum_any W 4 U (by decide) (by omega)
  have hcN : cold.length = N := by omega
  have ecN : IntKind.u8.wrap (N : Int) = (N : Int) := IntWalk.u8_in _ (by omega)
  have ecM : IntKind.u8.wrap (ns : Int) = (ns : Int) := IntWalk.u8_in _ (by omega)
  have ecD : IntKind.u8.wrap (D : Int) = (D : Int) := IntWalk.u8_in _ (by omega)
  have ecL : IntKind.u8.wrap (L : Int) = (L : Int) := IntWalk.u8_in _ (by omega)
  have HCK := Lib.hid hck; have HMD := Lib.hid hmd; have HHD := Lib.hid hhd; have HBB := Lib.hid hbb; have HSET := Lib.hid hset; have HSB := Lib.hid hsb; have HSN := Lib.hid hsn2; have HNS := Lib.hid hnS; have HNG := Lib.hid hnG; have HNW := Lib.hid hnW; have HCN := Lib.hid hcN
  clear hck hmd hhd hbb hset hsb hsn hsn2 hnS hnG hnW hcN c1 c2 c3 c5 c6 c7 c8 c9 hmx hprod
  obtain ⟨i0, hi, hz0, hz1, hz2⟩ := info_parts Tryd.infoU8
  obtain ⟨kb, bc⟩ := bx1 w #[.int .i64 (N : Int), .int .i64 (S : Int), .int .i64 (G : Int), .int .i64 (W : Int), .int .i64 (D : Int), .int .i64 (L : Int), .slice Ac nc cc, .slice As ns cs] 25
  go_enter Tryd.func6, Tryd.ntmps6
  go_wp2_with (go_at_call 16; refine (HCK.out _ bc).mono ?_; rintro e w1 ⟨rfl, hC⟩; replace kb := kb.on hC; replace bc := bc.trans (hC.mono bc.size); clear hC HCK; obtain ⟨p0, p1, p2, p3, p4, p5, p6, p7⟩ := kb.eight; have lb := kb.lt)
  have hw1 := bc.size
  obtain ⟨l3, hl3⟩ : ∃ l : List UInt8, l = [UInt8.ofNat 77, UInt8.ofNat N, UInt8.ofNat ns] := ⟨_, rfl⟩
  have hcs : (#[.int .u8 77, .int .u8 (N : Int), .int .u8 (ns : Int)] : Array Value).toList = cellsB l3 := by
    rw [hl3]
    simp [cellsB]
    omega
  have ho := World.ownsRow_lit (base := w1.heap.size) (e := 5) (size := 1) w1 (#[.int .u8 77, .int .u8 (N : Int), .int .u8 (ns : Int)] : Array Value) 3 (Nat.le_refl _) (by unfold maxLen; omega) rfl
  rw [hcs] at ho
  have hC := Below.al w1 (.cells #[.int .u8 77, .int .u8 (N : Int), .int .u8 (ns : Int)] 5)
  replace kb := kb.on hC; replace bc := bc.trans (hC.mono bc.size); clear hC hcs
  generalize w1.alloc (.cells #[.int .u8 77, .int .u8 (N : Int), .int .u8 (ns : Int)] 5) = u1 at *
  have hwB : w.heap.size ≤ w1.heap.size := by omega
  generalize w1.heap.size = B at *
  have hd : Below u1.heap.size u1 u1.drew := (Below.refl _ _).drew
  replace kb := kb.on hd; replace ho := own_on ho hd; replace bc := bc.trans (hd.mono bc.size); clear hd
  clear p0 p1 p2 p3 p4 p5 p6 p7; obtain ⟨p0, p1, p2, p3, p4, p5, p6, p7⟩ := kb.eight
  have HL3 := Lib.hid hl3; clear hl3
  go_region_held3 (fun w' => w'.cell? ⟨w.heap.size, 1, none⟩ = some (.int .i64 (S : Int)) ∧ w'.cell? ⟨w.heap.size, 2, none⟩ = some (.int .i64 (G : Int)) ∧ w'.cell? ⟨w.heap.size, 3, none⟩ = some (.int .i64 (W : Int))) (first | exact ⟨p1, p2, p3⟩) (first
    | (have _ := kGW; refine step_append_lies _ rfl (.tmp 30) (.tmp 33) 26 rfl B 5 i0 (.int .u8 0) 1 1 Tryd.underlying26 hi hz0 hz1 hz2 rfl (by decide) (.slice (some ⟨gGG, 0, none⟩) 11 capGG) 11 (cellsB lb2) (by simp [Act.eval]) ho ⟨GW, 0, none⟩ 4 4 (cellsB (beB W 4)) (by simp [Act.eval]) (by rw [cellsB_length, beB_length]) (World.news_of_block kGW) (cellsB_one _) (by decide) (by unfold maxLen; omega) (by omega) (by have := ho.lt _ rfl; omega) _ rfl ?_; intro gGW capGW w7 hown hgrow hat hlt1; have hown2 : World.ownsRow w7 B 5 1 (.slice (some ⟨gGW, 0, none⟩) 15 capGW) 15 _ := hown; obtain ⟨kb2, bc2⟩ := app_on ho hgrow hwB kb (by decide) bc; clear ho kb bc; have kb := kb2; have bc := bc2; have ho := hown2; rw [cellsB_app] at ho; clear kb2 bc2 hown hown2 hgrow hat hlt1 kGW; obtain ⟨lb3, hlb3⟩ : ∃ x, x = lb2 ++ beB W 4 := ⟨_, rfl⟩; rw [← hlb3] at ho; have HLlb3 := Lib.hid hlb3; clear hlb3; clear p0 p1 p2 p3 p4 p5 p6 p7; obtain ⟨p0, p1, p2, p3, p4, p5, p6, p7⟩ := kb.eight)
    | (have _ := HLlb2; go_at_call 17; refine (HNW.out _).mono ?_; rintro e w6 ⟨GW, rfl, hGW, kGW, hC⟩; dsimp only; replace kb := kb.on hC; replace ho := own_on ho hC; replace bc := bc.trans (hC.mono bc.size); clear hC hGW; clear p0 p1 p2 p3 p4 p5 p6 p7; obtain ⟨p0, p1, p2, p3, p4, p5, p6, p7⟩ := kb.eight)
    | (have _ := kGG; refine step_append_lies _ rfl (.tmp 26) (.tmp 29) 26 rfl B 5 i0 (.int .u8 0) 1 1 Tryd.underlying26 hi hz0 hz1 hz2 rfl (by decide) (.slice (some ⟨gGS, 0, none⟩) 7 capGS) 7 (cellsB lb1) (by simp [Act.eval]) ho ⟨GG, 0, none⟩ 4 4 (cellsB (beB G 4)) (by simp [Act.eval]) (by rw [cellsB_length, beB_length]) (World.news_of_block kGG) (cellsB_one _) (by decide) (by unfold maxLen; omega) (by omega) (by have := ho.lt _ rfl; omega) _ rfl ?_; intro gGG capGG w5 hown hgrow hat hlt1; have hown2 : World.ownsRow w5 B 5 1 (.slice (some ⟨gGG, 0, none⟩) 11 capGG) 11 _ := hown; obtain ⟨kb2, bc2⟩ := app_on ho hgrow hwB kb (by decide) bc; clear ho kb bc; have kb := kb2; have bc := bc2; have ho := hown2; rw [cellsB_app] at ho; clear kb2 bc2 hown hown2 hgrow hat hlt1 kGG; obtain ⟨lb2, hlb2⟩ : ∃ x, x = lb1 ++ beB G 4 := ⟨_, rfl⟩; rw [← hlb2] at ho; have HLlb2 := Lib.hid hlb2; clear hlb2; clear p0 p1 p2 p3 p4 p5 p6 p7; obtain ⟨p0, p1, p2, p3, p4, p5, p6, p7⟩ := kb.eight)
    | (have _ := HLlb1; go_at_call 17; refine (HNG.out _).mono ?_; rintro e w4 ⟨GG, rfl, hGG, kGG, hC⟩; dsimp only; replace kb := kb.on hC; replace ho := own_on ho hC; replace bc := bc.trans (hC.mono bc.size); clear hC hGG; clear p0 p1 p2 p3 p4 p5 p6 p7; obtain ⟨p0, p1, p2, p3, p4, p5, p6, p7⟩ := kb.eight)
    | (have _ := kGS; refine step_append_lies _ rfl (.tmp 22) (.tmp 25) 26 rfl B 5 i0 (.int .u8 0) 1 1 Tryd.underlying26 hi hz0 hz1 hz2 rfl (by decide) (.slice (some ⟨B, 0, none⟩) 3 3) 3 (cellsB l3) (by simp [Act.eval]) ho ⟨GS, 0, none⟩ 4 4 (cellsB (beB S 4)) (by simp [Act.eval]) (by rw [cellsB_length, beB_length]) (World.news_of_block kGS) (cellsB_one _) (by decide) (by unfold maxLen; omega) (by omega) (by have := ho.lt _ rfl; omega) _ rfl ?_; intro gGS capGS w3 hown hgrow hat hlt1; have hown2 : World.ownsRow w3 B 5 1 (.slice (some ⟨gGS, 0, none⟩) 7 capGS) 7 _ := hown; obtain ⟨kb2, bc2⟩ := app_on ho hgrow hwB kb (by decide) bc; clear ho kb bc; have kb := kb2; have bc := bc2; have ho := hown2; rw [cellsB_app] at ho; clear kb2 bc2 hown hown2 hgrow hat hlt1 kGS; obtain ⟨lb1, hlb1⟩ : ∃ x, x = l3 ++ beB S 4 := ⟨_, rfl⟩; rw [← hlb1] at ho; have HLlb1 := Lib.hid hlb1; clear hlb1; clear p0 p1 p2 p3 p4 p5 p6 p7; obtain ⟨p0, p1, p2, p3, p4, p5, p6, p7⟩ := kb.eight)
    | (go_at_call 17; refine (HNS.out _).mono ?_; rintro e w2 ⟨GS, rfl, hGS, kGS, hC⟩; dsimp only; replace kb := kb.on hC; replace ho := own_on ho hC; replace bc := bc.trans (hC.mono bc.size); clear hC hGS; clear p0 p1 p2 p3 p4 p5 p6 p7; obtain ⟨p0, p1, p2, p3, p4, p5, p6, p7⟩ := kb.eight))
  go_wp2_with fail
  have hd : Below w7.heap.size w7 w7.drew := (Below.refl _ _).drew
  replace kb := kb.on hd; replace ho := own_on ho hd; replace bc := bc.trans (hd.mono bc.size); clear hd
  clear p0 p1 p2 p3 p4 p5 p6 p7; obtain ⟨p0, p1, p2, p3, p4, p5, p6, p7⟩ := kb.eight
  have hsl : setN cold < 256 := Nat.lt_of_lt_of_le (setN_lt cold) (Nat.le_trans (Nat.pow_le_pow_right (by decide) (show cold.length ≤ 8 by have := HCN.out; omega)) (by decide))
  obtain ⟨q3, hq3⟩ : ∃ l : List UInt8, l = [UInt8.ofNat D, UInt8.ofNat L, UInt8.ofNat (setN cold)] := ⟨_, rfl⟩
  have hql : q3.length = 3 := by rw [hq3]; rfl
  generalize setN cold = sc at *
  have hcs : (#[.int .u8 (D : Int), .int .u8 (L : Int), .int .u8 (sc : Int)] : Array Value) = (cellsB q3).toArray := by
    rw [hq3]
    simp [cellsB]
    omega
  have kN := Blk.new w7.drew 5 #[.int .u8 (D : Int), .int .u8 (L : Int), .int .u8 (sc : Int)]
  have hC := Below.al w7.drew (.cells #[.int .u8 (D : Int), .int .u8 (L : Int), .int .u8 (sc : Int)] 5)
  rw [show Blk (w7.drew.alloc (.cells #[.int .u8 (D : Int), .int .u8 (L : Int), .int .u8 (sc : Int)] 5)) w7.drew.heap.size 5 #[.int .u8 (D : Int), .int .u8 (L : Int), .int .u8 (sc : Int)] = Blk (w7.drew.alloc (.cells #[.int .u8 (D : Int), .int .u8 (L : Int), .int .u8 (sc : Int)] 5)) w7.drew.heap.size 5 (cellsB q3).toArray from by rw [← hcs]] at kN
  have hB8 : B ≤ w7.heap.size := by
    have h1 := ho.lt _ rfl
    have h2 : w7.drew.heap.size = w7.heap.size := rfl
    omega
  have hz9 : B ≤ (w7.alloc (.cells #[.int .u8 (D : Int), .int .u8 (L : Int), .int .u8 (sc : Int)] 5)).drew.heap.size := by
    show B ≤ (w7.alloc (.cells #[.int .u8 (D : Int), .int .u8 (L : Int), .int .u8 (sc : Int)] 5)).heap.size
    simp
    omega
  have kb9 := kb.on hC; have ho9 := own_on ho hC; have bc9 := bc.trans (hC.mono bc.size); clear hC hcs
  have HQ3 := Lib.hid hq3; clear hq3
  obtain ⟨r0, r1, r2, r3, r4, r5, r6, r7⟩ := kb9.eight
  go_region_held3 (fun w' => w'.cell? ⟨w.heap.size, 4, none⟩ = some (.int .i64 (D : Int)) ∧ w'.cell? ⟨w.heap.size, 5, none⟩ = some (.int .i64 (L : Int)) ∧ w'.cell? ⟨w.heap.size, 6, none⟩ = some (.slice Ac nc cc)) (first | exact ⟨p4, p5, p6⟩ | exact ⟨r4, r5, r6⟩) (first
    | (go_at_call 18; refine (HSET.out _ bc).mono ?_; rintro e w9 ⟨rfl, rfl⟩; dsimp only)
    | (refine step_append_lies _ rfl (.tmp 35) (.tmp 45) 26 rfl B 5 i0 (.int .u8 0) 1 1 Tryd.underlying26 hi hz0 hz1 hz2 rfl (by decide) (.slice (some ⟨gGW, 0, none⟩) 15 capGW) 15 (cellsB lb3) (by simp [Act.eval]) ho9 ⟨w7.drew.heap.size, 0, none⟩ 3 3 (cellsB q3) (by simp [Act.eval]) (by rw [cellsB_length, hql]) (World.news_of_block kN) (cellsB_one _) (by decide) (by unfold maxLen; omega) (by omega) (by have := ho9.lt _ rfl; omega) _ rfl ?_; intro gGX capGX w9 hown hgrow hat hlt1; have hown2 : World.ownsRow w9 B 5 1 (.slice (some ⟨gGX, 0, none⟩) 18 capGX) 18 _ := hown; obtain ⟨kb2, bc2⟩ := app_on ho9 hgrow hwB kb9 (by decide) bc9; clear ho kb bc ho9 kb9 bc9; have kb := kb2; have bc := bc2; have ho := hown2; rw [cellsB_app] at ho; clear kb2 bc2 hown hown2 hgrow hat hlt1 kN; obtain ⟨lb4, hlb4⟩ : ∃ x, x = lb3 ++ q3 := ⟨_, rfl⟩; rw [← hlb4] at ho; have HLlb4 := Lib.hid hlb4; clear hlb4; clear p0 p1 p2 p3 p4 p5 p6 p7 r0 r1 r2 r3 r4 r5 r6 r7; obtain ⟨p0, p1, p2, p3, p4, p5, p6, p7⟩ := kb.eight))
  go_wp2_with fail
  have hhead : lb4 = headB ⟨N, S, G, W, D, L, cold, ms⟩ := by
    rw [HHD.out, HLlb4.out, HLlb3.out, HLlb2.out, HLlb1.out, HL3.out, HQ3.out]
    simp [beB]
  have hl4 : lb4.length = 18 := by rw [hhead, headB_length]
  have HHE := Lib.hid hhead; clear hhead HHD HSET HL3 HQ3 HLlb1 HLlb2 HLlb3 HLlb4 HNS HNG HNW p0 p1 p2 p3 p4 p5 p6 p7
  go_loopw [5, 6] (fun x i wr => ∃ (k : Nat) (A : Option Addr) (c : Nat) (l : List UInt8), k ≤ ns ∧ i = .int .i64 k ∧ x = .slice A l.length c ∧ l = lb4 ++ (ms.take k).flatMap modeB ∧ l.length ≤ 18 + 10 * k ∧ wr.ownsRow B 5 1 (.slice A l.length c) l.length (cellsB l) ∧ Blk wr w.heap.size 25 #[.int .i64 (N : Int), .int .i64 (S : Int), .int .i64 (G : Int), .int .i64 (W : Int), .int .i64 (D : Int), .int .i64 (L : Int), .slice Ac nc cc, .slice As ns cs] ∧ Below w.heap.size w wr ∧ B ≤ wr.heap.size) (fun _ i _ => ns - (intOf i).toNat)
  case atStart => exact ⟨0, some ⟨gGX, 0, none⟩, capGX, lb4, by omega, rfl, by rw [hl4], by simp, by omega, by rw [hl4]; exact ho, kb, bc, by have := ho.lt _ rfl; omega⟩
  case round =>
    clear ho kb bc hl4
    obtain ⟨k, A, c, l, hk, rfl, rfl, hl, hll, ho, kb, bc, hBr⟩ := hrel
    obtain ⟨wo, hwo⟩ : ∃ x, x = wr := ⟨_, rfl⟩
    subst hwo
    have HL := Lib.hid hl; clear hl
    obtain ⟨p0, p1, p2, p3, p4, p5, p6, p7⟩ := kb.eight; have lb := kb.lt
    by_cases hlt : k < ns
    · have hkm : k < ms.length := by have := HSN.out; omega
      obtain ⟨o, hom⟩ : ∃ o, ms[k]? = some o := ⟨ms[k], List.getElem?_eq_getElem hkm⟩
      obtain ⟨bb, off, rfl, hbb, v, hc0, hc1, hc2, hv⟩ := (HSB.out.below bc).at_ hom
      obtain ⟨q1, q2, q3', q4, -⟩ := HMD.out o (List.mem_of_getElem? hom)
      have hsnoc := modes_snoc ms k o hom
      have hmo : modeB o = dataB o.d ++ beB (setN o.x) 1 ++ beB (setN o.n) 1 := rfl
      have hww := bc.size
      have hs1 := fun U (h : Below w.heap.size wo U) => rtruths7_any v.x.A v.x.n v.x.c o.x U hv.xn (by have := hv.xn; omega) ((hv.x.below h).mono (by have := h.size; omega))
      have hs2 := fun U (h : Below w.heap.size wo U) => rtruths7_any v.n.A v.n.n v.n.c o.n U hv.nn (by have := hv.nn; have := HSN.out; omega) ((hv.n.below h).mono (by have := h.size; omega))
      have hda := fun U (h : Below w.heap.size wo U) => hv.d.below h
      have hdn := hv.dn
      have hnd8 : v.d.n ≤ 8 := by omega
      obtain ⟨XN, hXN⟩ : ∃ x, x = setN o.x := ⟨_, rfl⟩
      obtain ⟨NN, hNN⟩ : ∃ x, x = setN o.n := ⟨_, rfl⟩
      have hXl : XN < 256 := by rw [hXN]; exact Nat.lt_of_lt_of_le (setN_lt o.x) (Nat.le_trans (Nat.pow_le_pow_right (by decide) (show o.x.length ≤ 8 by omega)) (by decide))
      have hNl : NN < 256 := by rw [hNN]; exact Nat.lt_of_lt_of_le (setN_lt o.n) (Nat.le_trans (Nat.pow_le_pow_right (by decide) (show o.n.length ≤ 8 by have := HSN.out; omega)) (by decide))
      rw [← hXN] at hs1 hmo
      rw [← hNN] at hs2 hmo
      have HSNO := Lib.hid hsnoc; have HMO := Lib.hid hmo; have HS1 := Lib.hid hs1; have HS2 := Lib.hid hs2; have HDA := Lib.hid hda; have HDN := Lib.hid hdn; have HQ := Lib.hid q4
      have hbs : bb < wo.heap.size := by omega
      clear hsnoc hmo hs1 hs2 hda hdn hv q1 q2 q3' q4 hom hkm hXN hNN
      obtain ⟨⟨Ad, nd, cd⟩, ⟨Ax, nx, cx⟩, ⟨An, nn, cn⟩⟩ := v
      dsimp only at *
      have ko := Blk.new wo 46 #[.slice Ad nd cd, .slice Ax nx cx, .slice An nn cn]
      have hC := Below.al wo (.cells #[.slice Ad nd cd, .slice Ax nx cx, .slice An nn cn] 46)
      replace kb := kb.on hC; replace ho := own_on ho hC; have hU := hC.mono bc.size; clear hC
      replace bc := bc.trans hU
      replace HDA := Lib.hid HDA.out; replace HS1 := Lib.hid HS1.out; replace HS2 := Lib.hid HS2.out
      go_wp2_with fail
      generalize wo.alloc (.cells #[.slice Ad nd cd, .slice Ax nx cx, .slice An nn cn] 46) = u at *
      go_loopw [5, 8] (fun x i wr2 => ∃ (k2 : Nat) (A2 : Option Addr) (c2 : Nat) (l2 : List UInt8), k2 ≤ nd ∧ i = .int .i64 k2 ∧ x = .slice A2 l2.length c2 ∧ l2 = l ++ dataB (o.d.take k2) ∧ l2.length ≤ 18 + 10 * k + k2 ∧ wr2.ownsRow B 5 1 (.slice A2 l2.length c2) l2.length (cellsB l2) ∧ Blk wr2 wo.heap.size 46 #[.slice Ad nd cd, .slice Ax nx cx, .slice An nn cn] ∧ Blk wr2 w.heap.size 25 #[.int .i64 (N : Int), .int .i64 (S : Int), .int .i64 (G : Int), .int .i64 (W : Int), .int .i64 (D : Int), .int .i64 (L : Int), .slice Ac nc cc, .slice (some ⟨bb, off, none⟩) ns cs] ∧ Below w.heap.size w wr2 ∧ Below w.heap.size wo wr2) (fun _ i _ => nd - (intOf i).toNat)
      case atStart => exact ⟨0, A, c, l, by omega, rfl, rfl, by simp [dataB], by omega, ho, ko, kb, bc, hU⟩
      case round =>
        clear ho ko kb bc hU p0 p1 p2 p3 p4 p5 p6 p7 lb
        obtain ⟨k2, A2, c2, l2, hk2, rfl, rfl, hl2, hll2, ho, ko, kb, bc, hU⟩ := hrel
        have HL2 := Lib.hid hl2; clear hl2
        obtain ⟨m0, m1, m2, -⟩ := ko.three
        have lo := ko.lt
        have hB2 : B ≤ wr.heap.size := by have := hU.size; omega
        by_cases hlt2 : k2 < nd
        · have hkd : k2 < o.d.length := by have := HDN.out; omega
          obtain ⟨b2, off2, rfl, hb2, hcell⟩ := (HDA.out _ hU).at_ hkd
          obtain ⟨v0, hv0⟩ := Int.eq_ofNat_of_zero_le (data_at HQ.out k2 hkd).1
          have hv8 := (data_at HQ.out k2 hkd).2
          have hsn := dataB_snoc o.d k2 hkd
          rw [hv0, Int.toNat_natCast] at hsn
          rw [hv0] at hcell hv8
          have HSN2 := Lib.hid hsn; clear hsn hkd hv0
          have ew : IntKind.u8.wrap (v0 : Int) = (v0 : Int) := IntWalk.u8_in _ (by omega)
          have e1 : cellsB l2 ++ [.int .u8 (v0 : Int)] = cellsB (l2 ++ beB v0 1) := by
            rw [← cellsB_app]
            congr 1
            simp [cellsB, beB]
            omega
          have hC := Below.al wr (.cells #[.int .u8 (v0 : Int)] 5)
          have kb3 := kb.on hC; have ho3 := own_on ho hC; have ko3 := ko.on hC; have bc3 := bc.trans (hC.mono bc.size); have hU3 := hU.trans (hC.mono bc.size); clear hC
          have hs3 := bc3.size
          go_wp2_with (at_builtin; refine wpList_append_own _ rfl _ _ 26 rfl B 5 i0 (.int .u8 0) 1 1 Tryd.underlying26 hi hz0 hz1 hz2 rfl (by decide) (.slice A2 l2.length c2) l2.length _ rfl ho3 ⟨wr.heap.size, 0, none⟩ 1 1 [.int .u8 (v0 : Int)] rfl rfl (cell_one_new _ _ _) (by simp [Value.oneCell']) (by unfold maxLen; omega) (by omega) (by simp; omega) ?_; intro v' w2 hown hgrow _; obtain ⟨A4, c4, rfl⟩ := own_slice hown; obtain ⟨kb4, bc4⟩ := app_on ho3 hgrow hwB kb3 (by decide) bc3; have ko4 := ko3.grown hgrow (own_ne_blk ho3 ko3 (by decide)); have hU4 := app_off ho3 hgrow hwB hs3 hU3; rw [e1] at hown)
          go_roundw
          case rel =>
            refine ⟨_, _, _, _, _, _, _, _, _, _, _, _, _, _, _, _, _, _, ?_, rfl⟩
            exact ⟨k2 + 1, A4, c4, l2 ++ beB v0 1, by omega, by go_num, by rw [List.length_append, beB_length], by rw [HSN2.out, ← List.append_assoc, ← HL2.out], by rw [List.length_append, beB_length]; omega, by rw [List.length_append, beB_length]; exact hown, ko4, kb4, bc4, hU4⟩
          case measure => simp [intOf]; omega
        · obtain rfl : k2 = nd := by omega
          have hl2e : l2 = l ++ dataB o.d := by rw [HL2.out, List.take_of_length_le (l := o.d) (by have := HDN.out; omega)]
          replace HL2 := Lib.hid hl2e; clear hl2e
          go_wp2_with fail
          have hd : Below wr.heap.size wr wr.drew := (Below.refl _ _).drew
          replace kb := kb.on hd; replace ho := own_on ho hd; replace ko := ko.on hd; replace hU := hU.trans (hd.mono bc.size); replace bc := bc.trans (hd.mono bc.size); clear hd
          clear m0 m1 m2 lo
          obtain ⟨m0, m1, m2, -⟩ := ko.three
          obtain ⟨q2, hq2⟩ : ∃ l : List UInt8, l = [UInt8.ofNat XN, UInt8.ofNat NN] := ⟨_, rfl⟩
          have hql : q2.length = 2 := by rw [hq2]; rfl
          have hqb : q2 = beB XN 1 ++ beB NN 1 := by rw [hq2]; simp [beB]
          have hcs : (#[.int .u8 (XN : Int), .int .u8 (NN : Int)] : Array Value) = (cellsB q2).toArray := by
            rw [hq2]
            simp [cellsB]
            omega
          have kN := Blk.new wr.drew 5 #[.int .u8 (XN : Int), .int .u8 (NN : Int)]
          have hC := Below.al wr.drew (.cells #[.int .u8 (XN : Int), .int .u8 (NN : Int)] 5)
          rw [show Blk (wr.drew.alloc (.cells #[.int .u8 (XN : Int), .int .u8 (NN : Int)] 5)) wr.drew.heap.size 5 #[.int .u8 (XN : Int), .int .u8 (NN : Int)] = Blk (wr.drew.alloc (.cells #[.int .u8 (XN : Int), .int .u8 (NN : Int)] 5)) wr.drew.heap.size 5 (cellsB q2).toArray from by rw [← hcs]] at kN
          have kb9 := kb.on hC; have ho9 := own_on ho hC; have ko9 := ko.on hC; have bc9 := bc.trans (hC.mono bc.size); have hU9 := hU.trans (hC.mono bc.size); have hs9 := bc9.size; clear hC hcs
          have hz9 : B ≤ (wr.alloc (.cells #[.int .u8 (XN : Int), .int .u8 (NN : Int)] 5)).drew.heap.size := by
            show B ≤ (wr.alloc (.cells #[.int .u8 (XN : Int), .int .u8 (NN : Int)] 5)).heap.size
            simp
            omega
          have HQ2 := Lib.hid hqb; clear hq2 hqb
          obtain ⟨r0, r1, r2, -⟩ := ko9.three
          go_region_held3 (fun w' => w'.cell? ⟨wo.heap.size, 1, none⟩ = some (.slice Ax nx cx) ∧ w'.cell? ⟨wo.heap.size, 2, none⟩ = some (.slice An nn cn)) (first | exact ⟨m1, m2⟩ | exact ⟨r1, r2⟩) (first
            | (go_at_call 18; with_reducible refine (HS1.out _ hU).mono ?_; rintro e w11 ⟨rfl, rfl⟩; dsimp only)
            | (go_at_call 18; with_reducible refine (HS2.out _ hU).mono ?_; rintro e w11 ⟨rfl, rfl⟩; dsimp only)
            | (refine step_append_lies _ rfl (.tmp 75) (.tmp 82) 26 rfl B 5 i0 (.int .u8 0) 1 1 Tryd.underlying26 hi hz0 hz1 hz2 rfl (by decide) (.slice A2 l2.length c2) l2.length (cellsB l2) (by simp [Act.eval]) ho9 ⟨wr.drew.heap.size, 0, none⟩ 2 2 (cellsB q2) (by simp [Act.eval]) (by rw [cellsB_length, hql]) (World.news_of_block kN) (cellsB_one _) (by decide) (by unfold maxLen; omega) (by omega) (by omega) _ rfl ?_; intro gGY capGY w9 hown hgrow hat hlt1; obtain ⟨kb4, bc4⟩ := app_on ho9 hgrow hwB kb9 (by decide) bc9; have hU4 := app_off ho9 hgrow hwB hs9 hU9; rw [cellsB_app] at hown; have ko4 := ko9.grown hgrow (own_ne_blk ho9 ko9 (by decide)); clear ho kb bc ho9 kb9 bc9 kN ko9 hU9 m0 m1 m2 r0 r1 r2; obtain ⟨m0, m1, m2, -⟩ := ko4.three))
          have hBe : B ≤ w9.heap.size := by have := hU4.size; omega
          go_wp2_with fail
          go_roundw
          case rel =>
            refine ⟨_, _, _, _, _, _, _, _, _, _, _, _, _, _, _, _, _, _, _, _, _, _, _, _, _, _, _, _, _, _, _, _, _, _, _, _, _, _, _, _, _, ?_, rfl⟩
            exact ⟨k + 1, some ⟨gGY, 0, none⟩, capGY, l2 ++ q2, by omega, by go_num, by rw [List.length_append, hql], by rw [HSNO.out, HMO.out, HL2.out, HL.out, HQ2.out]; simp only [List.append_assoc], by rw [List.length_append, hql]; omega, by rw [List.length_append, hql]; exact hown, kb4, bc4, hBe⟩
          case measure => simp [intOf]; omega
    · obtain rfl : k = ns := by omega
      have hbody : l = headB ⟨N, S, G, W, D, L, cold, ms⟩ ++ ms.flatMap modeB := by rw [HL.out, HHE.out, List.take_of_length_le (by have := HSN.out; omega)]
      have hR : R = l ++ beB (sumN l) 3 := by rw [HBB.out, ← hbody]
      have hRl : R.length = l.length + 3 := by rw [hR, List.length_append, beB_length]
      obtain ⟨A5, c5, hv, hby⟩ := byt_of_own ho
      obtain ⟨rfl, rfl⟩ : A = A5 ∧ c = c5 := by injection hv with e1 _ e3; exact ⟨e1, e3⟩
      clear hv
      have hsu := fun U (h : Below wo.heap.size wo U) => rsum7_any A c l U (by omega) ((hby.below h).mono h.size)
      generalize sumN l = sl at *
      obtain ⟨ln, hln⟩ : ∃ x, x = l.length := ⟨_, rfl⟩
      have hl58 : ln ≤ 58 := by omega
      rw [← hln] at hRl ho hsu ⊢
      have HSU := Lib.hid hsu; have HR := Lib.hid hR; have HRL := Lib.hid hRl
      have bw := Below.refl wo.heap.size wo
      clear hsu hbody hR hRl hby hle hll hln HL HHE HBB HMD HSB HCN p0 p1 p2 p3 p4 p5 p6
      go_wp2_with (first
        | (have _ := kGm; at_builtin; refine wpList_append_own _ rfl _ _ 26 rfl B 5 i0 (.int .u8 0) 1 1 Tryd.underlying26 hi hz0 hz1 hz2 rfl (by decide) (.slice A ln c) ln _ rfl ho ⟨Gm, 0, none⟩ 3 3 (cellsB (beB sl 3)) rfl (by rw [cellsB_length, beB_length]) (World.news_of_block kGm) (cellsB_one _) (by unfold maxLen; omega) (by omega) (by omega) ?_; intro v' w13 hown hgrow _; obtain ⟨A6, c6, rfl⟩ := own_slice hown; have bc2 := app_off ho hgrow hwB bc.size bc; rw [cellsB_app, ← HR.out] at hown)
        | (go_at_call 19; refine (HSU.out _ bw).mono ?_; rintro e w12 ⟨Gm, rfl, hGm, kGm, hC⟩; replace ho := own_on ho hC; have hsz := hC.size; replace bc := bc.trans (hC.mono bc.size)))
      obtain ⟨A7, c7, hv, hby7⟩ := byt_of_own hown
      have hcp := own_caps hown
      obtain ⟨rfl, rfl⟩ : A6 = A7 ∧ c6 = c7 := by injection hv with e1 _ e3; exact ⟨e1, e3⟩
      clear hv
      rw [← HRL.out] at hcp
      go_ret2
      exact ⟨A6, c6, by rw [HRL.out]; rfl, hby7, hcp.1, hcp.2, bc2⟩
end Go.Proofs.YtnmaelefcohogaaDoor
