/-
  A list's bytes without their sum, as package medl tells them. Condition: a list that may be, which can be read. (Printed by tools/gen07m5.py.)
-/
import Derived.Test.YtnmaelefcohogaaDoorM4
namespace Go.Proofs.YtnmaelefcohogaaDoor
open Go.RowKit

def headB (m : ML) : List UInt8 := [] ++ beB 77 1 ++ beB m.N.toNat 1 ++ beB m.ms.length 1 ++ beB m.S.toNat 4 ++ beB m.G.toNat 4 ++ beB m.W.toNat 4 ++ beB m.D.toNat 1 ++ beB m.L.toNat 1 ++ beB (setN m.cold) 1
def dataB (d : List Int) : List UInt8 := d.flatMap fun v => beB v.toNat 1
def modeB (o : Md) : List UInt8 := dataB o.d ++ beB (setN o.x) 1 ++ beB (setN o.n) 1
/-- A list's bytes without their sum. -/
def bodyB (m : ML) : List UInt8 := headB m ++ m.ms.flatMap modeB
theorem dataB_length (d : List Int) : (dataB d).length = d.length := by
  induction d with
  | nil => rfl
  | cons v d ih =>
    have e : dataB (v :: d) = beB v.toNat 1 ++ dataB d := rfl
    rw [e, List.length_append, beB_length, ih, List.length_cons, Nat.add_comm]
theorem modeB_length (o : Md) : (modeB o).length = o.d.length + 2 := by unfold modeB; simp only [List.length_append, dataB_length, beB_length]
theorem headB_length (m : ML) : (headB m).length = 18 := by unfold headB; simp only [List.length_append, beB_length, List.length_nil]
theorem dataB_snoc (d : List Int) (k : Nat) (h : k < d.length) : dataB (d.take (k + 1)) = dataB (d.take k) ++ beB (d[k]?.getD 0).toNat 1 := by
  rw [List.take_add_one, List.getElem?_eq_getElem h]
  unfold dataB
  rw [List.flatMap_append]
  simp
theorem modes_snoc (ms : List Md) (k : Nat) (o : Md) (h : ms[k]? = some o) : (ms.take (k + 1)).flatMap modeB = (ms.take k).flatMap modeB ++ modeB o := by
  rw [md_at ms k o h, List.flatMap_append]; simp
theorem wputI (B g : Nat) (n wd : Int) (k width : Nat) (l : List UInt8) (w : World) (h1 : n = (k : Int)) (h2 : wd = (width : Int)) (hgB : g < B) (hB : B ≤ w.heap.size) (hwd : width ≤ 4) (hl : l.length ≤ 60000) (hW : Wr B g l w) :
    Calls Tryd.prog 14 #[.pointer (some ⟨g, 0, none⟩), .int .i64 n, .int .i64 wd] w fun e w' => e = .returned (.tuple #[]) ∧ Wr B g (l ++ beB k width) w' ∧ Kp g w w' ∧ B ≤ w'.heap.size := by
  subst h1; subst h2; exact wput_any B g k width l w hgB hB hwd hl hW
/-- A list's slices lie below g. -/
structure MedB (g : Nat) (W : World) (m : ML) (c s : Slc) : Prop where
  cb : Bools g W c.A m.cold
  cn : c.n = m.cold.length
  cm : c.n ≤ maxLen
  sb : Mds g W s.A m.ms
  sn : s.n = m.ms.length
  sm : s.n ≤ maxLen
theorem MedB.on {g : Nat} {W W' : World} {m : ML} {c s : Slc} (h : MedB g W m c s) (k : Kp g W W') : MedB g W' m c s := ⟨h.cb.below k.1, h.cn, h.cm, h.sb.below k.1, h.sn, h.sm⟩
theorem kp_al {B g : Nat} {l : List UInt8} {W : World} (cs : Array Value) (t : TypeId) (h : Wr B g l W) (hg : g ≤ W.heap.size) : Wr B g l (W.alloc (.cells cs t)) ∧ Kp g W (W.alloc (.cells cs t)) := by
  obtain ⟨A, c, hb, ho⟩ := h
  exact ⟨⟨A, c, hb.alloc _, ho.alloc _⟩, (Below.refl _ _).alloc hg _, fun _ _ _ k _ _ => k.alloc _⟩
set_option maxRecDepth 100000 in
set_option maxHeartbeats 8000000 in
theorem tell_any (B g : Nat) (m : ML) (c s : Slc) (w : World) (hok : okM m) (hM : MedB g w m c s) (hgB : g < B) (hB : B ≤ w.heap.size) (hW : Wr B g [] w) :
    Calls Tryd.prog 13 #[vM m c s, .func (.func 14) #[.pointer (some ⟨g, 0, none⟩)] #[]] w fun e w' => e = .returned (.tuple #[]) ∧ Wr B g (bodyB m) w' ∧ Kp g w w' ∧ B ≤ w'.heap.size := by
  have hmd := fun o (ho : o ∈ m.ms) => okM_mode hok ho
  obtain ⟨c1, c2, c3, -, c5, c6, c7, c8, c9⟩ := hok
  have hmx := maxAir_range m.N m.ms
  have hprod : 16 ≤ m.W := by
    have := (mul_small (N := m.N) (D := m.D) (by omega) c1.2 c5.1 c5.2).1
    have e : 16 * m.N * m.D = 16 * (m.N * m.D) := Int.mul_assoc _ _ _
    omega
  have HB := Lib.hid (show bodyB m = headB m ++ m.ms.flatMap modeB from rfl)
  have hhd : headB m = [] ++ beB 77 1 ++ beB m.N.toNat 1 ++ beB m.ms.length 1 ++ beB m.S.toNat 4 ++ beB m.G.toNat 4 ++ beB m.W.toNat 4 ++ beB m.D.toNat 1 ++ beB m.L.toNat 1 ++ beB (setN m.cold) 1 := rfl
  obtain ⟨b, hb⟩ : ∃ b, b = bodyB m := ⟨_, rfl⟩
  rw [← hb]
  have hset := fun W (h : Kp g w W) => setOf_any c.A c.n c.c m.cold W hM.cn (by have := hM.cn; omega) ((hM.cb.below h.1).mono (by have := h.1.size; omega))
  have hsb := hM.sb; have hsn := hM.sn; have hsm := hM.sm
  clear hM
  obtain ⟨N, S, G, W, D, L, cold, ms⟩ := m
  obtain ⟨Ac, nc, cc⟩ := c
  obtain ⟨As, ns, cs⟩ := s
  dsimp only [vM] at *
  obtain ⟨N, rfl⟩ := Int.eq_ofNat_of_zero_le (show 0 ≤ N by omega)
  obtain ⟨S, rfl⟩ := Int.eq_ofNat_of_zero_le (show 0 ≤ S by omega)
  obtain ⟨G, rfl⟩ := Int.eq_ofNat_of_zero_le (show 0 ≤ G by omega)
  obtain ⟨W, rfl⟩ := Int.eq_ofNat_of_zero_le (show 0 ≤ W by omega)
  obtain ⟨D, rfl⟩ := Int.eq_ofNat_of_zero_le c5.1
  obtain ⟨L, rfl⟩ := Int.eq_ofNat_of_zero_le c6.1
  simp only [Int.toNat_natCast] at hhd
  rw [← hsn] at hhd
  have hN8 : N ≤ 8 := by omega
  have hsn4 : ns ≤ 4 := by omega
  have HMD := Lib.hid hmd; have HHD := Lib.hid hhd; have HSET := Lib.hid hset; have HSB := Lib.hid hsb; have HSN := Lib.hid hsn; have HBB := Lib.hid hb; have HN := Lib.hid (show cold.length = N by omega)
  clear hmd hhd hset hsb hsn hb c1 c2 c3 c5 c6 c7 c8 c9 hmx hprod
  have kb := Blk.new w 25 #[.int .i64 (N : Int), .int .i64 (S : Int), .int .i64 (G : Int), .int .i64 (W : Int), .int .i64 (D : Int), .int .i64 (L : Int), .slice Ac nc cc, .slice As ns cs]
  obtain ⟨hW0, bK⟩ := kp_al #[.int .i64 (N : Int), .int .i64 (S : Int), .int .i64 (G : Int), .int .i64 (W : Int), .int .i64 (D : Int), .int .i64 (L : Int), .slice Ac nc cc, .slice As ns cs] 25 hW (by omega)
  have hB0 : B ≤ (w.alloc (.cells #[.int .i64 (N : Int), .int .i64 (S : Int), .int .i64 (G : Int), .int .i64 (W : Int), .int .i64 (D : Int), .int .i64 (L : Int), .slice Ac nc cc, .slice As ns cs] 25)).heap.size := by simp; omega
  obtain ⟨p0, p1, p2, p3, p4, p5, p6, p7⟩ := kb.eight
  have lb := kb.lt
  clear hW hB
  go_enter Tryd.func13, Tryd.ntmps13
  go_wp2_with (first
    | (go_at_call 36; refine (HSET.out _ bK).mono ?_; rintro e w20 ⟨rfl, rfl⟩)
    | (go_at_call 14; have _t := hW8; refine (wputI B g _ _ (setN cold) 1 l8 _ rfl rfl hgB hB8 (by decide) (by omega) hW8).mono ?_; rintro e w9 ⟨rfl, hW9, hK, hB9⟩; replace kb := hK.2 _ _ _ kb (by decide) (by decide); replace bK := bK.trans hK; clear hK hB8 hW8 _t; obtain ⟨l9, hl9⟩ : ∃ x, x = l8 ++ beB (setN cold) 1 := ⟨_, rfl⟩; rw [← hl9] at hW9; have n9 : l9.length = 18 := (by rw [hl9]; simp only [List.length_append, beB_length]; first | done | omega); have HL9 := Lib.hid hl9; clear hl9 p0 p1 p2 p3 p4 p5 p6 p7 lb; obtain ⟨p0, p1, p2, p3, p4, p5, p6, p7⟩ := kb.eight; have lb := kb.lt)
    | (go_at_call 14; have _t := hW7; refine (wputI B g _ _ L 1 l7 _ rfl rfl hgB hB7 (by decide) (by omega) hW7).mono ?_; rintro e w8 ⟨rfl, hW8, hK, hB8⟩; replace kb := hK.2 _ _ _ kb (by decide) (by decide); replace bK := bK.trans hK; clear hK hB7 hW7 _t; obtain ⟨l8, hl8⟩ : ∃ x, x = l7 ++ beB L 1 := ⟨_, rfl⟩; rw [← hl8] at hW8; have n8 : l8.length = 17 := (by rw [hl8]; simp only [List.length_append, beB_length]; first | done | omega); have HL8 := Lib.hid hl8; clear hl8 p0 p1 p2 p3 p4 p5 p6 p7 lb; obtain ⟨p0, p1, p2, p3, p4, p5, p6, p7⟩ := kb.eight; have lb := kb.lt)
    | (go_at_call 14; have _t := hW6; refine (wputI B g _ _ D 1 l6 _ rfl rfl hgB hB6 (by decide) (by omega) hW6).mono ?_; rintro e w7 ⟨rfl, hW7, hK, hB7⟩; replace kb := hK.2 _ _ _ kb (by decide) (by decide); replace bK := bK.trans hK; clear hK hB6 hW6 _t; obtain ⟨l7, hl7⟩ : ∃ x, x = l6 ++ beB D 1 := ⟨_, rfl⟩; rw [← hl7] at hW7; have n7 : l7.length = 16 := (by rw [hl7]; simp only [List.length_append, beB_length]; first | done | omega); have HL7 := Lib.hid hl7; clear hl7 p0 p1 p2 p3 p4 p5 p6 p7 lb; obtain ⟨p0, p1, p2, p3, p4, p5, p6, p7⟩ := kb.eight; have lb := kb.lt)
    | (go_at_call 14; have _t := hW5; refine (wputI B g _ _ W 4 l5 _ rfl rfl hgB hB5 (by decide) (by omega) hW5).mono ?_; rintro e w6 ⟨rfl, hW6, hK, hB6⟩; replace kb := hK.2 _ _ _ kb (by decide) (by decide); replace bK := bK.trans hK; clear hK hB5 hW5 _t; obtain ⟨l6, hl6⟩ : ∃ x, x = l5 ++ beB W 4 := ⟨_, rfl⟩; rw [← hl6] at hW6; have n6 : l6.length = 15 := (by rw [hl6]; simp only [List.length_append, beB_length]; first | done | omega); have HL6 := Lib.hid hl6; clear hl6 p0 p1 p2 p3 p4 p5 p6 p7 lb; obtain ⟨p0, p1, p2, p3, p4, p5, p6, p7⟩ := kb.eight; have lb := kb.lt)
    | (go_at_call 14; have _t := hW4; refine (wputI B g _ _ G 4 l4 _ rfl rfl hgB hB4 (by decide) (by omega) hW4).mono ?_; rintro e w5 ⟨rfl, hW5, hK, hB5⟩; replace kb := hK.2 _ _ _ kb (by decide) (by decide); replace bK := bK.trans hK; clear hK hB4 hW4 _t; obtain ⟨l5, hl5⟩ : ∃ x, x = l4 ++ beB G 4 := ⟨_, rfl⟩; rw [← hl5] at hW5; have n5 : l5.length = 11 := (by rw [hl5]; simp only [List.length_append, beB_length]; first | done | omega); have HL5 := Lib.hid hl5; clear hl5 p0 p1 p2 p3 p4 p5 p6 p7 lb; obtain ⟨p0, p1, p2, p3, p4, p5, p6, p7⟩ := kb.eight; have lb := kb.lt)
    | (go_at_call 14; have _t := hW3; refine (wputI B g _ _ S 4 l3 _ rfl rfl hgB hB3 (by decide) (by omega) hW3).mono ?_; rintro e w4 ⟨rfl, hW4, hK, hB4⟩; replace kb := hK.2 _ _ _ kb (by decide) (by decide); replace bK := bK.trans hK; clear hK hB3 hW3 _t; obtain ⟨l4, hl4⟩ : ∃ x, x = l3 ++ beB S 4 := ⟨_, rfl⟩; rw [← hl4] at hW4; have n4 : l4.length = 7 := (by rw [hl4]; simp only [List.length_append, beB_length]; first | done | omega); have HL4 := Lib.hid hl4; clear hl4 p0 p1 p2 p3 p4 p5 p6 p7 lb; obtain ⟨p0, p1, p2, p3, p4, p5, p6, p7⟩ := kb.eight; have lb := kb.lt)
    | (go_at_call 14; have _t := hW2; refine (wputI B g _ _ ns 1 l2 _ rfl rfl hgB hB2 (by decide) (by omega) hW2).mono ?_; rintro e w3 ⟨rfl, hW3, hK, hB3⟩; replace kb := hK.2 _ _ _ kb (by decide) (by decide); replace bK := bK.trans hK; clear hK hB2 hW2 _t; obtain ⟨l3, hl3⟩ : ∃ x, x = l2 ++ beB ns 1 := ⟨_, rfl⟩; rw [← hl3] at hW3; have n3 : l3.length = 3 := (by rw [hl3]; simp only [List.length_append, beB_length]; first | done | omega); have HL3 := Lib.hid hl3; clear hl3 p0 p1 p2 p3 p4 p5 p6 p7 lb; obtain ⟨p0, p1, p2, p3, p4, p5, p6, p7⟩ := kb.eight; have lb := kb.lt)
    | (go_at_call 14; have _t := hW1; refine (wputI B g _ _ N 1 l1 _ rfl rfl hgB hB1 (by decide) (by omega) hW1).mono ?_; rintro e w2 ⟨rfl, hW2, hK, hB2⟩; replace kb := hK.2 _ _ _ kb (by decide) (by decide); replace bK := bK.trans hK; clear hK hB1 hW1 _t; obtain ⟨l2, hl2⟩ : ∃ x, x = l1 ++ beB N 1 := ⟨_, rfl⟩; rw [← hl2] at hW2; have n2 : l2.length = 2 := (by rw [hl2]; simp only [List.length_append, beB_length]; first | done | omega); have HL2 := Lib.hid hl2; clear hl2 p0 p1 p2 p3 p4 p5 p6 p7 lb; obtain ⟨p0, p1, p2, p3, p4, p5, p6, p7⟩ := kb.eight; have lb := kb.lt)
    | (go_at_call 14; have _t := hW0; refine (wputI B g _ _ 77 1 [] _ rfl rfl hgB hB0 (by decide) (by simp) hW0).mono ?_; rintro e w1 ⟨rfl, hW1, hK, hB1⟩; replace kb := hK.2 _ _ _ kb (by decide) (by decide); replace bK := bK.trans hK; clear hK hB0 hW0 _t; obtain ⟨l1, hl1⟩ : ∃ x, x = [] ++ beB 77 1 := ⟨_, rfl⟩; rw [← hl1] at hW1; have n1 : l1.length = 1 := (by rw [hl1]; simp only [List.length_append, beB_length, List.length_nil]; first | done | omega); have HL1 := Lib.hid hl1; clear hl1 p0 p1 p2 p3 p4 p5 p6 p7 lb; obtain ⟨p0, p1, p2, p3, p4, p5, p6, p7⟩ := kb.eight; have lb := kb.lt))
  have hhead : l9 = headB ⟨N, S, G, W, D, L, cold, ms⟩ := by rw [HHD.out, HL9.out, HL8.out, HL7.out, HL6.out, HL5.out, HL4.out, HL3.out, HL2.out, HL1.out]
  have HHE := Lib.hid hhead; clear hhead HHD HL1 HL2 HL3 HL4 HL5 HL6 HL7 HL8 HL9 HSET p0 p1 p2 p3 p4 p5 p6 p7 lb kb
  have hsm2 : ns ≤ 4 := hsn4
  go_loopw [47] (fun i wr => ∃ (k : Nat) (l : List UInt8), k ≤ ns ∧ i = .int .i64 k ∧ l = l9 ++ (ms.take k).flatMap modeB ∧ l.length ≤ 18 + 10 * k ∧ Wr B g l wr ∧ Kp g w9 wr ∧ B ≤ wr.heap.size) (fun i _ => ns - (intOf i).toNat)
  case atStart => exact ⟨0, l9, by omega, rfl, by simp, by omega, hW9, Kp.refl _ _, hB9⟩
  case round =>
    obtain ⟨k, l, hk, rfl, hl, hll, hWl, hKl, hBl⟩ := hrel
    have HL := Lib.hid hl; clear hl hW9
    have bK2 := bK.trans hKl
    by_cases hlt : k < ns
    · have hkm : k < ms.length := by have := HSN.out; omega
      obtain ⟨o, ho⟩ : ∃ o, ms[k]? = some o := ⟨ms[k], List.getElem?_eq_getElem hkm⟩
      obtain ⟨bb, off, rfl, hbb, v, hc0, hc1, hc2, hv⟩ := (HSB.out.below bK2.1).at_ ho
      obtain ⟨q1, q2, q3, q4, -⟩ := HMD.out o (List.mem_of_getElem? ho)
      have hsnoc := modes_snoc ms k o ho
      have hmo : modeB o = dataB o.d ++ beB (setN o.x) 1 ++ beB (setN o.n) 1 := rfl
      have hg : g ≤ wr.heap.size := by omega
      have hs1 := fun U (h : Kp g wr U) => setOf_any v.x.A v.x.n v.x.c o.x U hv.xn (by have := hv.xn; omega) ((hv.x.below h.1).mono (by have := h.1.size; omega))
      have hs2 := fun U (h : Kp g wr U) => setOf_any v.n.A v.n.n v.n.c o.n U hv.nn (by have := hv.nn; have := HSN.out; omega) ((hv.n.below h.1).mono (by have := h.1.size; omega))
      have hda := fun U (h : Kp g wr U) => hv.d.below h.1
      have hdn := hv.dn
      have hnd8 : v.d.n ≤ 8 := by omega
      obtain ⟨XN, hXN⟩ : ∃ x, x = setN o.x := ⟨_, rfl⟩
      obtain ⟨NN, hNN⟩ : ∃ x, x = setN o.n := ⟨_, rfl⟩
      rw [← hXN] at hs1 hmo
      rw [← hNN] at hs2 hmo
      have HSNO := Lib.hid hsnoc; have HMO := Lib.hid hmo; have HS1 := Lib.hid hs1; have HS2 := Lib.hid hs2; have HDA := Lib.hid hda; have HDN := Lib.hid hdn; have HQ := Lib.hid q4
      have hbs : bb < wr.heap.size := by omega
      clear hsnoc hmo hs1 hs2 hda hdn hv q1 q2 q3 q4 ho hkm hXN hNN
      obtain ⟨⟨Ad, nd, cd⟩, ⟨Ax, nx, cx⟩, ⟨An, nn, cn⟩⟩ := v
      dsimp only at *
      obtain ⟨hWu, hKu⟩ := kp_al #[.slice Ad nd cd, .slice Ax nx cx, .slice An nn cn] 46 hWl hg
      have ko := Blk.new wr 46 #[.slice Ad nd cd, .slice Ax nx cx, .slice An nn cn]
      have hBu : B ≤ (wr.alloc (.cells #[.slice Ad nd cd, .slice Ax nx cx, .slice An nn cn] 46)).heap.size := by simp; omega
      replace HDA := Lib.hid HDA.out; replace HS1 := Lib.hid HS1.out; replace HS2 := Lib.hid HS2.out
      go_wp2_with fail
      generalize wr.alloc (.cells #[.slice Ad nd cd, .slice Ax nx cx, .slice An nn cn] 46) = u at *
      obtain ⟨m0, m1, m2, -⟩ := ko.three
      go_loopw [7, 54] (fun _ i wr2 => ∃ (k2 : Nat) (l2 : List UInt8), k2 ≤ nd ∧ i = .int .i64 k2 ∧ l2 = l ++ dataB (o.d.take k2) ∧ l2.length ≤ 18 + 10 * k + k2 ∧ Wr B g l2 wr2 ∧ Kp g u wr2 ∧ B ≤ wr2.heap.size) (fun _ i _ => nd - (intOf i).toNat)
      case atStart => exact ⟨0, l, by omega, rfl, by simp [dataB], by omega, hWu, Kp.refl _ _, hBu⟩
      case round =>
        obtain ⟨k2, l2, hk2, rfl, hl2, hll2, hW2, hK2, hB2⟩ := hrel
        have HL2 := Lib.hid hl2; clear hl2
        by_cases hlt2 : k2 < nd
        · have hkd : k2 < o.d.length := by have := HDN.out; omega
          obtain ⟨b2, off2, rfl, hb2, hcell⟩ := (HDA.out _ (hKu.trans hK2)).at_ hkd
          have hbs2 : b2 < wr.heap.size := by omega
          obtain ⟨v0, hv0⟩ := Int.eq_ofNat_of_zero_le (data_at HQ.out k2 hkd).1
          have hsn := dataB_snoc o.d k2 hkd
          rw [hv0, Int.toNat_natCast] at hsn
          rw [hv0] at hcell
          have HSN2 := Lib.hid hsn; clear hsn hkd hv0
          go_wp2_with (go_at_call 14; refine (wputI B g _ _ v0 1 l2 _ rfl rfl hgB hB2 (by decide) (by omega) hW2).mono ?_; rintro e w11 ⟨rfl, hW3, hK3, hB3⟩)
          go_roundw
          case rel => exact ⟨k2 + 1, l2 ++ beB v0 1, by omega, by go_num, by rw [HSN2.out, ← List.append_assoc, ← HL2.out], by rw [List.length_append, beB_length]; omega, hW3, hK2.trans hK3, hB3⟩
          case measure => simp [intOf]; omega
        · obtain rfl : k2 = nd := by omega
          have hl2e : l2 = l ++ dataB o.d := by rw [HL2.out, List.take_of_length_le (l := o.d) (by have := HDN.out; omega)]
          replace HL2 := Lib.hid hl2e; clear hl2e
          replace ko := hK2.2 _ _ _ ko (by decide) (by decide)
          have hKK := hKu.trans hK2
          clear m0 m1 m2
          obtain ⟨m0, m1, m2, -⟩ := ko.three
          have lo := ko.lt
          go_wp2_with (first
            | (go_at_call 14; have _t := hW4; refine (wputI B g _ _ NN 1 (l2 ++ beB XN 1) _ rfl rfl hgB hB4 (by decide) (by rw [List.length_append, beB_length]; omega) hW4).mono ?_; rintro e w13 ⟨rfl, hW5, hK5, hB5⟩; replace hKK := hKK.trans hK5)
            | (go_at_call 14; have _t := hW2; refine (wputI B g _ _ XN 1 l2 _ rfl rfl hgB hB2 (by decide) (by omega) hW2).mono ?_; rintro e w12 ⟨rfl, hW4, hK4, hB4⟩; replace ko := hK4.2 _ _ _ ko (by decide) (by decide); replace hKK := hKK.trans hK4; clear hK4 hW2 _t m0 m1 m2 lo; obtain ⟨m0, m1, m2, -⟩ := ko.three; have lo := ko.lt)
            | (go_at_call 36; with_reducible refine (HS1.out _ hKK).mono ?_; rintro e w14 ⟨rfl, rfl⟩)
            | (go_at_call 36; with_reducible refine (HS2.out _ hKK).mono ?_; rintro e w14 ⟨rfl, rfl⟩))
          go_roundw
          case rel => exact ⟨k + 1, l2 ++ beB XN 1 ++ beB NN 1, by omega, by go_num, by rw [HSNO.out, HMO.out, HL2.out, HL.out]; simp only [List.append_assoc], by simp only [List.length_append, beB_length]; omega, hW5, hKl.trans hKK, hB5⟩
          case measure => simp [intOf]; omega
    · obtain rfl : k = ns := by omega
      have hlb : l = b := by rw [HBB.out, HB.out, ← HHE.out, HL.out, List.take_of_length_le (by have := HSN.out; omega)]
      subst hlb
      go_wp2
      go_end0
      exact ⟨rfl, hWl, bK2, hBl⟩
end Go.Proofs.YtnmaelefcohogaaDoor
