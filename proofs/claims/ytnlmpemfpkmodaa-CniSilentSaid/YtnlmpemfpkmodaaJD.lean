/-
  Deliver of package cni. Conditions: an interface, and data, that can be read. (Printed by tools/gen12jd.py.)
-/
import Derived.Test.YtnlmpemfpkmodaaJC
import Derived.Deep.RegionLaw
namespace Go.Proofs.Ytnlmpemfpkmodaa
open Go.RowKit

set_option maxRecDepth 100000 in
set_option maxHeartbeats 4000000 in
theorem pdeliverCn_any (s : Cn) (v u : Sl3) (q : Int) (x : Sl3) (bs : List UInt8) (w : World) (h : CnOk w.heap.size w s v u) (hx : BOk w.heap.size w bs x) : Calls Try.prog 25 #[.agg (cCn s v u), .int .i64 q, .slice x.A x.n x.c] w (ResCn w (deliverCn s q bs)) := by
  have hxn := hx.bn
  have hcx := fun U (h8 : bs.length ≤ 8) (hb : Below w.heap.size w U) => copied12_any x bs U (hx.on hb) h8
  have hmn := h.mn
  have hsl := fun U => isSlot_any q u.n U
  clear hx
  have q0 : ¬ okCn s → deliverCn s q bs = (120, zeroCn) := fun h => by unfold deliverCn; rw [if_neg h]
  have q1 : okCn s → ¬ (0 ≤ q ∧ q < (u.n : Int)) → deliverCn s q bs = (2, zeroCn) := fun h h2 => by unfold deliverCn; rw [if_pos h, if_neg (by omega)]
  have q2 : okCn s → (0 ≤ q ∧ q < (u.n : Int)) → ¬ x.n ≤ 8 → deliverCn s q bs = (3, zeroCn) := fun h h2 h3 => by unfold deliverCn; rw [if_pos h, if_pos (by omega), if_neg (by omega)]
  have q3 : okCn s → (0 ≤ q ∧ q < (u.n : Int)) → x.n ≤ 8 → deliverCn s q bs = (0, ⟨s.id, s.out, s.ms.set q.toNat ⟨bs, 0⟩, s.life, s.want⟩) := fun h h2 h3 => by unfold deliverCn; rw [if_pos h, if_pos (by omega), if_pos (by omega)]
  have hml : s.ms.length = u.n := hmn.symm
  generalize deliverCn s q bs = RR at *
  clear hmn
  obtain ⟨xA, xn, xc⟩ := x
  dsimp only at hxn hcx q2 q3
  have hno := fun U (hn : ¬ okCn s) (hb : Below w.heap.size w U) => ownedNo_any s v u U (h.on hb) hn
  have hclA := fun U (hn : okCn s) (hb : Below w.heap.size w U) => owned_any s v u U (h.on hb) hn
  unfold ResCn
  clear h
  obtain ⟨id, out, ms, life, want⟩ := s
  obtain ⟨A, n, c⟩ := v
  obtain ⟨B, m, d⟩ := u
  dsimp only [cCn] at *
  obtain ⟨kb, kr, bc⟩ := bx2 w #[.int .i64 id, .slice A n c, .slice B m d, .int .i64 life, .int .i64 want] #[.int .i64 0, .slice none 0 0, .slice none 0 0, .int .i64 0, .int .i64 0] 25 25
  obtain ⟨p0, p1, p2, p3, p4⟩ := kb.fiveI
  by_cases hok : okCn ⟨id, out, ms, life, want⟩
  rotate_left
  · obtain rfl := q0 hok
    have hnoB := fun U hb => hno U hok hb
    have HNO := Lib.hid hnoB; clear hnoB hno hclA hcx hxn hml hsl q1 q2 q3
    go_enter Try.func25, Try.ntmps25
    go_upto_region 2 with (first | (go_at_call 42; refine (HNO.out _ bc).mono ?_; rintro e w1 ⟨rfl, hC⟩; dsimp only; clear p0 p1 p2 p3 p4; replace kb := kb.on hC; replace kr := kr.on hC; replace bc := bc.trans (hC.mono bc.size); clear hC; obtain ⟨p0, p1, p2, p3, p4⟩ := kb.fiveI))
    have kn := Blk.new w1 25 #[.int .i64 0, .slice none 0 0, .slice none 0 0, .int .i64 0, .int .i64 0]
    have al := Below.al w1 (.cells #[.int .i64 0, .slice none 0 0, .slice none 0 0, .int .i64 0, .int .i64 0] 25)
    have hgn := kr.lt
    clear p0 p1 p2 p3 p4
    replace kb := kb.on al; replace kr := kr.on al; replace bc := bc.trans (al.mono bc.size); clear al
    generalize w1.alloc (.cells #[.int .i64 0, .slice none 0 0, .slice none 0 0, .int .i64 0, .int .i64 0] 25) = u1 at *
    generalize w1.heap.size = gn at *
    clear w1
    obtain ⟨r0, r1, r2, r3, r4⟩ := kr.fiveI; obtain ⟨g0, g1, g2, g3, g4⟩ := kr.fiveFI
    go_wp2
    exact bodyPost_ret (v := .tuple #[.agg #[.int .i64 0, .slice none 0 0, .slice none 0 0, .int .i64 0, .int .i64 0], .int .i64 120]) (by simp [results, Try.results25, go_sem, r0, r1, r2, r3, r4]) rfl ⟨⟨none, 0, 0⟩, ⟨none, 0, 0⟩, rfl, CnFr.zero _ _, by repeat (first | refine Below.setCell ?_ (by dsimp only; omega) _ | exact bc)⟩
  have q1 := q1 hok; have q2 := q2 hok; have q3 := q3 hok; clear q0
  have hclB := fun U hb => hclA U hok hb
  have HCL := Lib.hid hclB; clear hclB hclA hno hok
  obtain ⟨zs, hzs⟩ : ∃ z, z = (decide (0 ≤ q) && decide (q < (m : Int))) := ⟨_, rfl⟩
  rw [← hzs] at hsl
  have s1 : zs = true → 0 ≤ q ∧ q < (m : Int) := fun e => by rw [hzs] at e; simpa using e
  have s0 : zs = false → ¬ (0 ≤ q ∧ q < (m : Int)) := fun e h => by rw [hzs] at e; simp [h.1, h.2] at e
  clear hzs
  have HSL := Lib.hid hsl; clear hsl
  go_enter Try.func25, Try.ntmps25
  go_upto_region 2 with (first | (go_at_call 42; refine (HCL.out _ bc).mono ?_; rintro e w1 ⟨⟨vA, vn, vc⟩, ⟨uA, un, uc⟩, l, rfl, hcl0, hC⟩; dsimp only [cCn]; clear p0 p1 p2 p3 p4; replace kb := kb.on hC; replace kr := kr.on hC; have hcl := own_cl hcl0 bc.size; clear hcl0; replace bc := bc.trans (hC.mono bc.size); clear hC; obtain ⟨p0, p1, p2, p3, p4⟩ := kb.fiveI))
  have kn := Blk.new w1 25 #[.int .i64 id, .slice vA vn vc, .slice uA un uc, .int .i64 life, .int .i64 want]
  have al := Below.al w1 (.cells #[.int .i64 id, .slice vA vn vc, .slice uA un uc, .int .i64 life, .int .i64 want] 25)
  have hgn := kr.lt
  clear p0 p1 p2 p3 p4
  replace kb := kb.on al; replace kr := kr.on al; replace hcl := hcl.on al; replace bc := bc.trans (al.mono bc.size); clear al
  generalize w1.alloc (.cells #[.int .i64 id, .slice vA vn vc, .slice uA un uc, .int .i64 life, .int .i64 want] 25) = u1 at *
  generalize w1.heap.size = gn at *
  clear w1
  obtain ⟨p0, p1, p2, p3, p4⟩ := kb.fiveI
  cases zs with
  | false =>
    obtain rfl := q1 (s0 rfl)
    clear s0 s1 hcl q2 q3 hcx hxn hml
    obtain ⟨r0, r1, r2, r3, r4⟩ := kr.fiveI; obtain ⟨g0, g1, g2, g3, g4⟩ := kr.fiveFI
    go_wp2_with (first | (go_at_call 36; refine (HSL.out _).mono ?_; rintro e w2 ⟨rfl, rfl⟩; dsimp only))
    exact bodyPost_ret (v := .tuple #[.agg #[.int .i64 0, .slice none 0 0, .slice none 0 0, .int .i64 0, .int .i64 0], .int .i64 2]) (by simp [results, Try.results25, go_sem, r0, r1, r2, r3, r4]) rfl ⟨⟨none, 0, 0⟩, ⟨none, 0, 0⟩, rfl, CnFr.zero _ _, by repeat (first | refine Below.setCell ?_ (by dsimp only; omega) _ | exact bc)⟩
  | true =>
    have hss := s1 rfl
    have q2 := q2 hss; have q3 := q3 hss
    clear s0 s1 q1
    by_cases c1 : xn ≤ 8
    rotate_left
    · obtain rfl := q2 c1
      have d3 : decide (8 < (xn : Int)) = true := by simp; omega
      clear hxn hml hcx hcl q3
      obtain ⟨r0, r1, r2, r3, r4⟩ := kr.fiveI; obtain ⟨g0, g1, g2, g3, g4⟩ := kr.fiveFI
      go_wp2_with (first | (go_at_call 36; refine (HSL.out _).mono ?_; rintro e w2 ⟨rfl, rfl⟩; dsimp only))
      exact bodyPost_ret (v := .tuple #[.agg #[.int .i64 0, .slice none 0 0, .slice none 0 0, .int .i64 0, .int .i64 0], .int .i64 3]) (by simp [results, Try.results25, go_sem, r0, r1, r2, r3, r4]) rfl ⟨⟨none, 0, 0⟩, ⟨none, 0, 0⟩, rfl, CnFr.zero _ _, by repeat (first | refine Below.setCell ?_ (by dsimp only; omega) _ | exact bc)⟩
    have d3 : decide (8 < (xn : Int)) = false := by simp; omega
    have Q3 := Lib.hid (q3 c1); clear q2 q3
    have hcy := fun U hb => hcx U (by omega) hb
    have HCX := Lib.hid hcy
    have HML := Lib.hid hml
    clear hxn hml hcx hcy
    go_upto_region 8 with (first | (go_at_call 36; refine (HSL.out _).mono ?_; rintro e w2 ⟨rfl, rfl⟩; dsimp only))
    clear p0 p1 p2 p3 p4
    obtain ⟨cd1, cd2⟩ := hss
    obtain ⟨j, rfl⟩ := Int.eq_ofNat_of_zero_le cd1
    obtain ⟨hl, hrow, hrd, hout⟩ := hcl
    have hun : l.length = un := by have h0 := hrow.1; rw [cellsM_length] at h0; dsimp only at h0; omega
    have hju : j < un := by have h0 := HML.out; have h1 := congrArg List.length hl; simp only [List.length_map] at h1; rw [← h1] at h0; omega
    have hju2 : (j : Int) < (un : Int) := by omega
    obtain ⟨gw, cap2, e2, hg2, hg3⟩ := hrow.form (by dsimp only; omega)
    dsimp only at e2 hrow hout
    injection e2 with e3 e4 e5
    subst e3 e5
    have HL := Lib.hid hl; have HRD := Lib.hid hrd; have HOUT := Lib.hid hout; have HUN := Lib.hid hun
    clear hl hrd hout hun e4
    have hd : Below u1.heap.size u1 u1.drew := (Below.refl _ _).drew
    have kn1 := kn.on hd; have kr1 := kr.on hd; have hrow1 := own_on hrow hd; have bc1 := bc.trans (hd.mono bc.size)
    have HRD1 := Lib.hid (HRD.out.keep (ku_below hd)); have HOUT1 := Lib.hid (ku_below hd _ _ _ _ HOUT.out)
    obtain ⟨y0, y1, y2, y3, y4⟩ := kn1.fiveI
    have fz0 := (own_frozenI hrow1 (j * 2)).1; have fz1 := (own_frozenI hrow1 (j * 2 + 1)).1
    clear hd HRD HOUT hrow
    go_wp2_with fail
    go_region_law (first
      | (go_simp; go_at_call 43; refine (HCX.out _ bc1).mono ?_; rintro e w5 ⟨A5, c5, rfl, hown5, hC5⟩; dsimp only at hown5 ⊢; have kn5 := kn1.on hC5; have kr5 := kr1.on hC5; have hrow5 := own_on hrow1 hC5; have hown6 := own_mono hown5 bc1.size; have bc5 := bc1.trans (hC5.mono bc1.size); obtain ⟨z0, z1, z2, z3, z4⟩ := kn5.fiveI; obtain ⟨ym, -, em0, em1⟩ := own_cellM hrow5 (j := j) (by have := HUN.out; omega); have fy0 := (own_frozenI hrow5 (j * 2)).1; have fy1 := (own_frozenI hrow5 (j * 2 + 1)).1))
    all_goals
      have hHU := HUN.out
      have hHL := HL.out
      (try dsimp only at hHL)
      have ho9 := (own_setI (own_setI hrow5 (j * 2) (.slice A5 xn c5)) (j * 2 + 1) (.int .i64 0))
      rw [← cellsM_set l j ((⟨bs, 0⟩ : Ms), (⟨A5, xn, c5⟩ : Sl3)) (by omega)] at ho9
      have hG1 : w5.grownBy ((w5.setCell ⟨gw, j * 2, none⟩ (.slice A5 xn c5)).setCell ⟨gw, j * 2 + 1, none⟩ (.int .i64 0)) (some gw) := only_setCell (only_setCell (World.grownBy.refl w5 (some gw)) (.inl rfl) _) (.inl rfl) _
      have ku5 : Ku w5 ((w5.setCell ⟨gw, j * 2, none⟩ (.slice A5 xn c5)).setCell ⟨gw, j * 2 + 1, none⟩ (.int .i64 0)) := ku_own hrow5 (by decide) hG1
      have hrd9 := MsRd.set (j := j) (y := ((⟨bs, 0⟩ : Ms), (⟨A5, xn, c5⟩ : Sl3))) ((HRD1.out.keep (ku_below hC5)).keep ku5) (ku5 _ _ _ _ hown6)
      have hout9 := ku5 _ _ _ _ (ku_below hC5 _ _ _ _ HOUT1.out)
      have kn9 := kn5.grown hG1 (fun e => own_ne_blkI hrow5 kn5 (by decide) (by rw [e]; rfl))
      have kr9 := kr5.grown hG1 (fun e => own_ne_blkI hrow5 kr5 (by decide) (by rw [e]; rfl))
      have bc9 := Below.off bc5 bc5.size (Nat.le_trans (by omega) hg2) hG1
      have hcl9 : ClOk w.heap.size ((w5.setCell ⟨gw, j * 2, none⟩ (.slice A5 xn c5)).setCell ⟨gw, j * 2 + 1, none⟩ (.int .i64 0)) ⟨id, out, ms.set j ⟨bs, 0⟩, life, want⟩ ⟨vA, vn, vc⟩ ⟨some ⟨gw, 0, none⟩, un, uc⟩ (l.set j ((⟨bs, 0⟩ : Ms), (⟨A5, xn, c5⟩ : Sl3))) := ⟨by rw [List.map_set, hHL], ho9, hrd9, hout9⟩
      have HCL9 := Lib.hid hcl9
      clear hcl9 ho9 hG1 ku5 hrd9 hout9 hHU hHL kn5 kr5 bc5 hrow5 hown5 hown6 kn1 kr1 bc1 hrow1 y0 y1 y2 y3 y4 z0 z1 z2 z3 z4 fy0 fy1 fz0 fz1 em0 em1
      (try clear hC5)
      generalize (w5.setCell ⟨gw, j * 2, none⟩ (.slice A5 xn c5)).setCell ⟨gw, j * 2 + 1, none⟩ (.int .i64 0) = w6 at *
      have kn := kn9; have kr := kr9; have bc := bc9; clear kn9 kr9 bc9
      obtain rfl := Q3.out
      obtain ⟨r0, r1, r2, r3, r4⟩ := kr.fiveI; obtain ⟨g0, g1, g2, g3, g4⟩ := kr.fiveFI
      obtain ⟨n0, n1, n2, n3, n4⟩ := kn.fiveI; obtain ⟨m0, m1, m2, m3, m4⟩ := kn.fiveFI
      go_wp2
      exact bodyPost_ret (v := .tuple #[.agg #[.int .i64 id, .slice vA vn vc, .slice (some ⟨gw, 0, none⟩) un uc, .int .i64 life, .int .i64 want], .int .i64 0]) (by simp [results, Try.results25, go_sem, r0, r1, r2, r3, r4]) rfl ⟨⟨vA, vn, vc⟩, ⟨some ⟨gw, 0, none⟩, un, uc⟩, rfl, (ClOk.fr (HCL9.out.keep kr (by decide) (by decide) (grown5I _ _ _ _ _ _ _))), by repeat (first | refine Below.setCell ?_ (by dsimp only; omega) _ | exact bc)⟩
end Go.Proofs.Ytnlmpemfpkmodaa
