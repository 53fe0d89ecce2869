/-
  Deliver of the document of layer 12. Conditions: an interface, and data, that can be read. (Printed by tools/gen12f.py; laid ahead.)
-/
import Derived.Test.YtnlmpemfpkmodaaIE
namespace Go.Proofs.Ytnlmpemfpkmodaa
open Go.RowKit

theorem own_cellM {W : World} {b g n cap : Nat} {l : List (Ms × Sl3)} (h : W.ownsRow b 51 2 (.slice (some ⟨g, 0, none⟩) n cap) n (cellsM l)) {j : Nat} (hj : j < l.length) :
    ∃ y : Ms × Sl3, l[j]? = some y ∧ W.cell? ⟨g, j * 2, none⟩ = some (.slice y.2.A y.2.n y.2.c) ∧ W.cell? ⟨g, j * 2 + 1, none⟩ = some (.int .i64 y.1.g) := by
  obtain ⟨y, hy⟩ : ∃ y, l[j]? = some y := ⟨l[j], by simp [hj]⟩
  obtain ⟨h0, h1⟩ := cellsM_get l j y hy
  have c0 := h.cells (g := g) rfl _ _ h0
  have c1 := h.cells (g := g) rfl _ _ h1
  rw [addr_add] at c0 c1
  rw [Nat.zero_add] at c0 c1
  exact ⟨y, hy, c0, c1⟩
set_option maxRecDepth 100000 in
set_option maxHeartbeats 4000000 in
theorem rdeliverCn_any (s : Cn) (v u : Sl3) (q : Int) (x : Sl3) (bs : List UInt8) (w : World) (h : CnOk w.heap.size w s v u) (hx : BOk w.heap.size w bs x) : Calls Try.prog 26 #[.agg (cCn s v u), .int .i64 q, .slice x.A x.n x.c] w (ResCn w (deliverCn s q bs)) := by
  have hck := fun U (hb : Below w.heap.size w U) => rchkCn_any s v u U (h.on hb)
  have hcl := fun U (hz : SzCn s) (hb : Below w.heap.size w U) => rclone_any s v u U (h.on hb) hz
  have HX := Lib.hid hx
  have hxn := hx.bn; clear hx
  have hmn := h.mn
  obtain ⟨xA, xn, xc⟩ := x
  dsimp only at hxn
  have q0 : ¬ okCn s → deliverCn s q bs = (120, zeroCn) := fun h => by unfold deliverCn; rw [if_neg h]
  have q1 : okCn s → ¬ (0 ≤ q ∧ q < (u.n : Int)) → deliverCn s q bs = (2, zeroCn) := fun h h2 => by unfold deliverCn; rw [if_pos h, if_neg (by omega)]
  have q2 : okCn s → (0 ≤ q ∧ q < (u.n : Int)) → ¬ xn ≤ 8 → deliverCn s q bs = (3, zeroCn) := fun h h2 h3 => by unfold deliverCn; rw [if_pos h, if_pos (by omega), if_neg (by omega)]
  have q3 : okCn s → (0 ≤ q ∧ q < (u.n : Int)) → xn ≤ 8 → deliverCn s q bs = (0, ⟨s.id, s.out, s.ms.set q.toNat ⟨bs, 0⟩, s.life, s.want⟩) := fun h h2 h3 => by unfold deliverCn; rw [if_pos h, if_pos (by omega), if_pos (by omega)]
  have hml : s.ms.length = u.n := hmn.symm
  generalize deliverCn s q bs = RR at *
  clear hmn
  unfold ResCn
  have hoz := @okCn_sz s
  have hce := @chkCn_zero s
  have hcn := @chkCn_no s
  clear h
  obtain ⟨id, out, ms, life, want⟩ := s
  obtain ⟨A, n, c⟩ := v
  obtain ⟨B, m, d⟩ := u
  dsimp only [cCn] at *
  generalize hS : (⟨id, out, ms, life, want⟩ : Cn) = S at *
  obtain ⟨kb, kr, bc⟩ := bx2 w #[.int .i64 id, .slice A n c, .slice B m d, .int .i64 life, .int .i64 want] #[.int .i64 0, .slice none 0 0, .slice none 0 0, .int .i64 0, .int .i64 0] 25 25
  by_cases hok : okCn S
  rotate_left
  · obtain rfl := q0 hok
    rw [hcn hok] at hck
    have HCK := Lib.hid hck; clear hck hcl hoz hce hcn
    obtain ⟨p0, p1, p2, p3, p4⟩ := kb.fiveI; obtain ⟨r0, r1, r2, r3, r4⟩ := kr.fiveI; obtain ⟨g0, g1, g2, g3, g4⟩ := kr.fiveFI; obtain ⟨f0, f1, f2, f3, f4⟩ := kb.fiveFI
    go_enter Try.func26, Try.ntmps26
    go_wp2_with (first | (go_at_call 14; refine (HCK.out _ bc).mono ?_; rintro e w1 ⟨rfl, hC⟩; dsimp only; (try clear p0 p1 p2 p3 p4 r0 r1 r2 r3 r4 g0 g1 g2 g3 g4 f0 f1 f2 f3 f4); replace kb := kb.on hC; replace kr := kr.on hC; replace bc := bc.trans (hC.mono bc.size); clear hC; obtain ⟨p0, p1, p2, p3, p4⟩ := kb.fiveI; obtain ⟨r0, r1, r2, r3, r4⟩ := kr.fiveI; obtain ⟨g0, g1, g2, g3, g4⟩ := kr.fiveFI; obtain ⟨f0, f1, f2, f3, f4⟩ := kb.fiveFI))
    exact bodyPost_ret (v := .tuple #[.agg #[.int .i64 0, .slice none 0 0, .slice none 0 0, .int .i64 0, .int .i64 0], .int .i64 120]) (by simp [results, Try.results26, go_sem, r0, r1, r2, r3, r4]) rfl ⟨⟨none, 0, 0⟩, ⟨none, 0, 0⟩, rfl, CnFr.zero _ _, by repeat (first | refine Below.setCell ?_ (by dsimp only; omega) _ | exact bc)⟩
  have q1 := q1 hok; have q2 := q2 hok; have q3 := q3 hok; clear q0
  rw [hce.2 hok] at hck
  have hcl := fun U hb => hcl U (hoz hok) hb
  have HCK := Lib.hid hck; have HCL := Lib.hid hcl; clear hck hcl hoz hce hcn
  by_cases cd1 : 0 ≤ q
  rotate_left
  · obtain rfl := q1 (by omega)
    have d1 : decide (q < 0) = true := by simp; omega
    clear hxn hml
    obtain ⟨p0, p1, p2, p3, p4⟩ := kb.fiveI; obtain ⟨r0, r1, r2, r3, r4⟩ := kr.fiveI; obtain ⟨g0, g1, g2, g3, g4⟩ := kr.fiveFI; obtain ⟨f0, f1, f2, f3, f4⟩ := kb.fiveFI
    go_enter Try.func26, Try.ntmps26
    go_wp2_with (first | (go_at_call 14; refine (HCK.out _ bc).mono ?_; rintro e w1 ⟨rfl, hC⟩; dsimp only; (try clear p0 p1 p2 p3 p4 r0 r1 r2 r3 r4 g0 g1 g2 g3 g4 f0 f1 f2 f3 f4); replace kb := kb.on hC; replace kr := kr.on hC; replace bc := bc.trans (hC.mono bc.size); clear hC; obtain ⟨p0, p1, p2, p3, p4⟩ := kb.fiveI; obtain ⟨r0, r1, r2, r3, r4⟩ := kr.fiveI; obtain ⟨g0, g1, g2, g3, g4⟩ := kr.fiveFI; obtain ⟨f0, f1, f2, f3, f4⟩ := kb.fiveFI))
    exact bodyPost_ret (v := .tuple #[.agg #[.int .i64 0, .slice none 0 0, .slice none 0 0, .int .i64 0, .int .i64 0], .int .i64 2]) (by simp [results, Try.results26, go_sem, r0, r1, r2, r3, r4]) rfl ⟨⟨none, 0, 0⟩, ⟨none, 0, 0⟩, rfl, CnFr.zero _ _, by repeat (first | refine Below.setCell ?_ (by dsimp only; omega) _ | exact bc)⟩
  have d1 : decide (q < 0) = false := by simp; omega
  by_cases cd2 : q < (m : Int)
  rotate_left
  · obtain rfl := q1 (by omega)
    have d2 : decide ((m : Int) ≤ q) = true := by simp; omega
    clear hxn hml
    obtain ⟨p0, p1, p2, p3, p4⟩ := kb.fiveI; obtain ⟨r0, r1, r2, r3, r4⟩ := kr.fiveI; obtain ⟨g0, g1, g2, g3, g4⟩ := kr.fiveFI; obtain ⟨f0, f1, f2, f3, f4⟩ := kb.fiveFI
    go_enter Try.func26, Try.ntmps26
    go_wp2_with (first | (go_at_call 14; refine (HCK.out _ bc).mono ?_; rintro e w1 ⟨rfl, hC⟩; dsimp only; (try clear p0 p1 p2 p3 p4 r0 r1 r2 r3 r4 g0 g1 g2 g3 g4 f0 f1 f2 f3 f4); replace kb := kb.on hC; replace kr := kr.on hC; replace bc := bc.trans (hC.mono bc.size); clear hC; obtain ⟨p0, p1, p2, p3, p4⟩ := kb.fiveI; obtain ⟨r0, r1, r2, r3, r4⟩ := kr.fiveI; obtain ⟨g0, g1, g2, g3, g4⟩ := kr.fiveFI; obtain ⟨f0, f1, f2, f3, f4⟩ := kb.fiveFI))
    exact bodyPost_ret (v := .tuple #[.agg #[.int .i64 0, .slice none 0 0, .slice none 0 0, .int .i64 0, .int .i64 0], .int .i64 2]) (by simp [results, Try.results26, go_sem, r0, r1, r2, r3, r4]) rfl ⟨⟨none, 0, 0⟩, ⟨none, 0, 0⟩, rfl, CnFr.zero _ _, by repeat (first | refine Below.setCell ?_ (by dsimp only; omega) _ | exact bc)⟩
  have d2 : decide ((m : Int) ≤ q) = false := by simp; omega
  have q2 := q2 ⟨cd1, cd2⟩; have q3 := q3 ⟨cd1, cd2⟩; clear q1
  by_cases c1 : xn ≤ 8
  rotate_left
  · obtain rfl := q2 c1
    have d3 : decide (8 < (xn : Int)) = true := by simp; omega
    clear hxn hml
    obtain ⟨p0, p1, p2, p3, p4⟩ := kb.fiveI; obtain ⟨r0, r1, r2, r3, r4⟩ := kr.fiveI; obtain ⟨g0, g1, g2, g3, g4⟩ := kr.fiveFI; obtain ⟨f0, f1, f2, f3, f4⟩ := kb.fiveFI
    go_enter Try.func26, Try.ntmps26
    go_wp2_with (first | (go_at_call 14; refine (HCK.out _ bc).mono ?_; rintro e w1 ⟨rfl, hC⟩; dsimp only; (try clear p0 p1 p2 p3 p4 r0 r1 r2 r3 r4 g0 g1 g2 g3 g4 f0 f1 f2 f3 f4); replace kb := kb.on hC; replace kr := kr.on hC; replace bc := bc.trans (hC.mono bc.size); clear hC; obtain ⟨p0, p1, p2, p3, p4⟩ := kb.fiveI; obtain ⟨r0, r1, r2, r3, r4⟩ := kr.fiveI; obtain ⟨g0, g1, g2, g3, g4⟩ := kr.fiveFI; obtain ⟨f0, f1, f2, f3, f4⟩ := kb.fiveFI))
    exact bodyPost_ret (v := .tuple #[.agg #[.int .i64 0, .slice none 0 0, .slice none 0 0, .int .i64 0, .int .i64 0], .int .i64 3]) (by simp [results, Try.results26, go_sem, r0, r1, r2, r3, r4]) rfl ⟨⟨none, 0, 0⟩, ⟨none, 0, 0⟩, rfl, CnFr.zero _ _, by repeat (first | refine Below.setCell ?_ (by dsimp only; omega) _ | exact bc)⟩
  have d3 : decide (8 < (xn : Int)) = false := by simp; omega
  have Q3 := Lib.hid (q3 c1); clear q2 q3
  have HXN := Lib.hid hxn; have HML := Lib.hid hml
  clear hxn hml
  obtain ⟨p0, p1, p2, p3, p4⟩ := kb.fiveI; obtain ⟨r0, r1, r2, r3, r4⟩ := kr.fiveI; obtain ⟨g0, g1, g2, g3, g4⟩ := kr.fiveFI; obtain ⟨f0, f1, f2, f3, f4⟩ := kb.fiveFI
  go_enter Try.func26, Try.ntmps26
  go_upto_region 9 with (first | (go_at_call 14; refine (HCK.out _ bc).mono ?_; rintro e w1 ⟨rfl, hC⟩; dsimp only; (try clear p0 p1 p2 p3 p4 r0 r1 r2 r3 r4 g0 g1 g2 g3 g4 f0 f1 f2 f3 f4); replace kb := kb.on hC; replace kr := kr.on hC; replace bc := bc.trans (hC.mono bc.size); clear hC; obtain ⟨p0, p1, p2, p3, p4⟩ := kb.fiveI; obtain ⟨r0, r1, r2, r3, r4⟩ := kr.fiveI; obtain ⟨g0, g1, g2, g3, g4⟩ := kr.fiveFI; obtain ⟨f0, f1, f2, f3, f4⟩ := kb.fiveFI) | (go_at_call 9; refine (HCL.out _ bc).mono ?_; rintro e w2 ⟨⟨vA, vn, vc⟩, ⟨uA, un, uc⟩, l, rfl, hcl, hC⟩; dsimp only; (try clear p0 p1 p2 p3 p4 r0 r1 r2 r3 r4 g0 g1 g2 g3 g4 f0 f1 f2 f3 f4); replace kb := kb.on hC; replace kr := kr.on hC; have hcl := own_cl hcl bc.size; replace bc := bc.trans (hC.mono bc.size); clear hC; obtain ⟨p0, p1, p2, p3, p4⟩ := kb.fiveI; obtain ⟨r0, r1, r2, r3, r4⟩ := kr.fiveI; obtain ⟨g0, g1, g2, g3, g4⟩ := kr.fiveFI; obtain ⟨f0, f1, f2, f3, f4⟩ := kb.fiveFI))
  subst hS
  have hG := grown5I w2 w.heap.size (.int .i64 id) (.slice vA vn vc) (.slice uA un uc) (.int .i64 life) (.int .i64 want)
  replace hcl := hcl.keep kb (by decide) (by decide) hG
  replace kr := kr.grown hG (some_ne (by omega))
  replace bc := Below.off bc bc.size (Nat.le_refl _) hG
  replace kb := kb.put5I (.int .i64 id) (.slice vA vn vc) (.slice uA un uc) (.int .i64 life) (.int .i64 want)
  (try clear p0 p1 p2 p3 p4 r0 r1 r2 r3 r4 g0 g1 g2 g3 g4 f0 f1 f2 f3 f4)
  clear hG
  generalize (((((w2.setCell ⟨w.heap.size, 0, none⟩ (.int .i64 id)).setCell ⟨w.heap.size, 1, none⟩ (.slice vA vn vc)).setCell ⟨w.heap.size, 2, none⟩ (.slice uA un uc)).setCell ⟨w.heap.size, 3, none⟩ (.int .i64 life)).setCell ⟨w.heap.size, 4, none⟩ (.int .i64 want)) = u3 at *
  obtain ⟨p0, p1, p2, p3, p4⟩ := kb.fiveI; obtain ⟨r0, r1, r2, r3, r4⟩ := kr.fiveI; obtain ⟨g0, g1, g2, g3, g4⟩ := kr.fiveFI; obtain ⟨f0, f1, f2, f3, f4⟩ := kb.fiveFI
  obtain ⟨j, rfl⟩ := Int.eq_ofNat_of_zero_le cd1
  obtain ⟨hl, hrow, hrd, hout⟩ := hcl
  have hun : l.length = un := by have h0 := hrow.1; rw [cellsM_length] at h0; dsimp only at h0; omega
  have hju : j < un := by have h0 := HML.out; have h1 := congrArg List.length hl; simp only [List.length_map] at h1; rw [← h1] at h0; omega
  have hju2 : (j : Int) < (un : Int) := by omega
  obtain ⟨gw, cap2, e2, hg2, hg3⟩ := hrow.form (by dsimp only; omega)
  dsimp only at e2 hrow hout
  injection e2 with e3 e4 e5
  subst e3 e5
  have HL := Lib.hid hl; have HRD := Lib.hid hrd; have HOUT := Lib.hid hout; have HUN := Lib.hid hun
  clear hl hrd hout hun e4
  have hd : Below u3.heap.size u3 u3.drew := (Below.refl _ _).drew
  have hX0 := HX.out.on (bc.trans (hd.mono bc.size))
  have kb1 := kb.on hd; have kr1 := kr.on hd; have hrow1 := own_on hrow hd; have bc1 := bc.trans (hd.mono bc.size)
  have HRD1 := Lib.hid (HRD.out.keep (ku_below hd)); have HOUT1 := Lib.hid (ku_below hd _ _ _ _ HOUT.out)
  obtain ⟨y0, y1, y2, y3, y4⟩ := kb1.fiveI
  have fz0 := (own_frozenI hrow1 (j * 2)).1; have fz1 := (own_frozenI hrow1 (j * 2 + 1)).1
  clear hd HRD HOUT hrow p0 p1 p2 p3 p4 r0 r1 r2 r3 r4 g0 g1 g2 g3 g4 f0 f1 f2 f3 f4
  go_wp2_with fail
  go_region_law (first
    | (refine step_append_bytes rfl (.const (.slice none 0 0)) (.tmp 34) rfl u3.drew.heap.size bs ⟨xA, xn, xc⟩ hX0 (by dsimp only; omega) rfl (by first | rfl | simp [Act.eval] | simp [Act.eval, Act.put]) ?_; intro A5 c5 w5 hown5 hgrow5; dsimp only at hown5; have kb5 := kb1.grown hgrow5 (by simp); have kr5 := kr1.grown hgrow5 (by simp); have hrow5 := hrow1.kept hgrow5 (by simp [Value.ownBlock]); have bc5 := below_none bc1 bc1.size hgrow5; obtain ⟨z0, z1, z2, z3, z4⟩ := kb5.fiveI; obtain ⟨ym, -, em0, em1⟩ := own_cellM hrow5 (j := j) (by have := HUN.out; omega); have fy0 := (own_frozenI hrow5 (j * 2)).1; have fy1 := (own_frozenI hrow5 (j * 2 + 1)).1))
  all_goals
    have hHU := HUN.out
    have hHL := HL.out
    (try dsimp only at hHL)
    have ho9 := (own_setI (own_setI hrow5 (j * 2) (.slice A5 xn c5)) (j * 2 + 1) (.int .i64 0))
    rw [← cellsM_set l j ((⟨bs, 0⟩ : Ms), (⟨A5, xn, c5⟩ : Sl3)) (by omega)] at ho9
    have hG1 : w5.grownBy ((w5.setCell ⟨gw, j * 2, none⟩ (.slice A5 xn c5)).setCell ⟨gw, j * 2 + 1, none⟩ (.int .i64 0)) (some gw) := only_setCell (only_setCell (World.grownBy.refl w5 (some gw)) (.inl rfl) _) (.inl rfl) _
    have ku5 : Ku w5 ((w5.setCell ⟨gw, j * 2, none⟩ (.slice A5 xn c5)).setCell ⟨gw, j * 2 + 1, none⟩ (.int .i64 0)) := ku_own hrow5 (by decide) hG1
    have hrd9 := MsRd.set (j := j) (y := ((⟨bs, 0⟩ : Ms), (⟨A5, xn, c5⟩ : Sl3))) ((HRD1.out.keep (ku_none hgrow5)).keep ku5) (ku5 _ _ _ _ (own_mono hown5 bc1.size))
    have hout9 := ku5 _ _ _ _ (ku_none hgrow5 _ _ _ _ HOUT1.out)
    have kb9 := kb5.grown hG1 (fun e => own_ne_blkI hrow5 kb5 (by decide) (by rw [e]; rfl))
    have kr9 := kr5.grown hG1 (fun e => own_ne_blkI hrow5 kr5 (by decide) (by rw [e]; rfl))
    have bc9 := Below.off bc5 bc5.size (Nat.le_trans (by omega) hg2) hG1
    have hcl9 : ClOk w.heap.size ((w5.setCell ⟨gw, j * 2, none⟩ (.slice A5 xn c5)).setCell ⟨gw, j * 2 + 1, none⟩ (.int .i64 0)) ⟨id, out, ms.set j ⟨bs, 0⟩, life, want⟩ ⟨vA, vn, vc⟩ ⟨some ⟨gw, 0, none⟩, un, uc⟩ (l.set j ((⟨bs, 0⟩ : Ms), (⟨A5, xn, c5⟩ : Sl3))) := ⟨by rw [List.map_set, hHL], ho9, hrd9, hout9⟩
    have HCL9 := Lib.hid hcl9
    clear hcl9 ho9 hG1 ku5 hrd9 hout9 hHU hHL kb5 kr5 bc5 hrow5 hown5 hgrow5 kb1 kr1 bc1 hrow1 y0 y1 y2 y3 y4 z0 z1 z2 z3 z4 fy0 fy1 fz0 fz1 em0 em1
    generalize (w5.setCell ⟨gw, j * 2, none⟩ (.slice A5 xn c5)).setCell ⟨gw, j * 2 + 1, none⟩ (.int .i64 0) = w6 at *
    have kb := kb9; have kr := kr9; have bc := bc9; clear kb9 kr9 bc9
    obtain rfl := Q3.out
    obtain ⟨p0, p1, p2, p3, p4⟩ := kb.fiveI; obtain ⟨r0, r1, r2, r3, r4⟩ := kr.fiveI; obtain ⟨g0, g1, g2, g3, g4⟩ := kr.fiveFI; obtain ⟨f0, f1, f2, f3, f4⟩ := kb.fiveFI
    go_wp2
    exact bodyPost_ret (v := .tuple #[.agg #[.int .i64 id, .slice vA vn vc, .slice (some ⟨gw, 0, none⟩) un uc, .int .i64 life, .int .i64 want], .int .i64 0]) (by simp [results, Try.results26, go_sem, r0, r1, r2, r3, r4]) rfl ⟨⟨vA, vn, vc⟩, ⟨some ⟨gw, 0, none⟩, un, uc⟩, rfl, (ClOk.fr (HCL9.out.keep kr (by decide) (by decide) (grown5I _ _ _ _ _ _ _))), by repeat (first | refine Below.setCell ?_ (by dsimp only; omega) _ | exact bc)⟩
end Go.Proofs.Ytnlmpemfpkmodaa
