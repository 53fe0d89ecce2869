/-
  Round of the document of layer 12. Condition: an interface that can be read. (Printed by tools/gen12g.py; laid ahead.)
-/
import Derived.Test.YtnlmpemfpkmodaaIF
import Derived.BigRegion
namespace Go.Proofs.Ytnlmpemfpkmodaa
open Go.RowKit

/-- The messages of which the first k are a round older. -/
def roundTo (ms : List Ms) (k : Nat) : List Ms := (ms.take k).map olderMs ++ ms.drop k
theorem roundTo_zero (ms : List Ms) : roundTo ms 0 = ms := by simp [roundTo]
theorem roundTo_all (ms : List Ms) : roundTo ms ms.length = ms.map olderMs := by simp [roundTo]
theorem roundTo_at (ms : List Ms) (k : Nat) : (roundTo ms k)[k]? = ms[k]? := by
  rcases Nat.lt_or_ge k ms.length with h | h
  · have h2 : ((ms.take k).map olderMs).length = k := by simp; omega
    unfold roundTo
    rw [List.getElem?_append_right (by omega), h2, List.getElem?_drop]
    simp
  · unfold roundTo
    rw [List.getElem?_eq_none h, List.getElem?_eq_none (by simp; omega)]
theorem roundTo_set (ms : List Ms) (k : Nat) (h : k < ms.length) : (roundTo ms k).set k (olderMs (ms[k]?.getD default)) = roundTo ms (k + 1) := by
  have h2 : ((ms.take k).map olderMs).length = k := by simp; omega
  unfold roundTo
  rw [List.set_append_right _ _ (by omega), h2, Nat.sub_self, List.take_add_one, List.map_append, List.append_assoc]
  have e : ms[k]? = some ms[k] := by simp [h]
  rw [e, List.drop_eq_getElem_cons h]
  rfl
theorem roundTo_length (ms : List Ms) (k : Nat) : (roundTo ms k).length = ms.length := by simp [roundTo]; omega

set_option maxRecDepth 100000 in
set_option maxHeartbeats 4000000 in
theorem rroundCn_any (s : Cn) (v u : Sl3) (w : World) (h : CnOk w.heap.size w s v u) : Calls Try.prog 28 #[.agg (cCn s v u)] w (ResCn w (roundCn s)) := by
  have hck := fun U (hb : Below w.heap.size w U) => rchkCn_any s v u U (h.on hb)
  have hcl := fun U (hz : SzCn s) (hb : Below w.heap.size w U) => rclone_any s v u U (h.on hb) hz
  have hmn := h.mn
  have q0 : ¬ okCn s → roundCn s = (120, zeroCn) := fun h => by unfold roundCn; rw [if_neg h]
  have q3 : okCn s → roundCn s = (0, ⟨s.id, s.out, s.ms.map olderMs, max (s.life - 1) 0, s.want⟩) := fun h => by unfold roundCn; rw [if_pos h]
  have hbd : okCn s → (4 ≤ s.ms.length ∧ s.ms.length ≤ 8) ∧ (0 ≤ s.life ∧ s.life ≤ 4) ∧ ∀ k, k < s.ms.length → 0 ≤ (s.ms[k]?.getD default).g ∧ (s.ms[k]?.getD default).g ≤ 255 := fun h => ⟨⟨h.1.1, h.1.2.1⟩, ⟨h.1.2.2.2.2.2.1, h.1.2.2.2.2.2.2.1⟩, fun k hk => ⟨(h.2 k hk).2.1, (h.2 k hk).2.2⟩⟩
  have hml : s.ms.length = u.n := hmn.symm
  generalize roundCn s = RR at *
  clear hmn
  unfold ResCn
  have hoz := @okCn_sz s
  have hce := @chkCn_zero s
  have hcn := @chkCn_no s
  clear h
  obtain ⟨id, out, ms, life, want⟩ := s
  obtain ⟨A, n, c⟩ := v
  obtain ⟨B, m, d⟩ := u
  dsimp only [cCn] at *
  generalize hS : (⟨id, out, ms, life, want⟩ : Cn) = S at *
  obtain ⟨kb, kr, bc⟩ := bx2 w #[.int .i64 id, .slice A n c, .slice B m d, .int .i64 life, .int .i64 want] #[.int .i64 0, .slice none 0 0, .slice none 0 0, .int .i64 0, .int .i64 0] 25 25
  by_cases hok : okCn S
  rotate_left
  · obtain rfl := q0 hok
    rw [hcn hok] at hck
    have HCK := Lib.hid hck; clear hck hcl hoz hce hcn
    obtain ⟨p0, p1, p2, p3, p4⟩ := kb.fiveI; obtain ⟨r0, r1, r2, r3, r4⟩ := kr.fiveI; obtain ⟨g0, g1, g2, g3, g4⟩ := kr.fiveFI; obtain ⟨f0, f1, f2, f3, f4⟩ := kb.fiveFI
    go_enter Try.func28, Try.ntmps28
    go_wp2_with (first | (go_at_call 14; refine (HCK.out _ bc).mono ?_; rintro e w1 ⟨rfl, hC⟩; dsimp only; (try clear p0 p1 p2 p3 p4 r0 r1 r2 r3 r4 g0 g1 g2 g3 g4 f0 f1 f2 f3 f4); replace kb := kb.on hC; replace kr := kr.on hC; replace bc := bc.trans (hC.mono bc.size); clear hC; obtain ⟨p0, p1, p2, p3, p4⟩ := kb.fiveI; obtain ⟨r0, r1, r2, r3, r4⟩ := kr.fiveI; obtain ⟨g0, g1, g2, g3, g4⟩ := kr.fiveFI; obtain ⟨f0, f1, f2, f3, f4⟩ := kb.fiveFI))
    exact bodyPost_ret (v := .tuple #[.agg #[.int .i64 0, .slice none 0 0, .slice none 0 0, .int .i64 0, .int .i64 0], .int .i64 120]) (by simp [results, Try.results28, go_sem, r0, r1, r2, r3, r4]) rfl ⟨⟨none, 0, 0⟩, ⟨none, 0, 0⟩, rfl, CnFr.zero _ _, by repeat (first | refine Below.setCell ?_ (by dsimp only; omega) _ | exact bc)⟩
  have q3 := q3 hok; have hbd := hbd hok; clear q0
  rw [hce.2 hok] at hck
  have hcl := fun U hb => hcl U (hoz hok) hb
  have HCK := Lib.hid hck; have HCL := Lib.hid hcl; clear hck hcl hoz hce hcn
  have Q3 := Lib.hid q3; have HBD := Lib.hid hbd; have HML := Lib.hid hml; clear q3 hbd hml
  obtain ⟨p0, p1, p2, p3, p4⟩ := kb.fiveI; obtain ⟨r0, r1, r2, r3, r4⟩ := kr.fiveI; obtain ⟨g0, g1, g2, g3, g4⟩ := kr.fiveFI; obtain ⟨f0, f1, f2, f3, f4⟩ := kb.fiveFI
  go_enter Try.func28, Try.ntmps28
  go_upto_region 5 with (first | (go_at_call 14; refine (HCK.out _ bc).mono ?_; rintro e w1 ⟨rfl, hC⟩; dsimp only; (try clear p0 p1 p2 p3 p4 r0 r1 r2 r3 r4 g0 g1 g2 g3 g4 f0 f1 f2 f3 f4); replace kb := kb.on hC; replace kr := kr.on hC; replace bc := bc.trans (hC.mono bc.size); clear hC; obtain ⟨p0, p1, p2, p3, p4⟩ := kb.fiveI; obtain ⟨r0, r1, r2, r3, r4⟩ := kr.fiveI; obtain ⟨g0, g1, g2, g3, g4⟩ := kr.fiveFI; obtain ⟨f0, f1, f2, f3, f4⟩ := kb.fiveFI) | (go_at_call 9; refine (HCL.out _ bc).mono ?_; rintro e w2 ⟨⟨vA, vn, vc⟩, ⟨uA, un, uc⟩, l, rfl, hcl, hC⟩; dsimp only; (try clear p0 p1 p2 p3 p4 r0 r1 r2 r3 r4 g0 g1 g2 g3 g4 f0 f1 f2 f3 f4); replace kb := kb.on hC; replace kr := kr.on hC; have hcl := own_cl hcl bc.size; replace bc := bc.trans (hC.mono bc.size); clear hC; obtain ⟨p0, p1, p2, p3, p4⟩ := kb.fiveI; obtain ⟨r0, r1, r2, r3, r4⟩ := kr.fiveI; obtain ⟨g0, g1, g2, g3, g4⟩ := kr.fiveFI; obtain ⟨f0, f1, f2, f3, f4⟩ := kb.fiveFI))
  subst hS
  have hG := grown5I w2 w.heap.size (.int .i64 id) (.slice vA vn vc) (.slice uA un uc) (.int .i64 life) (.int .i64 want)
  replace hcl := hcl.keep kb (by decide) (by decide) hG
  replace kr := kr.grown hG (some_ne (by omega))
  replace bc := Below.off bc bc.size (Nat.le_refl _) hG
  replace kb := kb.put5I (.int .i64 id) (.slice vA vn vc) (.slice uA un uc) (.int .i64 life) (.int .i64 want)
  (try clear p0 p1 p2 p3 p4 r0 r1 r2 r3 r4 g0 g1 g2 g3 g4 f0 f1 f2 f3 f4)
  clear hG
  generalize (((((w2.setCell ⟨w.heap.size, 0, none⟩ (.int .i64 id)).setCell ⟨w.heap.size, 1, none⟩ (.slice vA vn vc)).setCell ⟨w.heap.size, 2, none⟩ (.slice uA un uc)).setCell ⟨w.heap.size, 3, none⟩ (.int .i64 life)).setCell ⟨w.heap.size, 4, none⟩ (.int .i64 want)) = u3 at *
  obtain ⟨p0, p1, p2, p3, p4⟩ := kb.fiveI; obtain ⟨r0, r1, r2, r3, r4⟩ := kr.fiveI; obtain ⟨g0, g1, g2, g3, g4⟩ := kr.fiveFI; obtain ⟨f0, f1, f2, f3, f4⟩ := kb.fiveFI
  obtain ⟨hl, hrow, hrd, hout⟩ := hcl
  have hun : l.length = un := by have h0 := hrow.1; rw [cellsM_length] at h0; dsimp only at h0; omega
  have hlm : ms.length = un := by have h1 := congrArg List.length hl; simp only [List.length_map] at h1; omega
  have hb1 := HBD.out
  obtain ⟨⟨hb2, hb3⟩, ⟨hb4, hb5⟩, hb6⟩ := hb1
  obtain ⟨gw, cap2, e2, hg2, hg3⟩ := hrow.form (by dsimp only; omega)
  dsimp only at e2 hrow hout hl
  injection e2 with e3 e4 e5
  subst e3 e5
  have HB6 := Lib.hid hb6; have HLM := Lib.hid hlm
  have hun4 : 4 ≤ un ∧ un ≤ 8 := by omega
  clear e4 hun hb6 hb2 hb3 HBD hlm p0 p1 p2 p3 p4 r0 r1 r2 r3 r4 g0 g1 g2 g3 g4 f0 f1 f2 f3 f4
  go_wp2_with fail
  go_loopw [5] (fun i wr => ∃ (k : Nat) (l : List (Ms × Sl3)), k ≤ un ∧ i = .int .i64 k ∧ l.map Prod.fst = roundTo ms k ∧ wr.ownsRow w.heap.size 51 2 (.slice (some ⟨gw, 0, none⟩) un uc) un (cellsM l) ∧ MsRd w.heap.size l wr ∧ wr.ownsRow w.heap.size 5 1 (.slice vA vn vc) vn (cellsU out) ∧ Blk wr w.heap.size 25 #[.int .i64 id, .slice vA vn vc, .slice (some ⟨gw, 0, none⟩) un uc, .int .i64 life, .int .i64 want] ∧ Blk wr (w.heap.size + 1) 25 #[.int .i64 0, .slice none 0 0, .slice none 0 0, .int .i64 0, .int .i64 0] ∧ Below w.heap.size w wr)
    (fun i _ => un - (intOf i).toNat)
  case atStart => exact ⟨0, l, by omega, rfl, by rw [hl, roundTo_zero], hrow, hrd, hout, kb, kr, bc⟩
  case round =>
    clear kb kr bc hrow hrd hout hl
    obtain ⟨k, l, hk, rfl, hl, hrow, hrd, hout, kb, kr, bc⟩ := hrel
    have hsz := kr.lt
    obtain ⟨p0, p1, p2, p3, p4⟩ := kb.fiveI
    by_cases hlt : k < un
    · have hlt2 : (k : Int) < (un : Int) := by omega
      have hkl : k < l.length := by have h0 := hrow.1; rw [cellsM_length] at h0; omega
      have hgb := HB6.out k (by have := HLM.out; omega)
      obtain ⟨y, hy, e0, e1⟩ := own_cellM hrow hkl
      have hy1 : ms[k]?.getD default = y.1 := by
        have h0 := congrArg (fun z => z[k]?) hl
        simp only [List.getElem?_map, hy, Option.map_some, roundTo_at] at h0
        rw [← h0]; rfl
      rw [hy1] at hgb
      have hnx := roundTo_set ms k (by have := HLM.out; omega)
      rw [hy1, ← hl, show (l.map Prod.fst).set k (olderMs y.1) = (l.set k (olderMs y.1, y.2)).map Prod.fst by rw [List.map_set]] at hnx
      have HNX := Lib.hid hnx; have HY := Lib.hid hy
      clear hnx hy hy1 hl hkl
      obtain ⟨⟨yd, yg⟩, ⟨yA, yn, yc⟩⟩ := y
      dsimp only at hgb e0 e1
      have hwr : IntKind.i64.wrap (yg + 1) = yg + 1 := IntWalk.i64_in _ (by omega)
      have hd : Below wr.heap.size wr wr.drew := (Below.refl _ _).drew
      have kb1 := kb.on hd
      obtain ⟨q0, q1, q2, q3, q4⟩ := kb1.fiveI
      have hbw : gw < wr.heap.size := (own_frozenI hrow 0).2.2
      have d1 := (hd.cell (p := ⟨gw, k * 2 + 1, none⟩) hbw).trans e1
      have fz := (own_frozenI (own_on hrow hd) (k * 2 + 1)).1
      go_wp2_with fail
      go_region
      rw [show (if 255 < yg + 1 then (255 : Int) else yg + 1) = min (yg + 1) 255 by split <;> omega]
      have hG := only_setCell (World.grownBy.refl wr (some gw)) (p := ⟨gw, k * 2 + 1, none⟩) (.inl rfl) (.int .i64 (min (yg + 1) 255))
      have ho9 := own_setI hrow (k * 2 + 1) (.int .i64 (min (yg + 1) 255))
      have hku := ku_own hrow (by decide) hG
      have hkl : k < l.length := by have h0 := hrow.1; rw [cellsM_length] at h0; omega
      have hce : (cellsM l)[k * 2]? = some (.slice yA yn yc) := (cellsM_get l k _ HY.out).1
      have hsame : (cellsM l).set (k * 2) (.slice yA yn yc) = cellsM l := List.ext_getElem? fun i => by
        rw [List.getElem?_set]
        split
        · subst_vars
          rw [hce]; simp [cellsM_length]; omega
        · rfl
      have hset := cellsM_set l k (olderMs ⟨yd, yg⟩, ⟨yA, yn, yc⟩) hkl
      dsimp only at hset
      rw [hsame, show (olderMs ⟨yd, yg⟩).g = min (yg + 1) 255 from rfl] at hset
      rw [← hset] at ho9
      have hyo := hrd _ (List.mem_of_getElem? HY.out)
      have hrd9 := (MsRd.set (j := k) (y := (olderMs ⟨yd, yg⟩, (⟨yA, yn, yc⟩ : Sl3))) (hrd.keep hku) (hku _ _ _ _ hyo))
      have hout9 := hku _ _ _ _ hout
      have kb9 := kb.grown hG (fun e => own_ne_blkI hrow kb (by decide) (by rw [e]; rfl))
      have kr9 := kr.grown hG (fun e => own_ne_blkI hrow kr (by decide) (by rw [e]; rfl))
      have bc9 := Below.off bc bc.size hg2 hG
      have hl9 := HNX.out
      have HL9 := Lib.hid hl9; have HO9 := Lib.hid ho9; have HRD9 := Lib.hid hrd9; have HOUT9 := Lib.hid hout9
      clear hl9 ho9 hrd9 hout9 hset hsame hce hyo hku hG kb kr bc kb1 q0 q1 q2 q3 q4 p0 p1 p2 p3 p4 e0 e1 d1 fz hrow hrd hout hd hkl
      generalize wr.setCell ⟨gw, k * 2 + 1, none⟩ (.int .i64 (min (yg + 1) 255)) = w6 at *
      have hd : Below w6.heap.size w6 w6.drew := (Below.refl _ _).drew
      go_wp2_with fail
      go_roundw
      case rel => exact ⟨k + 1, l.set k (olderMs ⟨yd, yg⟩, ⟨yA, yn, yc⟩), by omega, by go_num, HL9.out, own_on HO9.out hd, HRD9.out.keep (ku_below hd), ku_below hd _ _ _ _ HOUT9.out, kb9.on hd, kr9.on hd, bc9.trans (hd.mono bc9.size)⟩
      case measure => simp [intOf]; omega
    · obtain rfl : k = un := by omega
      have hwl : IntKind.i64.wrap (life - 1) = life - 1 := IntWalk.i64_in _ (by omega)
      have hlf : l.map Prod.fst = ms.map olderMs := by rw [hl, ← HLM.out, roundTo_all]
      have hcl : ClOk w.heap.size wr ⟨id, out, ms.map olderMs, max (life - 1) 0, want⟩ ⟨vA, vn, vc⟩ ⟨some ⟨gw, 0, none⟩, k, uc⟩ l := ⟨hlf, hrow, hrd, hout⟩
      have HCL2 := Lib.hid hcl
      clear hcl hlf hl hrow hrd hout
      obtain ⟨r0, r1, r2, r3, r4⟩ := kr.fiveI; obtain ⟨g0, g1, g2, g3, g4⟩ := kr.fiveFI; obtain ⟨f0, f1, f2, f3, f4⟩ := kb.fiveFI
      go_upto_region 10 with fail
      rw [show (if life - 1 < 0 then (0 : Int) else life - 1) = max (life - 1) 0 by split <;> omega]
      have hG := only_setCell (World.grownBy.refl wr (some w.heap.size)) (p := ⟨w.heap.size, 3, none⟩) (.inl rfl) (.int .i64 (max (life - 1) 0))
      have hcl4 := HCL2.out.keep kb (by decide) (by decide) hG
      have kr4 := kr.grown hG (some_ne (by omega))
      have bc4 := Below.off bc bc.size (Nat.le_refl _) hG
      have HCL4 := Lib.hid hcl4
      have kb4 : Blk (wr.setCell ⟨w.heap.size, 3, none⟩ (.int .i64 (max (life - 1) 0))) w.heap.size 25 #[.int .i64 id, .slice vA vn vc, .slice (some ⟨gw, 0, none⟩) k uc, .int .i64 (max (life - 1) 0), .int .i64 want] := by simpa using kb.set_ 3 (.int .i64 (max (life - 1) 0))
      clear hcl4 hG HCL2 r0 r1 r2 r3 r4 g0 g1 g2 g3 g4 f0 f1 f2 f3 f4 p0 p1 p2 p3 p4 kb kr bc hwl
      generalize wr.setCell ⟨w.heap.size, 3, none⟩ (.int .i64 (max (life - 1) 0)) = u6 at *
      have kb := kb4; have kr := kr4; have bc := bc4; clear kb4 kr4 bc4
      obtain rfl := Q3.out
      obtain ⟨lf, hlfe⟩ : ∃ lf, lf = max (life - 1) 0 := ⟨_, rfl⟩
      rw [← hlfe] at kb ⊢
      have HLF := Lib.hid hlfe; clear hlfe
      obtain ⟨p0, p1, p2, p3, p4⟩ := kb.fiveI; obtain ⟨r0, r1, r2, r3, r4⟩ := kr.fiveI; obtain ⟨g0, g1, g2, g3, g4⟩ := kr.fiveFI; obtain ⟨f0, f1, f2, f3, f4⟩ := kb.fiveFI
      go_wp2
      exact bodyPost_ret (v := .tuple #[.agg #[.int .i64 id, .slice vA vn vc, .slice (some ⟨gw, 0, none⟩) k uc, .int .i64 lf, .int .i64 want], .int .i64 0]) (by simp [results, Try.results28, go_sem, r0, r1, r2, r3, r4]) rfl ⟨⟨vA, vn, vc⟩, ⟨some ⟨gw, 0, none⟩, k, uc⟩, by rw [HLF.out], (ClOk.fr (l := l) (HCL4.out.keep kr (by decide) (by decide) (grown5I _ _ _ _ _ _ _))), by repeat (first | refine Below.setCell ?_ (by dsimp only; omega) _ | exact bc)⟩
end Go.Proofs.Ytnlmpemfpkmodaa
