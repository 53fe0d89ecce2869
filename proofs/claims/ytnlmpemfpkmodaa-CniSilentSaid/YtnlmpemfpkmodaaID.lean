/-
  Clone of the document of layer 12. Conditions: an interface that can be read, of no more messages and bytes than a slice of each may hold. (Printed by tools/gen12d.py; laid ahead.)
-/
import Derived.Test.YtnlmpemfpkmodaaIC
import Derived.Deep.CutBlock
import Derived.Deep.RegionLaw
namespace Go.Proofs.Ytnlmpemfpkmodaa
open Go.RowKit

/-- No slice in it is longer than what a call may be handed. -/
def SzCn (c : Cn) : Prop := c.ms.length ≤ 1048576 ∧ c.out.length ≤ 140737488351232 ∧ ∀ m ∈ c.ms, m.d.length ≤ 140737488351232
theorem take_map_snoc {l : List (Ms × Sl3)} {ms : List Ms} {k : Nat} {v : Sl3} (h : l.map Prod.fst = ms.take k) (hk : k < ms.length) : (l ++ [(ms[k]?.getD default, v)]).map Prod.fst = ms.take (k + 1) := by
  rw [List.map_append, h, List.take_add_one]
  simp [hk]

set_option maxRecDepth 100000 in
set_option maxHeartbeats 4000000 in
theorem rclone_any (s : Cn) (v u : Sl3) (w : World) (h : CnOk w.heap.size w s v u) (hsz : SzCn s) : Calls Try.prog 9 #[.agg (cCn s v u)] w fun e w' => ∃ v' u' l, e = .returned (.agg (cCn s v' u')) ∧ ClOk w.heap.size w' s v' u' l ∧ Below w.heap.size w w' := by
  obtain ⟨id, out, ms, life, want⟩ := s
  obtain ⟨A, n, c⟩ := v
  obtain ⟨B, m, d⟩ := u
  obtain ⟨hO, hM, hmn, hmc, hmm, hmz⟩ := h
  obtain ⟨hs1, hs2, hs3⟩ := hsz
  dsimp only [cCn] at *
  have hn := hO.bn
  dsimp only at hn
  have hm0 : m ≤ 1048576 := by omega
  have hn0 : n ≤ 140737488351232 := by omega
  have HO := Lib.hid hO; have HM := Lib.hid hM; have HMN := Lib.hid hmn; have HS3 := Lib.hid hs3; have HN := Lib.hid hn; clear hO hM hmn hs3 hs1 hs2 hmc hmm hmz hn
  obtain ⟨i1, gi, gz0, gz1, gz2⟩ := info_parts Try.infoMs
  obtain ⟨kb, kr, bc⟩ := bx2 w #[.int .i64 id, .slice A n c, .slice B m d, .int .i64 life, .int .i64 want] #[.int .i64 0, .slice none 0 0, .slice none 0 0, .int .i64 0, .int .i64 0] 25 25
  obtain ⟨p0, p1, p2, p3, p4⟩ := kb.fiveI
  obtain ⟨f0, f1, f2, f3, f4⟩ := kb.fiveFI
  go_enter Try.func9, Try.ntmps9
  go_upto_region 2 with fail
  clear p0 p1 p2 p3 p4 f0 f1 f2 f3 f4
  generalize (w.alloc (.cells #[.int .i64 id, .slice A n c, .slice B m d, .int .i64 life, .int .i64 want] 25)).alloc (.cells #[.int .i64 0, .slice none 0 0, .slice none 0 0, .int .i64 0, .int .i64 0] 25) = u1 at *
  obtain ⟨p0, p1, p2, p3, p4⟩ := kb.fiveI
  go_wp2_with (at_builtin; refine wpList_append_bytes rfl _ _ rfl w.heap.size out ⟨A, n, c⟩ (HO.out.below bc) (by dsimp only; omega) rfl rfl ?_; intro A1 c1 w1 hown hgrow; have hb0 := bc.size; have kb1 := kb.grown hgrow (by simp); have kr1 := kr.grown hgrow (by simp); have bc1 := below_none bc bc.size hgrow; clear p0 p1 p2 p3 p4 kb kr bc hgrow; have kb := kb1; have kr := kr1; have bc := bc1; clear kb1 kr1 bc1; dsimp only at hown; have hown0 := own_mono hown hb0; clear hown; have hown := hown0; clear hown0 hb0; obtain ⟨p0, p1, p2, p3, p4⟩ := kb.fiveI; obtain ⟨f0, f1, f2, f3, f4⟩ := kb.fiveFI)
  have kb2 : Blk ((w1.setCell ⟨w.heap.size, 1, none⟩ (.slice A1 n c1)).setCell ⟨w.heap.size, 2, none⟩ (.slice none 0 0)) w.heap.size 25 #[.int .i64 id, .slice A1 n c1, .slice none 0 0, .int .i64 life, .int .i64 want] := by simpa using (kb.set_ 1 (.slice A1 n c1)).set_ 2 (.slice none 0 0)
  have kr2 := (kr.far (p := ⟨w.heap.size, 1, none⟩) (by dsimp only; omega) (.slice A1 n c1)).far (p := ⟨w.heap.size, 2, none⟩) (by dsimp only; omega) (.slice none 0 0)
  have bc2 := (bc.setCell (p := ⟨w.heap.size, 1, none⟩) (Nat.le_refl _) (.slice A1 n c1)).setCell (p := ⟨w.heap.size, 2, none⟩) (Nat.le_refl _) (.slice none 0 0)
  have hne1 := own_ne_blkI hown kb (by decide)
  have hown2 := put_rowI (j := 2) (put_rowI (j := 1) hown hne1 (.slice A1 n c1)) hne1 (.slice none 0 0)
  clear p0 p1 p2 p3 p4 f0 f1 f2 f3 f4 kb kr bc hown hne1
  have HO2 := Lib.hid hown2; clear hown2
  generalize (w1.setCell ⟨w.heap.size, 1, none⟩ (.slice A1 n c1)).setCell ⟨w.heap.size, 2, none⟩ (.slice none 0 0) = u2 at *
  clear u1 w1
  go_loopw [4] (fun i wr => ∃ (k : Nat) (A2 : Option Addr) (c2 : Nat) (l : List (Ms × Sl3)), k ≤ m ∧ i = .int .i64 k ∧ l.map Prod.fst = ms.take k ∧ wr.ownsRow (w.heap.size + 2) 51 2 (.slice A2 k c2) k (cellsM l) ∧ MsRd w.heap.size l wr ∧ wr.ownsRow w.heap.size 5 1 (.slice A1 n c1) n (cellsU out) ∧ Blk wr w.heap.size 25 #[.int .i64 id, .slice A1 n c1, .slice A2 k c2, .int .i64 life, .int .i64 want] ∧ Blk wr (w.heap.size + 1) 25 #[.int .i64 0, .slice none 0 0, .slice none 0 0, .int .i64 0, .int .i64 0] ∧ Below w.heap.size w wr)
    (fun i _ => m - (intOf i).toNat)
  case atStart => exact ⟨0, none, 0, [], by omega, rfl, rfl, World.ownsRow_nil _ _ _ _, MsRd.nil _ _, HO2.out, kb2, kr2, bc2⟩
  case round =>
    clear kb2 kr2 bc2 HO2
    obtain ⟨k, A2, c2, l, hk, rfl, hl, hrow, hrd, hout, kb, kr, bc⟩ := hrel
    have hsz := kr.lt
    by_cases hlt : k < m
    · have hlt2 : (k : Int) < (m : Int) := by omega
      have hkl : k < ms.length := by have := HMN.out; omega
      obtain ⟨b, off, rfl, hb, vv, ⟨e0, e1⟩, hv⟩ := (HM.out.below bc).at_ (k := k) hkl
      have hvb := HS3.out (ms[k]?.getD default) (by simp [hkl])
      have hvn := hv.bn
      have hl2 := take_map_snoc (v := vv) hl hkl
      obtain ⟨vA, vn, vc⟩ := vv
      dsimp only at e0 hvn
      have hvn2 : vn ≤ 140737488351232 := by omega
      have HL2 := Lib.hid (fun v => take_map_snoc (v := v) hl hkl); have HL := Lib.hid hl; clear hl2 hl hkl hvb hvn
      obtain ⟨x, hx⟩ : ∃ x, x = ms[k]?.getD default := ⟨_, rfl⟩
      rw [← hx] at e1 hv HL2
      clear hx
      obtain ⟨xd, xg⟩ := x
      dsimp only at e1 hv
      have hd : Below wr.heap.size wr wr.drew := (Below.refl _ _).drew
      have kb1 := kb.on hd; have kr1 := kr.on hd; have hrow1 := own_on hrow hd; have hrd1 := hrd.keep (ku_below hd); have hout1 := ku_below hd _ _ _ _ hout; have bc1 := bc.trans (hd.mono bc.size)
      have hv1 := hv.below (hd.mono bc.size)
      have d0 := (hd.cell (p := ⟨b, off + k * 2, none⟩) (by dsimp only; omega)).trans e0
      have d1 := (hd.cell (p := ⟨b, off + k * 2 + 1, none⟩) (by dsimp only; omega)).trans e1
      have hszd : wr.drew.heap.size = wr.heap.size := rfl
      have RD := Lib.hid hrd1; have OUT := Lib.hid hout1
      clear hd hrd hout hv hrd1 hout1
      obtain ⟨p0, p1, p2, p3, p4⟩ := kb.fiveI
      obtain ⟨q0, q1, q2, q3, q4⟩ := kb1.fiveI
      go_wp2_with fail
      go_region_law (first
        | (refine step_append_bytes rfl _ (.tmp 24) rfl w.heap.size xd ⟨vA, vn, vc⟩ hv1 (by dsimp only; omega) (by simp [Act.eval]) (by simp [Act.eval]) ?_; intro A3 c3 w3 hown3 hgrow3; dsimp only at hown3; have kb3 := kb1.grown hgrow3 (by simp); have kr3 := kr1.grown hgrow3 (by simp); have hrow3 := hrow1.kept hgrow3 (by simp [Value.ownBlock]; cases A2 <;> simp); have bc3 := below_none bc1 bc1.size hgrow3; have hB3 := grown_below hgrow3; have RD3 := Lib.hid (RD.out.keep (ku_none hgrow3)); have OUT3 := Lib.hid (ku_none hgrow3 _ _ _ _ OUT.out); have kN := Blk.new w3 51 #[.slice A3 vn c3, .int .i64 xg]; have al := Below.al w3 (.cells #[.slice A3 vn c3, .int .i64 xg] 51); have kb4 := kb3.on al; have kr4 := kr3.on al; have hrow4 := own_on hrow3 al; have bc4 := bc3.trans (al.mono bc3.size); have hsz4 := kr4.lt; have h3 := (hB3.cell (p := ⟨b, off + k * 2 + 1, none⟩) (by dsimp only; omega)).trans d1; obtain ⟨x0, x1, x2, x3, x4⟩ := kb3.fiveI; obtain ⟨y0, y1, y2, y3, y4⟩ := kb4.fiveI; clear hB3)
        | (have _ := kN; refine step_append_lies _ rfl (.tmp 19) (.tmp 32) 23 rfl (w.heap.size + 2) 51 i1 (.agg #[.slice none 0 0, .int .i64 0]) 2 32 Try.underlying23 gi gz0 gz1 gz2 rfl (by decide) (.slice A2 k c2) k (cellsM l) (by simp [Act.eval]) hrow4 ⟨w3.heap.size, 0, none⟩ 1 1 [.slice A3 vn c3, .int .i64 xg] (by simp [Act.eval]) (by rfl) (World.news_of_block kN) (by simp [Value.oneCell']) (by decide) (by unfold maxLen; omega) (by omega) (by omega) _ rfl ?_; intro g5 cap5 w5 hown5 hgrow5 hat5 hlt5; have kb5 := kb4.grown hgrow5 (own_ne_blkI hrow4 kb4 (by decide)); obtain ⟨z0, z1, z2, z3, z4⟩ := kb5.fiveI; obtain ⟨f0, f1, f2, f3, f4⟩ := kb5.fiveFI))
      all_goals
        have bc5 := bc4.grown hgrow5 bc4.size (fun i ei => Nat.le_trans (by omega) (hrow4.lt i ei).1)
        have kr5 := kr4.grown hgrow5 (own_ne_blkI hrow4 kr4 (by decide))
        have ku5 : Ku w3 w5 := (ku_below al).trans (ku_own hrow4 (by decide) hgrow5)
        have hd5 := ku5 _ _ _ _ (own_mono hown3 bc1.size)
        have hrd5 := RD3.out.keep ku5
        have hout5 := ku5 _ _ _ _ OUT3.out
        have hG := only_setCell (World.grownBy.refl w5 (some w.heap.size)) (p := ⟨w.heap.size, 2, none⟩) (.inl rfl) (.slice (some ⟨g5, 0, none⟩) (k + 1) cap5)
        have ku6 := ku_grown kb5 (by decide) hG
        have kb6 : Blk (w5.setCell ⟨w.heap.size, 2, none⟩ (.slice (some ⟨g5, 0, none⟩) (k + 1) cap5)) w.heap.size 25 #[.int .i64 id, .slice A1 n c1, .slice (some ⟨g5, 0, none⟩) (k + 1) cap5, .int .i64 life, .int .i64 want] := by simpa using kb5.set_ 2 (.slice (some ⟨g5, 0, none⟩) (k + 1) cap5)
        have kr6 := kr5.far (p := ⟨w.heap.size, 2, none⟩) (by dsimp only; omega) (.slice (some ⟨g5, 0, none⟩) (k + 1) cap5)
        have bc6 := bc5.setCell (p := ⟨w.heap.size, 2, none⟩) (Nat.le_refl _) (.slice (some ⟨g5, 0, none⟩) (k + 1) cap5)
        have hrow6 := put_rowI (j := 2) hown5 (own_ne_blkI hown5 kb5 (by decide)) (.slice (some ⟨g5, 0, none⟩) (k + 1) cap5)
        have hfin : (l ++ [((⟨xd, xg⟩ : Ms), (⟨A3, vn, c3⟩ : Sl3))]).map Prod.fst = ms.take (k + 1) := HL2.out _
        have hrd6 := MsRd.snoc (y := ((⟨xd, xg⟩ : Ms), (⟨A3, vn, c3⟩ : Sl3))) (hrd5.keep ku6) (ku6 _ _ _ _ hd5)
        have hout6 := ku6 _ _ _ _ hout5
        have FIN := Lib.hid hfin; have RD6 := Lib.hid hrd6; have OUT6 := Lib.hid hout6
        rw [show cellsM l ++ [Value.slice A3 vn c3, .int .i64 xg] = cellsM (l ++ ([((⟨xd, xg⟩ : Ms), (⟨A3, vn, c3⟩ : Sl3))] : List (Ms × Sl3))) by rw [cellsM_append]; rfl] at hrow6
        clear hfin hrd6 hout6 hG ku6 ku5 hd5 hrd5 hout5 bc5 kr5 kb5 kb4 kr4 hrow4 bc4 kb3 kr3 hrow3 bc3 kb1 kr1 hrow1 bc1 kN al hown3 hgrow3 hgrow5 hown5 hat5 hlt5 x0 x1 x2 x3 x4 y0 y1 y2 y3 y4 z0 z1 z2 z3 z4 p0 p1 p2 p3 p4 q0 q1 q2 q3 q4 h3 d0 d1 e0 e1 hv1
        generalize w5.setCell ⟨w.heap.size, 2, none⟩ (.slice (some ⟨g5, 0, none⟩) (k + 1) cap5) = w6 at *
        go_wp2_with fail
        go_roundw
        case rel => exact ⟨k + 1, some ⟨g5, 0, none⟩, cap5, l ++ [((⟨xd, xg⟩ : Ms), (⟨A3, vn, c3⟩ : Sl3))], by omega, by go_num, FIN.out, hrow6, RD6.out, OUT6.out, kb6, kr6, bc6⟩
        case measure => simp [intOf]; omega
    · obtain rfl : k = m := by omega
      have hlf : l.map Prod.fst = ms := by rw [hl, show k = ms.length from HMN.out, List.take_length]
      have hcl : ClOk w.heap.size wr ⟨id, out, ms, life, want⟩ ⟨A1, n, c1⟩ ⟨A2, k, c2⟩ l := ⟨hlf, own_mono hrow (by omega), hrd, hout⟩
      have hcn : ∀ W', wr.grownBy W' (some (w.heap.size + 1)) → ClOk w.heap.size W' ⟨id, out, ms, life, want⟩ ⟨A1, n, c1⟩ ⟨A2, k, c2⟩ l := fun W' hG => hcl.keep kr (by decide) (by decide) hG
      have hCN := Lib.hid hcn
      clear hrow hrd hout hl hlf hcn hcl
      obtain ⟨p0, p1, p2, p3, p4⟩ := kb.fiveI
      obtain ⟨r0, r1, r2, r3, r4⟩ := kr.fiveI
      obtain ⟨f0, f1, f2, f3, f4⟩ := kr.fiveFI
      go_wp2
      exact bodyPost_ret (v := .agg #[.int .i64 id, .slice A1 n c1, .slice A2 k c2, .int .i64 life, .int .i64 want]) (by simp [results, Try.results9, go_sem, r0, r1, r2, r3, r4]) rfl ⟨⟨A1, n, c1⟩, ⟨A2, k, c2⟩, l, rfl, hCN.out _ (grown5I _ _ _ _ _ _ _), by repeat (first | refine Below.setCell ?_ (by dsimp only; omega) _ | exact bc)⟩
end Go.Proofs.Ytnlmpemfpkmodaa
