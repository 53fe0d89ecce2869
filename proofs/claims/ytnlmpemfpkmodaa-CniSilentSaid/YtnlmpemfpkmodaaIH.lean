/-
  New of the document of layer 12. No condition. (Printed by tools/gen12h.py; laid ahead.)
-/
import Derived.Test.YtnlmpemfpkmodaaIG
namespace Go.Proofs.Ytnlmpemfpkmodaa
open Go.RowKit

theorem replicate_more {α : Type} (k : Nat) (x : α) : List.replicate k x ++ [x] = List.replicate (k + 1) x := by rw [List.replicate_succ']

set_option maxRecDepth 100000 in
set_option maxHeartbeats 4000000 in
theorem rnewCn_any (id q : Int) (w : World) : Calls Try.prog 11 #[.int .i64 id, .int .i64 q] w (ResCn w (newCn id q)) := by
  have q0 : ¬ ((4 ≤ q ∧ q ≤ 8) ∧ 0 ≤ id ∧ id < q) → newCn id q = (120, zeroCn) := fun h => by unfold newCn; rw [if_neg h]
  have q3 : ((4 ≤ q ∧ q ≤ 8) ∧ 0 ≤ id ∧ id < q) → newCn id q = (0, ⟨id, [], List.replicate q.toNat ⟨[], 255⟩, 4, -1⟩) := fun h => by unfold newCn; rw [if_pos h]
  unfold ResCn
  generalize newCn id q = RR at *
  obtain ⟨kr, bc⟩ := bx1 w #[.int .i64 0, .slice none 0 0, .slice none 0 0, .int .i64 0, .int .i64 0] 25
  by_cases cd1 : 4 ≤ q
  rotate_left
  · obtain rfl := q0 (by omega)
    have d1 : decide (q < 4) = true := by simp; omega
    clear q3
    obtain ⟨r0, r1, r2, r3, r4⟩ := kr.fiveI; obtain ⟨g0, g1, g2, g3, g4⟩ := kr.fiveFI
    go_enter Try.func11, Try.ntmps11
    go_wp2
    exact bodyPost_ret (v := .tuple #[.agg #[.int .i64 0, .slice none 0 0, .slice none 0 0, .int .i64 0, .int .i64 0], .int .i64 120]) (by simp [results, Try.results11, go_sem, r0, r1, r2, r3, r4]) rfl ⟨⟨none, 0, 0⟩, ⟨none, 0, 0⟩, rfl, CnFr.zero _ _, by repeat (first | refine Below.setCell ?_ (by dsimp only; omega) _ | exact bc)⟩
  have d1 : decide (q < 4) = false := by simp; omega
  by_cases cd2 : q ≤ 8
  rotate_left
  · obtain rfl := q0 (by omega)
    have d2 : decide (8 < q) = true := by simp; omega
    clear q3
    obtain ⟨r0, r1, r2, r3, r4⟩ := kr.fiveI; obtain ⟨g0, g1, g2, g3, g4⟩ := kr.fiveFI
    go_enter Try.func11, Try.ntmps11
    go_wp2
    exact bodyPost_ret (v := .tuple #[.agg #[.int .i64 0, .slice none 0 0, .slice none 0 0, .int .i64 0, .int .i64 0], .int .i64 120]) (by simp [results, Try.results11, go_sem, r0, r1, r2, r3, r4]) rfl ⟨⟨none, 0, 0⟩, ⟨none, 0, 0⟩, rfl, CnFr.zero _ _, by repeat (first | refine Below.setCell ?_ (by dsimp only; omega) _ | exact bc)⟩
  have d2 : decide (8 < q) = false := by simp; omega
  by_cases cd3 : 0 ≤ id
  rotate_left
  · obtain rfl := q0 (by omega)
    have d3 : decide (id < 0) = true := by simp; omega
    clear q3
    obtain ⟨r0, r1, r2, r3, r4⟩ := kr.fiveI; obtain ⟨g0, g1, g2, g3, g4⟩ := kr.fiveFI
    go_enter Try.func11, Try.ntmps11
    go_wp2
    exact bodyPost_ret (v := .tuple #[.agg #[.int .i64 0, .slice none 0 0, .slice none 0 0, .int .i64 0, .int .i64 0], .int .i64 120]) (by simp [results, Try.results11, go_sem, r0, r1, r2, r3, r4]) rfl ⟨⟨none, 0, 0⟩, ⟨none, 0, 0⟩, rfl, CnFr.zero _ _, by repeat (first | refine Below.setCell ?_ (by dsimp only; omega) _ | exact bc)⟩
  have d3 : decide (id < 0) = false := by simp; omega
  by_cases cd4 : id < q
  rotate_left
  · obtain rfl := q0 (by omega)
    have d4 : decide (q ≤ id) = true := by simp; omega
    clear q3
    obtain ⟨r0, r1, r2, r3, r4⟩ := kr.fiveI; obtain ⟨g0, g1, g2, g3, g4⟩ := kr.fiveFI
    go_enter Try.func11, Try.ntmps11
    go_wp2
    exact bodyPost_ret (v := .tuple #[.agg #[.int .i64 0, .slice none 0 0, .slice none 0 0, .int .i64 0, .int .i64 0], .int .i64 120]) (by simp [results, Try.results11, go_sem, r0, r1, r2, r3, r4]) rfl ⟨⟨none, 0, 0⟩, ⟨none, 0, 0⟩, rfl, CnFr.zero _ _, by repeat (first | refine Below.setCell ?_ (by dsimp only; omega) _ | exact bc)⟩
  have d4 : decide (q ≤ id) = false := by simp; omega
  have Q3 := Lib.hid (q3 ⟨⟨cd1, cd2⟩, cd3, cd4⟩); clear q0 q3
  obtain ⟨N, rfl⟩ := Int.eq_ofNat_of_zero_le (show 0 ≤ q by omega)
  obtain ⟨i1, gi, gz0, gz1, gz2⟩ := info_parts Try.infoMs
  go_enter Try.func11, Try.ntmps11
  go_upto_region 4 with fail
  have kb := Blk.new (w.alloc (.cells #[.int .i64 0, .slice none 0 0, .slice none 0 0, .int .i64 0, .int .i64 0] 25)) 25 #[.int .i64 id, .slice none 0 0, .slice none 0 0, .int .i64 4, .int .i64 (-1)]
  have al := Below.al (w.alloc (.cells #[.int .i64 0, .slice none 0 0, .slice none 0 0, .int .i64 0, .int .i64 0] 25)) (.cells #[.int .i64 id, .slice none 0 0, .slice none 0 0, .int .i64 4, .int .i64 (-1)] 25)
  have kr2 := kr.on al
  have bc2 := bc.trans (al.mono bc.size)
  rw [show (w.alloc (.cells #[.int .i64 0, .slice none 0 0, .slice none 0 0, .int .i64 0, .int .i64 0] 25)).heap.size = w.heap.size + 1 by simp] at kb
  clear kr bc al
  generalize (w.alloc (.cells #[.int .i64 0, .slice none 0 0, .slice none 0 0, .int .i64 0, .int .i64 0] 25)).alloc (.cells #[.int .i64 id, .slice none 0 0, .slice none 0 0, .int .i64 4, .int .i64 (-1)] 25) = u1 at *
  go_wp2_with fail
  go_loopw [7] (fun i wr => ∃ (k : Nat) (A2 : Option Addr) (c2 : Nat), k ≤ N ∧ i = .int .i64 k ∧ wr.ownsRow (w.heap.size + 2) 51 2 (.slice A2 k c2) k (cellsM (List.replicate k ((⟨[], 255⟩ : Ms), (⟨none, 0, 0⟩ : Sl3)))) ∧ Blk wr (w.heap.size + 1) 25 #[.int .i64 id, .slice none 0 0, .slice A2 k c2, .int .i64 4, .int .i64 (-1)] ∧ Blk wr w.heap.size 25 #[.int .i64 0, .slice none 0 0, .slice none 0 0, .int .i64 0, .int .i64 0] ∧ Below w.heap.size w wr)
    (fun i _ => N - (intOf i).toNat)
  case atStart => exact ⟨0, none, 0, by omega, rfl, World.ownsRow_nil _ _ _ _, kb, kr2, bc2⟩
  case round =>
    clear kb kr2 bc2
    obtain ⟨k, A2, c2, hk, rfl, hrow, kb, kr, bc⟩ := hrel
    have hsz := kb.lt
    obtain ⟨p0, p1, p2, p3, p4⟩ := kb.fiveI
    obtain ⟨f0, f1, f2, f3, f4⟩ := kb.fiveFI
    by_cases hlt : k < N
    · have hlt2 : (k : Int) < (N : Int) := by omega
      have kN := Blk.new wr 51 #[.slice none 0 0, .int .i64 255]
      have al := Below.al wr (.cells #[.slice none 0 0, .int .i64 255] 51)
      have kb4 := kb.on al; have kr4 := kr.on al; have hrow4 := own_on hrow al; have bc4 := bc.trans (al.mono bc.size)
      have HR := Lib.hid hrow; clear hrow
      go_upto_region 6 with (at_builtin; refine wpList_append_lies _ rfl (.tmp 32) (.tmp 34) 23 rfl (w.heap.size + 2) 51 i1 (.agg #[.slice none 0 0, .int .i64 0]) 2 32 Try.underlying23 gi gz0 gz1 gz2 rfl (by decide) (.slice A2 k c2) k (cellsM (List.replicate k ((⟨[], 255⟩ : Ms), (⟨none, 0, 0⟩ : Sl3)))) rfl hrow4 ⟨wr.heap.size, 0, none⟩ 1 1 [.slice none 0 0, .int .i64 255] rfl (by rfl) (World.news_of_block kN) (by simp [Value.oneCell']) (by decide) (by unfold maxLen; omega) (by omega) (by simp; omega) _ rfl ?_; intro g5 cap5 w5 hown5 hgrow5 hat5 hlt5; have kb5 := kb4.grown hgrow5 (own_ne_blkI hrow4 kb4 (by decide)); clear p0 p1 p2 p3 p4 f0 f1 f2 f3 f4; obtain ⟨f0, f1, f2, f3, f4⟩ := kb5.fiveFI; obtain ⟨p0, p1, p2, p3, p4⟩ := kb5.fiveI)
      have kr5 := kr4.grown hgrow5 (own_ne_blkI hrow4 kr4 (by decide))
      have bc5 := bc4.grown hgrow5 bc4.size (fun i ei => Nat.le_trans (by omega) (hrow4.lt i ei).1)
      have hG := only_setCell (World.grownBy.refl w5 (some (w.heap.size + 1))) (p := ⟨w.heap.size + 1, 2, none⟩) (.inl rfl) (.slice (some ⟨g5, 0, none⟩) (k + 1) cap5)
      have kb6 : Blk (w5.setCell ⟨w.heap.size + 1, 2, none⟩ (.slice (some ⟨g5, 0, none⟩) (k + 1) cap5)) (w.heap.size + 1) 25 #[.int .i64 id, .slice none 0 0, .slice (some ⟨g5, 0, none⟩) (k + 1) cap5, .int .i64 4, .int .i64 (-1)] := by simpa using kb5.set_ 2 (.slice (some ⟨g5, 0, none⟩) (k + 1) cap5)
      have kr6 := kr5.far (p := ⟨w.heap.size + 1, 2, none⟩) (by dsimp only; omega) (.slice (some ⟨g5, 0, none⟩) (k + 1) cap5)
      have bc6 := Below.off bc5 bc5.size (by omega) hG
      have hrow6 := hown5.kept hG (.inr (fun e => own_ne_blkI hown5 kb5 (by decide) e.symm))
      rw [show cellsM (List.replicate k ((⟨[], 255⟩ : Ms), (⟨none, 0, 0⟩ : Sl3))) ++ [Value.slice none 0 0, .int .i64 255] = cellsM (List.replicate (k + 1) ((⟨[], 255⟩ : Ms), (⟨none, 0, 0⟩ : Sl3))) by rw [← replicate_more, cellsM_append]; rfl] at hrow6
      clear hG kb5 kr5 bc5 hown5 hgrow5 kb4 kr4 hrow4 bc4 kb kr bc al kN p0 p1 p2 p3 p4 f0 f1 f2 f3 f4 hat5 hlt5
      generalize w5.setCell ⟨w.heap.size + 1, 2, none⟩ (.slice (some ⟨g5, 0, none⟩) (k + 1) cap5) = w6 at *
      go_wp2_with fail
      go_roundw
      case rel => exact ⟨k + 1, some ⟨g5, 0, none⟩, cap5, by omega, by go_num, hrow6, kb6, kr6, bc6⟩
      case measure => simp [intOf]; omega
    · obtain rfl : k = N := by omega
      have hrd : MsRd w.heap.size (List.replicate k ((⟨[], 255⟩ : Ms), (⟨none, 0, 0⟩ : Sl3))) wr := fun y hy => by rw [List.eq_of_mem_replicate hy]; exact World.ownsRow_nil _ _ _ _
      have hcl : ClOk w.heap.size wr ⟨id, [], List.replicate k ⟨[], 255⟩, 4, -1⟩ ⟨none, 0, 0⟩ ⟨A2, k, c2⟩ (List.replicate k ((⟨[], 255⟩ : Ms), (⟨none, 0, 0⟩ : Sl3))) := ⟨by rw [List.map_replicate], own_mono hrow (by omega), hrd, World.ownsRow_nil _ _ _ _⟩
      have HCL := Lib.hid hcl
      clear hcl hrd hrow
      obtain rfl := Q3.out
      obtain ⟨r0, r1, r2, r3, r4⟩ := kr.fiveI; obtain ⟨g0, g1, g2, g3, g4⟩ := kr.fiveFI
      go_wp2
      exact bodyPost_ret (v := .tuple #[.agg #[.int .i64 id, .slice none 0 0, .slice A2 k c2, .int .i64 4, .int .i64 (-1)], .int .i64 0]) (by simp [results, Try.results11, go_sem, r0, r1, r2, r3, r4]) rfl ⟨⟨none, 0, 0⟩, ⟨A2, k, c2⟩, rfl, (ClOk.fr (l := List.replicate k ((⟨[], 255⟩ : Ms), (⟨none, 0, 0⟩ : Sl3))) (HCL.out.keep kr (by decide) (by decide) (grown5I _ _ _ _ _ _ _))), by repeat (first | refine Below.setCell ?_ (by dsimp only; omega) _ | exact bc)⟩
end Go.Proofs.Ytnlmpemfpkmodaa
