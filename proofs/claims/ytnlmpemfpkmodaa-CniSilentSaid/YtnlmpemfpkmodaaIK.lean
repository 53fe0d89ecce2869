/-
  begun of the statements of layer 12. Conditions: what the program's functions answer. (Printed by tools/gen12k.py; laid ahead.)
-/
import Derived.Test.YtnlmpemfpkmodaaIJ
namespace Go.Proofs.Ytnlmpemfpkmodaa
open Go.RowKit

/-- What the program's New answers. -/
def CniNewC : Prop := ∀ (id q : Int) (w : World), Calls Try.prog 10 #[.int .i64 id, .int .i64 q] w (ResCn w (newCn id q))
/-- What the program's Check answers. -/
def CniCheckC : Prop := ∀ (s : Cn) (v u : Sl3) (w : World), CnOk w.heap.size w s v u → Calls Try.prog 13 #[.agg (cCn s v u)] w fun e w' => e = .returned (.int .i64 (chkCn s)) ∧ Below w.heap.size w w'
/-- What the program's Write answers. -/
def CniWriteC : Prop := ∀ (s : Cn) (v u : Sl3) (x : Sl3) (bs : List UInt8) (w : World), CnOk w.heap.size w s v u → BOk w.heap.size w bs x → Calls Try.prog 16 #[.agg (cCn s v u), .slice x.A x.n x.c] w (ResCn w (writeCn s bs))
/-- What the program's Beat answers. -/
def CniBeatC : Prop := ∀ (s : Cn) (v u : Sl3) (w : World), CnOk w.heap.size w s v u → Calls Try.prog 18 #[.agg (cCn s v u)] w (ResCn w (beatCn s))
/-- What the program's Ask answers. -/
def CniAskC : Prop := ∀ (s : Cn) (v u : Sl3) (q : Int) (w : World), CnOk w.heap.size w s v u → Calls Try.prog 20 #[.agg (cCn s v u), .int .i64 q] w (ResCn w (askCn s q))
/-- What the program's Send answers. -/
def CniSendC : Prop := ∀ (s : Cn) (v u : Sl3) (q : Int) (w : World), CnOk w.heap.size w s v u → Calls Try.prog 22 #[.agg (cCn s v u), .int .i64 q] w (ResBy w (sendCn s q))
/-- What the program's Deliver answers. -/
def CniDeliverC : Prop := ∀ (s : Cn) (v u : Sl3) (q : Int) (x : Sl3) (bs : List UInt8) (w : World), CnOk w.heap.size w s v u → BOk w.heap.size w bs x → Calls Try.prog 25 #[.agg (cCn s v u), .int .i64 q, .slice x.A x.n x.c] w (ResCn w (deliverCn s q bs))
/-- What the program's Round answers. -/
def CniRoundC : Prop := ∀ (s : Cn) (v u : Sl3) (w : World), CnOk w.heap.size w s v u → Calls Try.prog 27 #[.agg (cCn s v u)] w (ResCn w (roundCn s))
/-- What the program's Alive answers. -/
def CniAliveC : Prop := ∀ (s : Cn) (v u : Sl3) (w : World), CnOk w.heap.size w s v u → Calls Try.prog 33 #[.agg (cCn s v u)] w fun e w' => e = .returned (.bool (aliveCn s)) ∧ Below w.heap.size w w'
/-- What the program's Same answers. -/
def CniSameC : Prop := ∀ (s r : Cn) (v u v' u' : Sl3) (w : World), CnOk w.heap.size w s v u → CnOk w.heap.size w r v' u' → u.n ≤ 1048576 → Calls Try.prog 15 #[.agg (cCn s v u), .agg (cCn r v' u')] w fun e w' => e = .returned (.bool (sameCn s r)) ∧ Below w.heap.size w w'
theorem bok_blk {w : World} {g : Nat} {bs : List UInt8} (h : Blk w g 5 (encB bs)) (hl : bs.length ≤ 65536) : BOk w.heap.size w bs ⟨some ⟨g, 0, none⟩, bs.length, bs.length⟩ :=
  ⟨byt_of_blk h, rfl, Nat.le_refl _, by show bs.length ≤ maxLen; unfold maxLen; omega, fun e => by cases e⟩
def begunCn : Cn := ⟨1, [], List.replicate 4 ⟨[], 255⟩, 4, -1⟩
def begunCw : Cn := ⟨1, [5, 6], List.replicate 4 ⟨[], 255⟩, 4, -1⟩
theorem begun_new : newCn 1 4 = (0, begunCn) := by kernel_rfl
theorem begun_write : writeCn begunCn [5, 6] = (0, begunCw) := by kernel_rfl
theorem begun_send : sendCn begunCw 3 = (0, [5, 6, 0]) := by kernel_rfl

set_option maxRecDepth 100000 in
set_option maxHeartbeats 4000000 in
theorem begun12_any (hN : CniNewC) (hW : CniWriteC) (hS : CniSendC) (w : World) : Calls Try.prog 7 #[] w fun e w' => e = .returned (.bool true) ∧ Below w.heap.size w w' := by
  have hn := hN 1 4
  have hw := fun v u x U h k => hW begunCn v u x [5, 6] U h k
  have hs := fun v u U h => hS begunCw v u 3 U h
  rw [begun_new] at hn; rw [begun_write] at hw; rw [begun_send] at hs
  unfold ResCn at hn hw; unfold ResBy at hs
  dsimp only [begunCn, begunCw, cCn] at hn hw hs
  have HN := Lib.hid hn; have HW := Lib.hid hw; have HS := Lib.hid hs; clear hn hw hs hN hW hS
  go_enter Try.func7, Try.ntmps7
  go_wp2_with fail
  refine (HN.out _).mono ?_
  rintro e w1 ⟨⟨vA, vn, vc⟩, ⟨uA, un, uc⟩, rfl, hc1, bc⟩
  dsimp only at hc1 ⊢
  have kb := Blk.new w1 25 #[.int .i64 1, .slice vA vn vc, .slice uA un uc, .int .i64 4, .int .i64 (-1)]
  have al := Below.al w1 (.cells #[.int .i64 1, .slice vA vn vc, .slice uA un uc, .int .i64 4, .int .i64 (-1)] 25)
  replace hc1 := hc1.on al; have hbz := bc.size; replace bc := bc.trans (al.mono bc.size); clear al
  go_upto_region 2 with fail
  generalize w1.alloc (.cells #[.int .i64 1, .slice vA vn vc, .slice uA un uc, .int .i64 4, .int .i64 (-1)] 25) = u1 at *
  generalize w1.heap.size = g1 at *
  clear w1
  have kd : Blk (u1.alloc (.cells (encB [5, 6]) 5)) u1.heap.size 5 (encB [5, 6]) := Blk.new u1 _ _
  have al := Below.al u1 (.cells (encB [5, 6]) 5)
  have hd := bok_blk kd (by decide)
  obtain ⟨p0, p1, p2, p3, p4⟩ := kb.fiveI
  replace hc1 := hc1.on al; replace bc := bc.trans (al.mono bc.size)
  have kb2 := kb.on al
  have HW2 := Lib.hid (HW.out _ _ _ _ hc1.ok hd); have hg1 := kb.lt; have hgd : g1 < (u1.alloc (.cells (encB [5, 6]) 5)).heap.size := kb2.lt
  clear al kd hd hc1 HW HN
  go_wp2_with fail
  refine HW2.out.mono ?_
  rintro e w3 ⟨⟨vB, vm, vd⟩, ⟨uB, um, ud⟩, rfl, hc2, hC⟩
  dsimp only at hc2 ⊢
  clear p0 p1 p2 p3 p4 kb
  have kb := kb2.on hC; replace bc := bc.trans (hC.mono bc.size); clear hC kb2
  obtain ⟨p0, p1, p2, p3, p4⟩ := kb.fiveI; obtain ⟨f0, f1, f2, f3, f4⟩ := kb.fiveFI
  go_upto_region 3 with fail
  have hG := grown5I w3 g1 (.int .i64 1) (.slice vB vm vd) (.slice uB um ud) (.int .i64 4) (.int .i64 (-1))
  replace hc2 := hc2.put hG (by omega)
  replace bc := Below.off bc bc.size (by omega) hG
  replace kb := kb.put5I (.int .i64 1) (.slice vB vm vd) (.slice uB um ud) (.int .i64 4) (.int .i64 (-1))
  clear hG p0 p1 p2 p3 p4 f0 f1 f2 f3 f4
  generalize (((((w3.setCell ⟨g1, 0, none⟩ (.int .i64 1)).setCell ⟨g1, 1, none⟩ (.slice vB vm vd)).setCell ⟨g1, 2, none⟩ (.slice uB um ud)).setCell ⟨g1, 3, none⟩ (.int .i64 4)).setCell ⟨g1, 4, none⟩ (.int .i64 (-1))) = u3 at *
  obtain ⟨p0, p1, p2, p3, p4⟩ := kb.fiveI
  have HS2 := Lib.hid (HS.out _ _ _ hc2.ok)
  clear hc2 HS HW2
  go_wp2_with fail
  refine HS2.out.mono ?_
  rintro e w4 ⟨⟨vE, vo, vp⟩, rfl, hb4, hC⟩
  dsimp only at hb4 ⊢
  replace bc := bc.trans (hC.mono bc.size)
  clear hC HS2 p0 p1 p2 p3 p4 kb
  go_upto_region 4 with fail
  have hbn := hb4.bn
  have kd : Blk (w4.alloc (.cells (encB [5, 6, 0]) 5)) w4.heap.size 5 (encB [5, 6, 0]) := Blk.new w4 _ _
  have al := Below.al w4 (.cells (encB [5, 6, 0]) 5)
  have hd := bok_blk kd (by decide)
  have he := bequal_any vE (some ⟨w4.heap.size, 0, none⟩) vo 3 vp 3 [5, 6, 0] [5, 6, 0] _ hb4.bn hd.bn (hb4.on al).by_ hd.by_
  rw [decide_eq_true rfl] at he
  have HE := Lib.hid he
  replace bc := bc.trans (al.mono bc.size)
  clear he hb4 hd kd al hbn
  go_wp2_with fail
  refine HE.out.mono ?_
  rintro e w5 ⟨rfl, rfl⟩
  dsimp only
  go_wp2
  go_ret
  exact ⟨rfl, bc⟩
end Go.Proofs.Ytnlmpemfpkmodaa
