/-
  The statement of what a controller does. Conditions: what the program's functions answer. (Printed by tools/gen12n.py; laid ahead.)
-/
import Derived.Test.YtnlmpemfpkmodaaIM
import Derived.Deep.CutBlock
namespace Go.Proofs.Ytnlmpemfpkmodaa
open Go.RowKit

theorem few_deliver (s : Cn) (q : Int) (bs : List UInt8) : (deliverCn s q bs).2.ms.length ≤ 8 := by
  unfold deliverCn
  split
  · rename_i h
    split
    · split
      · rw [List.length_set]; exact h.1.2.1
      · exact Nat.zero_le _
    · exact Nat.zero_le _
  · exact Nat.zero_le _
theorem few_round (s : Cn) : (roundCn s).2.ms.length ≤ 8 := by
  unfold roundCn
  split
  · rename_i h
    rw [List.length_map]; exact h.1.2.1
  · exact Nat.zero_le _
theorem few_fresh (s : Cn) (q : Int) : (freshCn s q).length ≤ 8 := by
  unfold freshCn
  split
  · rename_i h
    have := freshTo_length s q s.ms.length
    have := h.1.2.1
    omega
  · exact Nat.zero_le _
theorem BOk.onI {W W' : World} {s : List UInt8} {v : Sl3} (h : BOk W.heap.size W s v) (hb : Below W.heap.size W W') : BOk W'.heap.size W' s v := h.on hb

set_option maxRecDepth 100000 in
set_option maxHeartbeats 4000000 in
theorem controller_law (hN : CniNewC) (hW : CniWriteC) (hS : CniSendC) (hD : CniDeliverC) (hR : CniRoundC) (hF : CniFreshC) (hAl : CniAliveC) (a : Cn) (va ua x : Sl3) (sl lo : Int) (bs : List UInt8) (ag : Int) (mo : Nat) (w : World) (ha : CnOk w.heap.size w a va ua) (hx : BOk w.heap.size w bs x) (hz : SzIn a) (hmo : mo < 256) : Calls Try.prog 4 #[.agg (cCn a va ua), .int .i64 sl, .int .i64 lo, .slice x.A x.n x.c, .int .i64 ag, .int .u8 (mo : Int)] w fun e w' => e = .returned (.bool true) ∧ Below w.heap.size w w' := by
  have h0 := fun U => begun12_any hN hW hS U
  have hfa := fun U => few12_any a va ua U
  have hcl := fun U (h : Below w.heap.size w U) (hm : ua.n ≤ 20) => rclone_any a va ua U (ha.on h) ⟨by have := ha.mn; omega, hz.1, hz.2⟩
  have hs1 := fun U (h : Below w.heap.size w U) => hS a va ua lo U (ha.on h)
  have hs2 := fun U (h : Below w.heap.size w U) => rsendCn_any a va ua lo U (ha.on h)
  have hd1 := fun U (h : Below w.heap.size w U) => hD a va ua sl x bs U (ha.on h) (hx.on h)
  have hd2 := fun U (h : Below w.heap.size w U) => rdeliverCn_any a va ua sl x bs U (ha.on h) (hx.on h)
  have hr1 := fun U (h : Below w.heap.size w U) => hR a va ua U (ha.on h)
  have hr2 := fun U (h : Below w.heap.size w U) => rroundCn_any a va ua U (ha.on h)
  have hf1 := fun U (h : Below w.heap.size w U) (hm : ua.n ≤ 20) => hF a va ua ag U (ha.on h) hm
  have hf2 := fun U (h : Below w.heap.size w U) (hm : ua.n ≤ 1048576) => rfreshCn_any a va ua ag U (ha.on h) hm
  have hk := fun U (h : Below w.heap.size w U) => rchkCn_any a va ua U (ha.on h)
  have hal := fun U (h : Below w.heap.size w U) => hAl a va ua U (ha.on h)
  have hs4 := fun (v u : Sl3) U (h : Below w.heap.size w U) (hm : ua.n ≤ 1048576) (k : CnOk U.heap.size U a v u) => rsameCn_any a a va ua v u U (ha.on h) k hm
  have hs5 := fun (r : Cn) (v u v' u' : Sl3) U (k : CnOk U.heap.size U r v u) (k' : CnOk U.heap.size U r v' u') (hm : u.n ≤ 1048576) => rsameCn_any r r v u v' u' U k k' hm
  have h11 := fun gf lb U h1 h2 => toldI_any gf lb 99 (freshCn a ag) U (by omega) h1 h2
  have h12 := fun gf lb U h1 h2 => toldI_any gf lb mo (freshCn a ag) U (by omega) h1 h2
  simp only [sameCn_self] at hs4 hs5
  have hl8 := few_fresh a ag
  have f1 := few_deliver a sl bs; have f2 := few_round a
  have hv0 : ¬ chkCn a = 0 → aliveCn a = false := fun h => by unfold aliveCn; rw [decide_eq_false (fun h2 => h (chkCn_zero.2 h2))]; rfl
  have hv1 : chkCn a = 0 → decide (0 < a.life) = aliveCn a := fun h => by unfold aliveCn; rw [decide_eq_true (chkCn_zero.1 h)]; rfl
  unfold ResCn at hd1 hd2 hr1 hr2
  unfold ResBy at hs1 hs2
  unfold FreshGives at hf1
  generalize freshCn a ag = ln at *
  have htk : ln.take 99 = ln := List.take_of_length_le (by omega)
  rw [htk] at h11
  simp only [Int.cast_ofNat_Int] at h11
  generalize sendCn a lo = Rs at *
  generalize deliverCn a sl bs = Rd at *
  generalize roundCn a = Rr at *
  generalize aliveCn a = av at *
  generalize chkCn a = ck at *
  clear hN hW hS hD hR hF hAl ha hx hz htk
  obtain ⟨eS, sS⟩ := Rs
  obtain ⟨eD, ⟨iD, oD, mD, lD, tD⟩⟩ := Rd
  obtain ⟨eR, ⟨iR, oR, mR, lR, tR⟩⟩ := Rr
  have hs5d := hs5 ⟨iD, oD, mD, lD, tD⟩
  have hs5r := hs5 ⟨iR, oR, mR, lR, tR⟩
  clear hs5
  obtain ⟨id, out, ms, life, want⟩ := a
  obtain ⟨A, n, c⟩ := va
  obtain ⟨B, m, d⟩ := ua
  obtain ⟨xA, xn, xc⟩ := x
  dsimp only [cCn] at *
  have HL8 := Lib.hid hl8; have F1 := Lib.hid f1; have F2 := Lib.hid f2; have HV0 := Lib.hid hv0; have HV1 := Lib.hid hv1; have HMO := Lib.hid hmo
  have H0 := Lib.hid h0; have HFA := Lib.hid hfa; have HCL := Lib.hid hcl; have HS1 := Lib.hid hs1; have HS2 := Lib.hid hs2; have HD1 := Lib.hid hd1; have HD2 := Lib.hid hd2; have HR1 := Lib.hid hr1; have HR2 := Lib.hid hr2; have HF1 := Lib.hid hf1; have HF2 := Lib.hid hf2; have HK := Lib.hid hk; have HAL := Lib.hid hal; have HS4 := Lib.hid hs4; have H11 := Lib.hid h11; have H12 := Lib.hid h12; have HS5D := Lib.hid hs5d; have HS5R := Lib.hid hs5r;
  clear hl8 f1 f2 hv0 hv1 hmo h0 hfa hcl hs1 hs2 hd1 hd2 hr1 hr2 hf1 hf2 hk hal hs4 h11 h12 hs5d hs5r
  obtain ⟨ka, bc⟩ := bx1 w #[.int .i64 id, .slice A n c, .slice B m d, .int .i64 life, .int .i64 want] 25
  obtain ⟨pka0, pka1, pka2, pka3, pka4⟩ := ka.fiveI
  by_cases ca : m ≤ 20
  rotate_left
  · have dd : decide (m ≤ 20) = false := by simp; omega
    rw [dd] at HFA
    go_enter Try.func4, Try.ntmps4
    go_wp2_with (first | (go_at_call 8; with_reducible refine (HFA.out _).mono ?_; rintro e w1 ⟨rfl, hC⟩; dsimp only; (try clear pka0 pka1 pka2 pka3 pka4); replace ka := ka.on hC; replace bc := bc.trans (hC.mono bc.size); clear hC; obtain ⟨pka0, pka1, pka2, pka3, pka4⟩ := ka.fiveI) | (go_at_call 7; refine (H0.out _).mono ?_; rintro e w1 ⟨rfl, hC⟩; dsimp only; (try clear pka0 pka1 pka2 pka3 pka4); replace ka := ka.on hC; replace bc := bc.trans (hC.mono bc.size); clear hC; obtain ⟨pka0, pka1, pka2, pka3, pka4⟩ := ka.fiveI))
    go_ret
    exact ⟨rfl, bc⟩
  rw [decide_eq_true ca] at HFA
  have hm6 : m ≤ 1048576 := by omega
  go_enter Try.func4, Try.ntmps4
  go_upto_region 4 with (first | (go_at_call 9; refine (HCL.out _ bc (by omega)).mono ?_; rintro e w3 ⟨⟨A3, n3, c3⟩, ⟨B3, m3, d3⟩, l3, rfl, hw3, hC⟩; dsimp only; have hwas := hw3.cn; clear hw3; (try clear pka0 pka1 pka2 pka3 pka4); replace ka := ka.on hC; replace bc := bc.trans (hC.mono bc.size); clear hC; have hlw := ka.lt; obtain ⟨pka0, pka1, pka2, pka3, pka4⟩ := ka.fiveI) | (go_at_call 8; with_reducible refine (HFA.out _).mono ?_; rintro e w1 ⟨rfl, hC⟩; dsimp only; (try clear pka0 pka1 pka2 pka3 pka4); replace ka := ka.on hC; replace bc := bc.trans (hC.mono bc.size); clear hC; obtain ⟨pka0, pka1, pka2, pka3, pka4⟩ := ka.fiveI) | (go_at_call 7; refine (H0.out _).mono ?_; rintro e w1 ⟨rfl, hC⟩; dsimp only; (try clear pka0 pka1 pka2 pka3 pka4); replace ka := ka.on hC; replace bc := bc.trans (hC.mono bc.size); clear hC; obtain ⟨pka0, pka1, pka2, pka3, pka4⟩ := ka.fiveI))
  have kw := Blk.new w3 25 #[.int .i64 id, .slice A3 n3 c3, .slice B3 m3 d3, .int .i64 life, .int .i64 want]
  have al := Below.al w3 (.cells #[.int .i64 id, .slice A3 n3 c3, .slice B3 m3 d3, .int .i64 life, .int .i64 want] 25)
  have bw := al
  replace ka := ka.on al; replace bc := bc.trans (al.mono bc.size)
  clear al pka0 pka1 pka2 pka3 pka4
  generalize w3.alloc (.cells #[.int .i64 id, .slice A3 n3 c3, .slice B3 m3 d3, .int .i64 life, .int .i64 want] 25) = u1 at *
  obtain ⟨pka0, pka1, pka2, pka3, pka4⟩ := ka.fiveI; obtain ⟨pkw0, pkw1, pkw2, pkw3, pkw4⟩ := kw.fiveI
  go_upto_region 6 with (first | (have _ := hp; go_at_call 23; refine (HS2.out _ bc).mono ?_; rintro e w5 ⟨⟨qA, qn, qc⟩, rfl, hq, hC⟩; dsimp only; replace hp := hp.onI hC; (try clear pka0 pka1 pka2 pka3 pka4 pkw0 pkw1 pkw2 pkw3 pkw4); replace ka := ka.on hC; replace kw := kw.on hC; replace bw := bw.trans (hC.mono bw.size); replace bc := bc.trans (hC.mono bc.size); clear hC; obtain ⟨pka0, pka1, pka2, pka3, pka4⟩ := ka.fiveI; obtain ⟨pkw0, pkw1, pkw2, pkw3, pkw4⟩ := kw.fiveI) | (go_at_call 22; refine (HS1.out _ bc).mono ?_; rintro e w4 ⟨⟨pA, pn, pc⟩, rfl, hp, hC⟩; dsimp only; (try clear pka0 pka1 pka2 pka3 pka4 pkw0 pkw1 pkw2 pkw3 pkw4); replace ka := ka.on hC; replace kw := kw.on hC; replace bw := bw.trans (hC.mono bw.size); replace bc := bc.trans (hC.mono bc.size); clear hC; obtain ⟨pka0, pka1, pka2, pka3, pka4⟩ := ka.fiveI; obtain ⟨pkw0, pkw1, pkw2, pkw3, pkw4⟩ := kw.fiveI))
  have he := bequal_any pA qA pn qn pc qc sS sS _ hp.bn hq.bn hp.by_ hq.by_
  rw [decide_eq_true rfl] at he
  have HE := Lib.hid he; clear he hp hq
  go_upto_region 8 with (first | (go_at_call 24; refine HE.out.mono ?_; rintro e w6 ⟨rfl, rfl⟩; dsimp only))
  go_upto_region 9 with (first | (go_at_call 25; refine (HD1.out _ bc).mono ?_; rintro e w7 ⟨⟨xA1, xn1, xc1⟩, ⟨yA1, yn1, yc1⟩, rfl, hx, hC⟩; dsimp only; (try clear pka0 pka1 pka2 pka3 pka4 pkw0 pkw1 pkw2 pkw3 pkw4); replace ka := ka.on hC; replace kw := kw.on hC; replace bw := bw.trans (hC.mono bw.size); replace bc := bc.trans (hC.mono bc.size); clear hC; obtain ⟨pka0, pka1, pka2, pka3, pka4⟩ := ka.fiveI; obtain ⟨pkw0, pkw1, pkw2, pkw3, pkw4⟩ := kw.fiveI))
  have hlkx := kw.lt
  have kx := Blk.new w7 25 #[.int .i64 iD, .slice xA1 xn1 xc1, .slice yA1 yn1 yc1, .int .i64 lD, .int .i64 tD]
  have al := Below.al w7 (.cells #[.int .i64 iD, .slice xA1 xn1 xc1, .slice yA1 yn1 yc1, .int .i64 lD, .int .i64 tD] 25)
  replace ka := ka.on al; replace kw := kw.on al; replace bw := bw.trans (al.mono bw.size); replace hx := hx.on al; replace bc := bc.trans (al.mono bc.size); clear al
  (try clear pka0 pka1 pka2 pka3 pka4 pkw0 pkw1 pkw2 pkw3 pkw4)
  generalize w7.alloc (.cells #[.int .i64 iD, .slice xA1 xn1 xc1, .slice yA1 yn1 yc1, .int .i64 lD, .int .i64 tD] 25) = u2 at *
  generalize w7.heap.size = gx at *
  clear w7
  obtain ⟨pka0, pka1, pka2, pka3, pka4⟩ := ka.fiveI; obtain ⟨pkw0, pkw1, pkw2, pkw3, pkw4⟩ := kw.fiveI; obtain ⟨pkx0, pkx1, pkx2, pkx3, pkx4⟩ := kx.fiveI
  have hlbx := kx.lt
  go_upto_region 10 with (first | (go_at_call 26; refine (HD2.out _ bc).mono ?_; rintro e w8 ⟨⟨xA2, xn2, xc2⟩, ⟨yA2, yn2, yc2⟩, rfl, hy, hC⟩; dsimp only; (try clear pka0 pka1 pka2 pka3 pka4 pkw0 pkw1 pkw2 pkw3 pkw4 pkx0 pkx1 pkx2 pkx3 pkx4); replace ka := ka.on hC; replace kw := kw.on hC; replace kx := kx.on hC; replace hx := hx.on hC; replace bw := bw.trans (hC.mono bw.size); replace bc := bc.trans (hC.mono bc.size); clear hC; obtain ⟨pka0, pka1, pka2, pka3, pka4⟩ := ka.fiveI; obtain ⟨pkw0, pkw1, pkw2, pkw3, pkw4⟩ := kw.fiveI; obtain ⟨pkx0, pkx1, pkx2, pkx3, pkx4⟩ := kx.fiveI))
  have hlky := kx.lt
  have ky := Blk.new w8 25 #[.int .i64 iD, .slice xA2 xn2 xc2, .slice yA2 yn2 yc2, .int .i64 lD, .int .i64 tD]
  have al := Below.al w8 (.cells #[.int .i64 iD, .slice xA2 xn2 xc2, .slice yA2 yn2 yc2, .int .i64 lD, .int .i64 tD] 25)
  replace ka := ka.on al; replace kw := kw.on al; replace kx := kx.on al; replace hx := hx.on al; replace bw := bw.trans (al.mono bw.size); replace hy := hy.on al; replace bc := bc.trans (al.mono bc.size); clear al
  (try clear pka0 pka1 pka2 pka3 pka4 pkw0 pkw1 pkw2 pkw3 pkw4 pkx0 pkx1 pkx2 pkx3 pkx4)
  generalize w8.alloc (.cells #[.int .i64 iD, .slice xA2 xn2 xc2, .slice yA2 yn2 yc2, .int .i64 lD, .int .i64 tD] 25) = u3 at *
  generalize w8.heap.size = gy at *
  clear w8
  obtain ⟨pka0, pka1, pka2, pka3, pka4⟩ := ka.fiveI; obtain ⟨pkw0, pkw1, pkw2, pkw3, pkw4⟩ := kw.fiveI; obtain ⟨pkx0, pkx1, pkx2, pkx3, pkx4⟩ := kx.fiveI; obtain ⟨pky0, pky1, pky2, pky3, pky4⟩ := ky.fiveI
  have hxm : yn1 ≤ 1048576 := by have h1 := hx.ok.mn; have h2 := F1.out; dsimp only at h1 h2; omega
  obtain ⟨pka0, pka1, pka2, pka3, pka4⟩ := ka.fiveI; obtain ⟨pkw0, pkw1, pkw2, pkw3, pkw4⟩ := kw.fiveI; obtain ⟨pkx0, pkx1, pkx2, pkx3, pkx4⟩ := kx.fiveI; obtain ⟨pky0, pky1, pky2, pky3, pky4⟩ := ky.fiveI
  go_upto_region 12 with (first | (go_at_call 12; with_reducible refine (HS5D.out _ _ _ _ _ hx.ok hy.ok hxm).mono ?_; rintro e u4 ⟨rfl, hC⟩; dsimp only; (try clear pka0 pka1 pka2 pka3 pka4 pkw0 pkw1 pkw2 pkw3 pkw4 pkx0 pkx1 pkx2 pkx3 pkx4 pky0 pky1 pky2 pky3 pky4); replace ka := ka.on hC; replace kw := kw.on hC; replace kx := kx.on hC; replace ky := ky.on hC; replace hx := hx.on hC; replace hy := hy.on hC; replace bw := bw.trans (hC.mono bw.size); replace bc := bc.trans (hC.mono bc.size); clear hC; obtain ⟨pka0, pka1, pka2, pka3, pka4⟩ := ka.fiveI; obtain ⟨pkw0, pkw1, pkw2, pkw3, pkw4⟩ := kw.fiveI; obtain ⟨pkx0, pkx1, pkx2, pkx3, pkx4⟩ := kx.fiveI; obtain ⟨pky0, pky1, pky2, pky3, pky4⟩ := ky.fiveI))
  clear hxm; (try clear pka0 pka1 pka2 pka3 pka4 pkw0 pkw1 pkw2 pkw3 pkw4 pkx0 pkx1 pkx2 pkx3 pkx4 pky0 pky1 pky2 pky3 pky4)
  clear hx
  have hb_x_u5 := kx.lt; have hb_y_u5 := ky.lt
  obtain ⟨pka0, pka1, pka2, pka3, pka4⟩ := ka.fiveI; obtain ⟨pkw0, pkw1, pkw2, pkw3, pkw4⟩ := kw.fiveI; obtain ⟨pkx0, pkx1, pkx2, pkx3, pkx4⟩ := kx.fiveI; obtain ⟨pky0, pky1, pky2, pky3, pky4⟩ := ky.fiveI
  obtain ⟨fx0, fx1, fx2, fx3, fx4⟩ := kx.fiveFI; obtain ⟨fy0, fy1, fy2, fy3, fy4⟩ := ky.fiveFI
  go_upto_region 13 with (first | (go_at_call 27; refine (HR1.out _ bc).mono ?_; rintro e w9 ⟨⟨xA1, xn1, xc1⟩, ⟨yA1, yn1, yc1⟩, rfl, hx, hC⟩; dsimp only; (try clear pka0 pka1 pka2 pka3 pka4 pkw0 pkw1 pkw2 pkw3 pkw4 pkx0 pkx1 pkx2 pkx3 pkx4 pky0 pky1 pky2 pky3 pky4); replace ka := ka.on hC; replace kw := kw.on hC; replace kx := kx.on hC; replace ky := ky.on hC; replace hy := hy.on hC; replace bw := bw.trans (hC.mono bw.size); replace bc := bc.trans (hC.mono bc.size); clear hC; obtain ⟨pka0, pka1, pka2, pka3, pka4⟩ := ka.fiveI; obtain ⟨pkw0, pkw1, pkw2, pkw3, pkw4⟩ := kw.fiveI; obtain ⟨pkx0, pkx1, pkx2, pkx3, pkx4⟩ := kx.fiveI; obtain ⟨pky0, pky1, pky2, pky3, pky4⟩ := ky.fiveI; (try clear fx0 fx1 fx2 fx3 fx4 fy0 fy1 fy2 fy3 fy4); obtain ⟨fx0, fx1, fx2, fx3, fx4⟩ := kx.fiveFI; obtain ⟨fy0, fy1, fy2, fy3, fy4⟩ := ky.fiveFI))
  have hq_ := hx.put (grown5I w9 gx (.int .i64 iR) (.slice xA1 xn1 xc1) (.slice yA1 yn1 yc1) (.int .i64 lR) (.int .i64 tR)) hb_x_u5
  (try clear fx0 fx1 fx2 fx3 fx4 fy0 fy1 fy2 fy3 fy4)
  have hG := grown5I w9 (gx) (.int .i64 iR) (.slice xA1 xn1 xc1) (.slice yA1 yn1 yc1) (.int .i64 lR) (.int .i64 tR)
  replace ka := ka.grown hG (some_ne (by omega))
  replace kw := kw.grown hG (some_ne (by omega))
  replace ky := ky.grown hG (some_ne (by omega))
  replace hy := hy.put hG (by omega)
  replace bc := Below.off bc bc.size (by omega) hG
  replace bw := Below.off bw bw.size (by omega) hG
  replace kx := kx.put5I (.int .i64 iR) (.slice xA1 xn1 xc1) (.slice yA1 yn1 yc1) (.int .i64 lR) (.int .i64 tR)
  clear hG
  (try clear pka0 pka1 pka2 pka3 pka4 pkw0 pkw1 pkw2 pkw3 pkw4 pkx0 pkx1 pkx2 pkx3 pkx4 pky0 pky1 pky2 pky3 pky4)
  generalize ((((w9.setCell ⟨gx, 0, none⟩ (.int .i64 iR)).setCell ⟨gx, 1, none⟩ (.slice xA1 xn1 xc1)).setCell ⟨gx, 2, none⟩ (.slice yA1 yn1 yc1)).setCell ⟨gx, 3, none⟩ (.int .i64 lR)).setCell ⟨gx, 4, none⟩ (.int .i64 tR) = u5 at *
  replace hx := hq_; clear hq_
  clear hy
  have hb_x_u6 := kx.lt; have hb_y_u6 := ky.lt
  obtain ⟨pka0, pka1, pka2, pka3, pka4⟩ := ka.fiveI; obtain ⟨pkw0, pkw1, pkw2, pkw3, pkw4⟩ := kw.fiveI; obtain ⟨pkx0, pkx1, pkx2, pkx3, pkx4⟩ := kx.fiveI; obtain ⟨pky0, pky1, pky2, pky3, pky4⟩ := ky.fiveI
  obtain ⟨fx0, fx1, fx2, fx3, fx4⟩ := kx.fiveFI; obtain ⟨fy0, fy1, fy2, fy3, fy4⟩ := ky.fiveFI
  go_upto_region 14 with (first | (go_at_call 28; refine (HR2.out _ bc).mono ?_; rintro e w10 ⟨⟨xA2, xn2, xc2⟩, ⟨yA2, yn2, yc2⟩, rfl, hy, hC⟩; dsimp only; (try clear pka0 pka1 pka2 pka3 pka4 pkw0 pkw1 pkw2 pkw3 pkw4 pkx0 pkx1 pkx2 pkx3 pkx4 pky0 pky1 pky2 pky3 pky4); replace ka := ka.on hC; replace kw := kw.on hC; replace kx := kx.on hC; replace ky := ky.on hC; replace hx := hx.on hC; replace bw := bw.trans (hC.mono bw.size); replace bc := bc.trans (hC.mono bc.size); clear hC; obtain ⟨pka0, pka1, pka2, pka3, pka4⟩ := ka.fiveI; obtain ⟨pkw0, pkw1, pkw2, pkw3, pkw4⟩ := kw.fiveI; obtain ⟨pkx0, pkx1, pkx2, pkx3, pkx4⟩ := kx.fiveI; obtain ⟨pky0, pky1, pky2, pky3, pky4⟩ := ky.fiveI; (try clear fx0 fx1 fx2 fx3 fx4 fy0 fy1 fy2 fy3 fy4); obtain ⟨fx0, fx1, fx2, fx3, fx4⟩ := kx.fiveFI; obtain ⟨fy0, fy1, fy2, fy3, fy4⟩ := ky.fiveFI))
  have hq_ := hy.put (grown5I w10 gy (.int .i64 iR) (.slice xA2 xn2 xc2) (.slice yA2 yn2 yc2) (.int .i64 lR) (.int .i64 tR)) hb_y_u6
  (try clear fx0 fx1 fx2 fx3 fx4 fy0 fy1 fy2 fy3 fy4)
  have hG := grown5I w10 (gy) (.int .i64 iR) (.slice xA2 xn2 xc2) (.slice yA2 yn2 yc2) (.int .i64 lR) (.int .i64 tR)
  replace ka := ka.grown hG (some_ne (by omega))
  replace kw := kw.grown hG (some_ne (by omega))
  replace kx := kx.grown hG (some_ne (by omega))
  replace hx := hx.put hG (by omega)
  replace bc := Below.off bc bc.size (by omega) hG
  replace bw := Below.off bw bw.size (by omega) hG
  replace ky := ky.put5I (.int .i64 iR) (.slice xA2 xn2 xc2) (.slice yA2 yn2 yc2) (.int .i64 lR) (.int .i64 tR)
  clear hG
  (try clear pka0 pka1 pka2 pka3 pka4 pkw0 pkw1 pkw2 pkw3 pkw4 pkx0 pkx1 pkx2 pkx3 pkx4 pky0 pky1 pky2 pky3 pky4)
  generalize ((((w10.setCell ⟨gy, 0, none⟩ (.int .i64 iR)).setCell ⟨gy, 1, none⟩ (.slice xA2 xn2 xc2)).setCell ⟨gy, 2, none⟩ (.slice yA2 yn2 yc2)).setCell ⟨gy, 3, none⟩ (.int .i64 lR)).setCell ⟨gy, 4, none⟩ (.int .i64 tR) = u6 at *
  replace hy := hq_; clear hq_
  have hxm : yn1 ≤ 1048576 := by have h1 := hx.ok.mn; have h2 := F2.out; dsimp only at h1 h2; omega
  obtain ⟨pka0, pka1, pka2, pka3, pka4⟩ := ka.fiveI; obtain ⟨pkw0, pkw1, pkw2, pkw3, pkw4⟩ := kw.fiveI; obtain ⟨pkx0, pkx1, pkx2, pkx3, pkx4⟩ := kx.fiveI; obtain ⟨pky0, pky1, pky2, pky3, pky4⟩ := ky.fiveI
  go_upto_region 15 with (first | (go_at_call 29; refine (HF2.out _ bc hm6).mono ?_; rintro e u7 ⟨v, rfl, hrow, hC⟩; dsimp only; (try clear pka0 pka1 pka2 pka3 pka4 pkw0 pkw1 pkw2 pkw3 pkw4 pkx0 pkx1 pkx2 pkx3 pkx4 pky0 pky1 pky2 pky3 pky4); replace ka := ka.on hC; replace kw := kw.on hC; replace kx := kx.on hC; replace ky := ky.on hC; replace hx := hx.on hC; replace hy := hy.on hC; replace bw := bw.trans (hC.mono bw.size); replace bc := bc.trans (hC.mono bc.size); clear hC; obtain ⟨pka0, pka1, pka2, pka3, pka4⟩ := ka.fiveI; obtain ⟨pkw0, pkw1, pkw2, pkw3, pkw4⟩ := kw.fiveI; obtain ⟨pkx0, pkx1, pkx2, pkx3, pkx4⟩ := kx.fiveI; obtain ⟨pky0, pky1, pky2, pky3, pky4⟩ := ky.fiveI))
  obtain ⟨A2, cp2, rfl, hc2, hcm, hcn, hI2⟩ := own_intsI hrow
  clear hrow
  (try clear pka0 pka1 pka2 pka3 pka4 pkw0 pkw1 pkw2 pkw3 pkw4 pkx0 pkx1 pkx2 pkx3 pkx4 pky0 pky1 pky2 pky3 pky4)
  go_cut [21] from 89 to 97 (fun p wx => p = .bool av ∧ Below u7.heap.size u7 wx)
  case first =>
    obtain ⟨p0, p1, p2, p3, p4⟩ := ka.fiveI
    by_cases hc : ck = 0
    · have dl := HV1.out hc
      subst hc
      clear HV0 HV1
      go_wp2_with (first | (go_at_call 14; refine (HK.out _ bc).mono ?_; rintro e w11 ⟨rfl, hC⟩; dsimp only; clear p0 p1 p2 p3 p4; have ka9 := ka.on hC; obtain ⟨p0, p1, p2, p3, p4⟩ := ka9.fiveI))
      go_meet
      exact ⟨rfl, hC⟩
    · have dl : (ck == 0) = false := by simpa using hc
      obtain rfl := HV0.out hc
      clear HV0 HV1
      go_wp2_with (first | (go_at_call 14; refine (HK.out _ bc).mono ?_; rintro e w11 ⟨rfl, hC⟩; dsimp only; clear p0 p1 p2 p3 p4))
      go_meet
      exact ⟨rfl, hC⟩
  case rest =>
    obtain ⟨rfl, hC⟩ := hcut
    replace ka := ka.on hC; replace kw := kw.on hC; replace kx := kx.on hC; replace ky := ky.on hC; replace hx := hx.on hC; replace hy := hy.on hC; replace bw := bw.trans (hC.mono bw.size); replace bc := bc.trans (hC.mono bc.size)
    replace hI2 := (hI2.below hC).mono hC.size
    clear hC HV0 HV1 HK
    go_upto_region 16 with fail
    have hcut := intsI_cut hI2 mo
    rw [show (intsI ln).take mo = intsI (ln.take mo) by unfold intsI; rw [List.map_take]] at hcut
    have hnl : ln.length = (intsI ln).length := by unfold intsI; rw [List.length_map]
    have hql : (ln.take mo).length = (intsI (ln.take mo)).length := by unfold intsI; rw [List.length_map]
    have hqm : (ln.take mo).length = min mo ln.length := by rw [List.length_take]
    have hl9 := HL8.out
    generalize intsI ln = L1 at *
    generalize intsI (ln.take mo) = L2 at *
    generalize (ln.take mo).length = qn at *
    generalize ln.length = nl at *
    have HNL := Lib.hid hnl; have HQL := Lib.hid hql; clear hnl hql
    have hm1 : nl ≤ maxLen := by unfold maxLen; omega
    have hm2 : qn ≤ maxLen := by unfold maxLen; omega
    have HM1 := Lib.hid hm1; have HM2 := Lib.hid hm2; clear hm1 hm2
    have hmo := HMO.out
    have wmo : IntKind.i64.wrap (mo : Int) = (mo : Int) := IntWalk.i64_in _ (by omega)
    have hqm2 : qn = if mo < nl then mo else nl := by rw [hqm]; split <;> omega
    clear hqm hl9 hmo hcm hcn
    have hdr : Below wc.heap.size wc wc.drew := (Below.refl _ _).drew
    replace ka := ka.on hdr; replace kw := kw.on hdr; replace kx := kx.on hdr; replace ky := ky.on hdr; replace hx := hx.on hdr; replace hy := hy.on hdr; replace bw := bw.trans (hdr.mono bw.size); replace bc := bc.trans (hdr.mono bc.size)
    replace hI2 := (hI2.below hdr).mono hdr.size; replace hcut := (hcut.below hdr).mono hdr.size
    clear hdr
    obtain ⟨pka0, pka1, pka2, pka3, pka4⟩ := ka.fiveI; obtain ⟨pkw0, pkw1, pkw2, pkw3, pkw4⟩ := kw.fiveI; obtain ⟨pkx0, pkx1, pkx2, pkx3, pkx4⟩ := kx.fiveI; obtain ⟨pky0, pky1, pky2, pky3, pky4⟩ := ky.fiveI
    have hxr := hxm
    by_cases hlt : mo < nl
    rotate_left
    · obtain rfl : qn = nl := by rw [hqm2, if_neg hlt]
      clear hqm2
      have hs0 : (0 : Int) ≤ (qn : Int) := by omega
      have hs1 : (qn : Int) ≤ (cp2 : Int) := by omega
      have hs2 : min (qn : Int) (mo : Int) = (qn : Int) := by omega
      go_region_held3 (fun w' => w'.cell? ⟨w.heap.size, 0, none⟩ = some (.int .i64 id) ∧ w'.cell? ⟨w.heap.size, 1, none⟩ = some (.slice A n c) ∧ w'.cell? ⟨w.heap.size, 2, none⟩ = some (.slice B m d) ∧ w'.cell? ⟨w.heap.size, 3, none⟩ = some (.int .i64 life) ∧ w'.cell? ⟨w.heap.size, 4, none⟩ = some (.int .i64 want) ∧ w'.cell? ⟨w3.heap.size, 0, none⟩ = some (.int .i64 id) ∧ w'.cell? ⟨w3.heap.size, 1, none⟩ = some (.slice A3 n3 c3) ∧ w'.cell? ⟨w3.heap.size, 2, none⟩ = some (.slice B3 m3 d3) ∧ w'.cell? ⟨w3.heap.size, 3, none⟩ = some (.int .i64 life) ∧ w'.cell? ⟨w3.heap.size, 4, none⟩ = some (.int .i64 want) ∧ w'.cell? ⟨gx, 0, none⟩ = some (.int .i64 iR) ∧ w'.cell? ⟨gx, 1, none⟩ = some (.slice xA1 xn1 xc1) ∧ w'.cell? ⟨gx, 2, none⟩ = some (.slice yA1 yn1 yc1) ∧ w'.cell? ⟨gx, 3, none⟩ = some (.int .i64 lR) ∧ w'.cell? ⟨gx, 4, none⟩ = some (.int .i64 tR) ∧ w'.cell? ⟨gy, 0, none⟩ = some (.int .i64 iR) ∧ w'.cell? ⟨gy, 1, none⟩ = some (.slice xA2 xn2 xc2) ∧ w'.cell? ⟨gy, 2, none⟩ = some (.slice yA2 yn2 yc2) ∧ w'.cell? ⟨gy, 3, none⟩ = some (.int .i64 lR) ∧ w'.cell? ⟨gy, 4, none⟩ = some (.int .i64 tR)) (first | exact ⟨pka0, pka1, pka2, pka3, pka4, pkw0, pkw1, pkw2, pkw3, pkw4, pkx0, pkx1, pkx2, pkx3, pkx4, pky0, pky1, pky2, pky3, pky4⟩) (first
        | (have _ := hmk8; go_at_call 12; with_reducible refine (HS4.out _ _ _ bc hm6 ((hwas.below bw).mono bw.size)).mono ?_; rintro e w9 ⟨rfl, hC⟩; dsimp only; (try clear pka0 pka1 pka2 pka3 pka4 pkw0 pkw1 pkw2 pkw3 pkw4 pkx0 pkx1 pkx2 pkx3 pkx4 pky0 pky1 pky2 pky3 pky4); replace hI2 := (hI2.below hC).mono hC.size; replace hcut := (hcut.below hC).mono hC.size; replace ka := ka.on hC; replace kw := kw.on hC; replace kx := kx.on hC; replace ky := ky.on hC; replace hx := hx.on hC; replace hy := hy.on hC; replace bw := bw.trans (hC.mono bw.size); replace bc := bc.trans (hC.mono bc.size); clear hC; obtain ⟨pka0, pka1, pka2, pka3, pka4⟩ := ka.fiveI; obtain ⟨pkw0, pkw1, pkw2, pkw3, pkw4⟩ := kw.fiveI; obtain ⟨pkx0, pkx1, pkx2, pkx3, pkx4⟩ := kx.fiveI; obtain ⟨pky0, pky1, pky2, pky3, pky4⟩ := ky.fiveI)
        | (have _ := hmk7; go_at_call 33; with_reducible refine (HAL.out _ bc).mono ?_; rintro e w9 ⟨rfl, hC⟩; have hmk8 : True := trivial; dsimp only; (try clear pka0 pka1 pka2 pka3 pka4 pkw0 pkw1 pkw2 pkw3 pkw4 pkx0 pkx1 pkx2 pkx3 pkx4 pky0 pky1 pky2 pky3 pky4); replace hI2 := (hI2.below hC).mono hC.size; replace hcut := (hcut.below hC).mono hC.size; replace ka := ka.on hC; replace kw := kw.on hC; replace kx := kx.on hC; replace ky := ky.on hC; replace hx := hx.on hC; replace hy := hy.on hC; replace bw := bw.trans (hC.mono bw.size); replace bc := bc.trans (hC.mono bc.size); clear hC; obtain ⟨pka0, pka1, pka2, pka3, pka4⟩ := ka.fiveI; obtain ⟨pkw0, pkw1, pkw2, pkw3, pkw4⟩ := kw.fiveI; obtain ⟨pkx0, pkx1, pkx2, pkx3, pkx4⟩ := kx.fiveI; obtain ⟨pky0, pky1, pky2, pky3, pky4⟩ := ky.fiveI)
        | (have _ := hB2; go_at_call 30; with_reducible refine (isame12_yes _ _ _ _ _ L2 _ HQL.out HM2.out hB2 hcut).mono ?_; rintro e w9 ⟨rfl, hC⟩; clear hB2; have hmk7 : True := trivial; dsimp only; (try clear pka0 pka1 pka2 pka3 pka4 pkw0 pkw1 pkw2 pkw3 pkw4 pkx0 pkx1 pkx2 pkx3 pkx4 pky0 pky1 pky2 pky3 pky4); replace hI2 := (hI2.below hC).mono hC.size; replace hcut := (hcut.below hC).mono hC.size; replace ka := ka.on hC; replace kw := kw.on hC; replace kx := kx.on hC; replace ky := ky.on hC; replace hx := hx.on hC; replace hy := hy.on hC; replace bw := bw.trans (hC.mono bw.size); replace bc := bc.trans (hC.mono bc.size); clear hC; obtain ⟨pka0, pka1, pka2, pka3, pka4⟩ := ka.fiveI; obtain ⟨pkw0, pkw1, pkw2, pkw3, pkw4⟩ := kw.fiveI; obtain ⟨pkx0, pkx1, pkx2, pkx3, pkx4⟩ := kx.fiveI; obtain ⟨pky0, pky1, pky2, pky3, pky4⟩ := ky.fiveI)
        | (have _ := HE2; go_at_call 31; with_reducible refine (H12.out _ _ _ HE2.out HT2.out).mono ?_; rintro e w9 ⟨B2, d2, rfl, hB2, hC⟩; clear HE2 HT2; dsimp only; (try clear pka0 pka1 pka2 pka3 pka4 pkw0 pkw1 pkw2 pkw3 pkw4 pkx0 pkx1 pkx2 pkx3 pkx4 pky0 pky1 pky2 pky3 pky4); replace hI2 := (hI2.below hC).mono hC.size; replace hcut := (hcut.below hC).mono hC.size; replace ka := ka.on hC; replace kw := kw.on hC; replace kx := kx.on hC; replace ky := ky.on hC; replace hx := hx.on hC; replace hy := hy.on hC; replace bw := bw.trans (hC.mono bw.size); replace bc := bc.trans (hC.mono bc.size); clear hC; obtain ⟨pka0, pka1, pka2, pka3, pka4⟩ := ka.fiveI; obtain ⟨pkw0, pkw1, pkw2, pkw3, pkw4⟩ := kw.fiveI; obtain ⟨pkx0, pkx1, pkx2, pkx3, pkx4⟩ := kx.fiveI; obtain ⟨pky0, pky1, pky2, pky3, pky4⟩ := ky.fiveI)
        | (have _ := hmk4; go_at_call 32; with_reducible refine (HF1.out _ bc ca).mono ?_; rintro e w9 ⟨gf2, lb2, rfl, hent, htells, hC⟩; have HE2 := Lib.hid hent; have HT2 := Lib.hid htells; clear hent htells; dsimp only; (try clear pka0 pka1 pka2 pka3 pka4 pkw0 pkw1 pkw2 pkw3 pkw4 pkx0 pkx1 pkx2 pkx3 pkx4 pky0 pky1 pky2 pky3 pky4); replace hI2 := (hI2.below hC).mono hC.size; replace hcut := (hcut.below hC).mono hC.size; replace ka := ka.on hC; replace kw := kw.on hC; replace kx := kx.on hC; replace ky := ky.on hC; replace hx := hx.on hC; replace hy := hy.on hC; replace bw := bw.trans (hC.mono bw.size); replace bc := bc.trans (hC.mono bc.size); clear hC; obtain ⟨pka0, pka1, pka2, pka3, pka4⟩ := ka.fiveI; obtain ⟨pkw0, pkw1, pkw2, pkw3, pkw4⟩ := kw.fiveI; obtain ⟨pkx0, pkx1, pkx2, pkx3, pkx4⟩ := kx.fiveI; obtain ⟨pky0, pky1, pky2, pky3, pky4⟩ := ky.fiveI)
        | (have _ := hB1; go_at_call 30; with_reducible refine (isame12_yes _ _ _ _ _ L1 _ HNL.out HM1.out hB1 hI2).mono ?_; rintro e w9 ⟨rfl, hC⟩; clear hB1; have hmk4 : True := trivial; dsimp only; (try clear pka0 pka1 pka2 pka3 pka4 pkw0 pkw1 pkw2 pkw3 pkw4 pkx0 pkx1 pkx2 pkx3 pkx4 pky0 pky1 pky2 pky3 pky4); replace hI2 := (hI2.below hC).mono hC.size; replace hcut := (hcut.below hC).mono hC.size; replace ka := ka.on hC; replace kw := kw.on hC; replace kx := kx.on hC; replace ky := ky.on hC; replace hx := hx.on hC; replace hy := hy.on hC; replace bw := bw.trans (hC.mono bw.size); replace bc := bc.trans (hC.mono bc.size); clear hC; obtain ⟨pka0, pka1, pka2, pka3, pka4⟩ := ka.fiveI; obtain ⟨pkw0, pkw1, pkw2, pkw3, pkw4⟩ := kw.fiveI; obtain ⟨pkx0, pkx1, pkx2, pkx3, pkx4⟩ := kx.fiveI; obtain ⟨pky0, pky1, pky2, pky3, pky4⟩ := ky.fiveI)
        | (have _ := HE1; go_at_call 31; with_reducible refine (H11.out _ _ _ HE1.out HT1.out).mono ?_; rintro e w9 ⟨B1, d1, rfl, hB1, hC⟩; clear HE1 HT1; dsimp only; (try clear pka0 pka1 pka2 pka3 pka4 pkw0 pkw1 pkw2 pkw3 pkw4 pkx0 pkx1 pkx2 pkx3 pkx4 pky0 pky1 pky2 pky3 pky4); replace hI2 := (hI2.below hC).mono hC.size; replace hcut := (hcut.below hC).mono hC.size; replace ka := ka.on hC; replace kw := kw.on hC; replace kx := kx.on hC; replace ky := ky.on hC; replace hx := hx.on hC; replace hy := hy.on hC; replace bw := bw.trans (hC.mono bw.size); replace bc := bc.trans (hC.mono bc.size); clear hC; obtain ⟨pka0, pka1, pka2, pka3, pka4⟩ := ka.fiveI; obtain ⟨pkw0, pkw1, pkw2, pkw3, pkw4⟩ := kw.fiveI; obtain ⟨pkx0, pkx1, pkx2, pkx3, pkx4⟩ := kx.fiveI; obtain ⟨pky0, pky1, pky2, pky3, pky4⟩ := ky.fiveI)
        | (have _ := hmk1; go_at_call 32; with_reducible refine (HF1.out _ bc ca).mono ?_; rintro e w9 ⟨gf1, lb1, rfl, hent, htells, hC⟩; have HE1 := Lib.hid hent; have HT1 := Lib.hid htells; clear hent htells; dsimp only; (try clear pka0 pka1 pka2 pka3 pka4 pkw0 pkw1 pkw2 pkw3 pkw4 pkx0 pkx1 pkx2 pkx3 pkx4 pky0 pky1 pky2 pky3 pky4); replace hI2 := (hI2.below hC).mono hC.size; replace hcut := (hcut.below hC).mono hC.size; replace ka := ka.on hC; replace kw := kw.on hC; replace kx := kx.on hC; replace ky := ky.on hC; replace hx := hx.on hC; replace hy := hy.on hC; replace bw := bw.trans (hC.mono bw.size); replace bc := bc.trans (hC.mono bc.size); clear hC; obtain ⟨pka0, pka1, pka2, pka3, pka4⟩ := ka.fiveI; obtain ⟨pkw0, pkw1, pkw2, pkw3, pkw4⟩ := kw.fiveI; obtain ⟨pkx0, pkx1, pkx2, pkx3, pkx4⟩ := kx.fiveI; obtain ⟨pky0, pky1, pky2, pky3, pky4⟩ := ky.fiveI)
        | (go_at_call 12; with_reducible refine (HS5R.out _ _ _ _ _ hx.ok hy.ok hxr).mono ?_; rintro e w9 ⟨rfl, hC⟩; have hmk1 : True := trivial; dsimp only; (try clear pka0 pka1 pka2 pka3 pka4 pkw0 pkw1 pkw2 pkw3 pkw4 pkx0 pkx1 pkx2 pkx3 pkx4 pky0 pky1 pky2 pky3 pky4); replace hI2 := (hI2.below hC).mono hC.size; replace hcut := (hcut.below hC).mono hC.size; replace ka := ka.on hC; replace kw := kw.on hC; replace kx := kx.on hC; replace ky := ky.on hC; replace hx := hx.on hC; replace hy := hy.on hC; replace bw := bw.trans (hC.mono bw.size); replace bc := bc.trans (hC.mono bc.size); clear hC; obtain ⟨pka0, pka1, pka2, pka3, pka4⟩ := ka.fiveI; obtain ⟨pkw0, pkw1, pkw2, pkw3, pkw4⟩ := kw.fiveI; obtain ⟨pkx0, pkx1, pkx2, pkx3, pkx4⟩ := kx.fiveI; obtain ⟨pky0, pky1, pky2, pky3, pky4⟩ := ky.fiveI))
      all_goals
        go_wp2
        go_ret
        exact ⟨rfl, bc⟩
    obtain rfl : qn = mo := by rw [hqm2, if_pos hlt]
    clear hqm2
    have hs0 : (0 : Int) ≤ (qn : Int) := by omega
    have hs1 : (qn : Int) ≤ (cp2 : Int) := by omega
    have hs2 : min (nl : Int) (qn : Int) = (qn : Int) := by omega
    go_region_held3 (fun w' => w'.cell? ⟨w.heap.size, 0, none⟩ = some (.int .i64 id) ∧ w'.cell? ⟨w.heap.size, 1, none⟩ = some (.slice A n c) ∧ w'.cell? ⟨w.heap.size, 2, none⟩ = some (.slice B m d) ∧ w'.cell? ⟨w.heap.size, 3, none⟩ = some (.int .i64 life) ∧ w'.cell? ⟨w.heap.size, 4, none⟩ = some (.int .i64 want) ∧ w'.cell? ⟨w3.heap.size, 0, none⟩ = some (.int .i64 id) ∧ w'.cell? ⟨w3.heap.size, 1, none⟩ = some (.slice A3 n3 c3) ∧ w'.cell? ⟨w3.heap.size, 2, none⟩ = some (.slice B3 m3 d3) ∧ w'.cell? ⟨w3.heap.size, 3, none⟩ = some (.int .i64 life) ∧ w'.cell? ⟨w3.heap.size, 4, none⟩ = some (.int .i64 want) ∧ w'.cell? ⟨gx, 0, none⟩ = some (.int .i64 iR) ∧ w'.cell? ⟨gx, 1, none⟩ = some (.slice xA1 xn1 xc1) ∧ w'.cell? ⟨gx, 2, none⟩ = some (.slice yA1 yn1 yc1) ∧ w'.cell? ⟨gx, 3, none⟩ = some (.int .i64 lR) ∧ w'.cell? ⟨gx, 4, none⟩ = some (.int .i64 tR) ∧ w'.cell? ⟨gy, 0, none⟩ = some (.int .i64 iR) ∧ w'.cell? ⟨gy, 1, none⟩ = some (.slice xA2 xn2 xc2) ∧ w'.cell? ⟨gy, 2, none⟩ = some (.slice yA2 yn2 yc2) ∧ w'.cell? ⟨gy, 3, none⟩ = some (.int .i64 lR) ∧ w'.cell? ⟨gy, 4, none⟩ = some (.int .i64 tR)) (first | exact ⟨pka0, pka1, pka2, pka3, pka4, pkw0, pkw1, pkw2, pkw3, pkw4, pkx0, pkx1, pkx2, pkx3, pkx4, pky0, pky1, pky2, pky3, pky4⟩) (first
      | (have _ := hmk8; go_at_call 12; with_reducible refine (HS4.out _ _ _ bc hm6 ((hwas.below bw).mono bw.size)).mono ?_; rintro e w9 ⟨rfl, hC⟩; dsimp only; (try clear pka0 pka1 pka2 pka3 pka4 pkw0 pkw1 pkw2 pkw3 pkw4 pkx0 pkx1 pkx2 pkx3 pkx4 pky0 pky1 pky2 pky3 pky4); replace hI2 := (hI2.below hC).mono hC.size; replace hcut := (hcut.below hC).mono hC.size; replace ka := ka.on hC; replace kw := kw.on hC; replace kx := kx.on hC; replace ky := ky.on hC; replace hx := hx.on hC; replace hy := hy.on hC; replace bw := bw.trans (hC.mono bw.size); replace bc := bc.trans (hC.mono bc.size); clear hC; obtain ⟨pka0, pka1, pka2, pka3, pka4⟩ := ka.fiveI; obtain ⟨pkw0, pkw1, pkw2, pkw3, pkw4⟩ := kw.fiveI; obtain ⟨pkx0, pkx1, pkx2, pkx3, pkx4⟩ := kx.fiveI; obtain ⟨pky0, pky1, pky2, pky3, pky4⟩ := ky.fiveI)
      | (have _ := hmk7; go_at_call 33; with_reducible refine (HAL.out _ bc).mono ?_; rintro e w9 ⟨rfl, hC⟩; have hmk8 : True := trivial; dsimp only; (try clear pka0 pka1 pka2 pka3 pka4 pkw0 pkw1 pkw2 pkw3 pkw4 pkx0 pkx1 pkx2 pkx3 pkx4 pky0 pky1 pky2 pky3 pky4); replace hI2 := (hI2.below hC).mono hC.size; replace hcut := (hcut.below hC).mono hC.size; replace ka := ka.on hC; replace kw := kw.on hC; replace kx := kx.on hC; replace ky := ky.on hC; replace hx := hx.on hC; replace hy := hy.on hC; replace bw := bw.trans (hC.mono bw.size); replace bc := bc.trans (hC.mono bc.size); clear hC; obtain ⟨pka0, pka1, pka2, pka3, pka4⟩ := ka.fiveI; obtain ⟨pkw0, pkw1, pkw2, pkw3, pkw4⟩ := kw.fiveI; obtain ⟨pkx0, pkx1, pkx2, pkx3, pkx4⟩ := kx.fiveI; obtain ⟨pky0, pky1, pky2, pky3, pky4⟩ := ky.fiveI)
      | (have _ := hB2; go_at_call 30; with_reducible refine (isame12_yes _ _ _ _ _ L2 _ HQL.out HM2.out hB2 hcut).mono ?_; rintro e w9 ⟨rfl, hC⟩; clear hB2; have hmk7 : True := trivial; dsimp only; (try clear pka0 pka1 pka2 pka3 pka4 pkw0 pkw1 pkw2 pkw3 pkw4 pkx0 pkx1 pkx2 pkx3 pkx4 pky0 pky1 pky2 pky3 pky4); replace hI2 := (hI2.below hC).mono hC.size; replace hcut := (hcut.below hC).mono hC.size; replace ka := ka.on hC; replace kw := kw.on hC; replace kx := kx.on hC; replace ky := ky.on hC; replace hx := hx.on hC; replace hy := hy.on hC; replace bw := bw.trans (hC.mono bw.size); replace bc := bc.trans (hC.mono bc.size); clear hC; obtain ⟨pka0, pka1, pka2, pka3, pka4⟩ := ka.fiveI; obtain ⟨pkw0, pkw1, pkw2, pkw3, pkw4⟩ := kw.fiveI; obtain ⟨pkx0, pkx1, pkx2, pkx3, pkx4⟩ := kx.fiveI; obtain ⟨pky0, pky1, pky2, pky3, pky4⟩ := ky.fiveI)
      | (have _ := HE2; go_at_call 31; with_reducible refine (H12.out _ _ _ HE2.out HT2.out).mono ?_; rintro e w9 ⟨B2, d2, rfl, hB2, hC⟩; clear HE2 HT2; dsimp only; (try clear pka0 pka1 pka2 pka3 pka4 pkw0 pkw1 pkw2 pkw3 pkw4 pkx0 pkx1 pkx2 pkx3 pkx4 pky0 pky1 pky2 pky3 pky4); replace hI2 := (hI2.below hC).mono hC.size; replace hcut := (hcut.below hC).mono hC.size; replace ka := ka.on hC; replace kw := kw.on hC; replace kx := kx.on hC; replace ky := ky.on hC; replace hx := hx.on hC; replace hy := hy.on hC; replace bw := bw.trans (hC.mono bw.size); replace bc := bc.trans (hC.mono bc.size); clear hC; obtain ⟨pka0, pka1, pka2, pka3, pka4⟩ := ka.fiveI; obtain ⟨pkw0, pkw1, pkw2, pkw3, pkw4⟩ := kw.fiveI; obtain ⟨pkx0, pkx1, pkx2, pkx3, pkx4⟩ := kx.fiveI; obtain ⟨pky0, pky1, pky2, pky3, pky4⟩ := ky.fiveI)
      | (have _ := hmk4; go_at_call 32; with_reducible refine (HF1.out _ bc ca).mono ?_; rintro e w9 ⟨gf2, lb2, rfl, hent, htells, hC⟩; have HE2 := Lib.hid hent; have HT2 := Lib.hid htells; clear hent htells; dsimp only; (try clear pka0 pka1 pka2 pka3 pka4 pkw0 pkw1 pkw2 pkw3 pkw4 pkx0 pkx1 pkx2 pkx3 pkx4 pky0 pky1 pky2 pky3 pky4); replace hI2 := (hI2.below hC).mono hC.size; replace hcut := (hcut.below hC).mono hC.size; replace ka := ka.on hC; replace kw := kw.on hC; replace kx := kx.on hC; replace ky := ky.on hC; replace hx := hx.on hC; replace hy := hy.on hC; replace bw := bw.trans (hC.mono bw.size); replace bc := bc.trans (hC.mono bc.size); clear hC; obtain ⟨pka0, pka1, pka2, pka3, pka4⟩ := ka.fiveI; obtain ⟨pkw0, pkw1, pkw2, pkw3, pkw4⟩ := kw.fiveI; obtain ⟨pkx0, pkx1, pkx2, pkx3, pkx4⟩ := kx.fiveI; obtain ⟨pky0, pky1, pky2, pky3, pky4⟩ := ky.fiveI)
      | (have _ := hB1; go_at_call 30; with_reducible refine (isame12_yes _ _ _ _ _ L1 _ HNL.out HM1.out hB1 hI2).mono ?_; rintro e w9 ⟨rfl, hC⟩; clear hB1; have hmk4 : True := trivial; dsimp only; (try clear pka0 pka1 pka2 pka3 pka4 pkw0 pkw1 pkw2 pkw3 pkw4 pkx0 pkx1 pkx2 pkx3 pkx4 pky0 pky1 pky2 pky3 pky4); replace hI2 := (hI2.below hC).mono hC.size; replace hcut := (hcut.below hC).mono hC.size; replace ka := ka.on hC; replace kw := kw.on hC; replace kx := kx.on hC; replace ky := ky.on hC; replace hx := hx.on hC; replace hy := hy.on hC; replace bw := bw.trans (hC.mono bw.size); replace bc := bc.trans (hC.mono bc.size); clear hC; obtain ⟨pka0, pka1, pka2, pka3, pka4⟩ := ka.fiveI; obtain ⟨pkw0, pkw1, pkw2, pkw3, pkw4⟩ := kw.fiveI; obtain ⟨pkx0, pkx1, pkx2, pkx3, pkx4⟩ := kx.fiveI; obtain ⟨pky0, pky1, pky2, pky3, pky4⟩ := ky.fiveI)
      | (have _ := HE1; go_at_call 31; with_reducible refine (H11.out _ _ _ HE1.out HT1.out).mono ?_; rintro e w9 ⟨B1, d1, rfl, hB1, hC⟩; clear HE1 HT1; dsimp only; (try clear pka0 pka1 pka2 pka3 pka4 pkw0 pkw1 pkw2 pkw3 pkw4 pkx0 pkx1 pkx2 pkx3 pkx4 pky0 pky1 pky2 pky3 pky4); replace hI2 := (hI2.below hC).mono hC.size; replace hcut := (hcut.below hC).mono hC.size; replace ka := ka.on hC; replace kw := kw.on hC; replace kx := kx.on hC; replace ky := ky.on hC; replace hx := hx.on hC; replace hy := hy.on hC; replace bw := bw.trans (hC.mono bw.size); replace bc := bc.trans (hC.mono bc.size); clear hC; obtain ⟨pka0, pka1, pka2, pka3, pka4⟩ := ka.fiveI; obtain ⟨pkw0, pkw1, pkw2, pkw3, pkw4⟩ := kw.fiveI; obtain ⟨pkx0, pkx1, pkx2, pkx3, pkx4⟩ := kx.fiveI; obtain ⟨pky0, pky1, pky2, pky3, pky4⟩ := ky.fiveI)
      | (have _ := hmk1; go_at_call 32; with_reducible refine (HF1.out _ bc ca).mono ?_; rintro e w9 ⟨gf1, lb1, rfl, hent, htells, hC⟩; have HE1 := Lib.hid hent; have HT1 := Lib.hid htells; clear hent htells; dsimp only; (try clear pka0 pka1 pka2 pka3 pka4 pkw0 pkw1 pkw2 pkw3 pkw4 pkx0 pkx1 pkx2 pkx3 pkx4 pky0 pky1 pky2 pky3 pky4); replace hI2 := (hI2.below hC).mono hC.size; replace hcut := (hcut.below hC).mono hC.size; replace ka := ka.on hC; replace kw := kw.on hC; replace kx := kx.on hC; replace ky := ky.on hC; replace hx := hx.on hC; replace hy := hy.on hC; replace bw := bw.trans (hC.mono bw.size); replace bc := bc.trans (hC.mono bc.size); clear hC; obtain ⟨pka0, pka1, pka2, pka3, pka4⟩ := ka.fiveI; obtain ⟨pkw0, pkw1, pkw2, pkw3, pkw4⟩ := kw.fiveI; obtain ⟨pkx0, pkx1, pkx2, pkx3, pkx4⟩ := kx.fiveI; obtain ⟨pky0, pky1, pky2, pky3, pky4⟩ := ky.fiveI)
      | (go_at_call 12; with_reducible refine (HS5R.out _ _ _ _ _ hx.ok hy.ok hxr).mono ?_; rintro e w9 ⟨rfl, hC⟩; have hmk1 : True := trivial; dsimp only; (try clear pka0 pka1 pka2 pka3 pka4 pkw0 pkw1 pkw2 pkw3 pkw4 pkx0 pkx1 pkx2 pkx3 pkx4 pky0 pky1 pky2 pky3 pky4); replace hI2 := (hI2.below hC).mono hC.size; replace hcut := (hcut.below hC).mono hC.size; replace ka := ka.on hC; replace kw := kw.on hC; replace kx := kx.on hC; replace ky := ky.on hC; replace hx := hx.on hC; replace hy := hy.on hC; replace bw := bw.trans (hC.mono bw.size); replace bc := bc.trans (hC.mono bc.size); clear hC; obtain ⟨pka0, pka1, pka2, pka3, pka4⟩ := ka.fiveI; obtain ⟨pkw0, pkw1, pkw2, pkw3, pkw4⟩ := kw.fiveI; obtain ⟨pkx0, pkx1, pkx2, pkx3, pkx4⟩ := kx.fiveI; obtain ⟨pky0, pky1, pky2, pky3, pky4⟩ := ky.fiveI))
    all_goals
      go_wp2
      go_ret
      exact ⟨rfl, bc⟩
end Go.Proofs.Ytnlmpemfpkmodaa
