/-
  The statement of what a host does. Conditions: what the program's functions answer. (Printed by tools/gen12m.py; laid ahead.)
-/
import Derived.Test.YtnlmpemfpkmodaaIL
namespace Go.Proofs.Ytnlmpemfpkmodaa
open Go.RowKit

/-- What of an interface is longer than no call may be handed, but for how many messages there are. -/
def SzIn (c : Cn) : Prop := c.out.length ≤ 140737488351232 ∧ ∀ m ∈ c.ms, m.d.length ≤ 140737488351232

theorem few_new (i q : Int) : (newCn i q).2.ms.length ≤ 8 := by
  unfold newCn
  split
  · simp only [List.length_replicate]; omega
  · exact Nat.zero_le _
theorem few_write (s : Cn) (bs : List UInt8) : (writeCn s bs).2.ms.length ≤ 8 := by
  unfold writeCn
  split
  · rename_i h
    split
    · exact h.1.2.1
    · exact Nat.zero_le _
  · exact Nat.zero_le _
theorem few_beat (s : Cn) : (beatCn s).2.ms.length ≤ 8 := by
  unfold beatCn
  split
  · rename_i h; exact h.1.2.1
  · exact Nat.zero_le _
theorem few_ask (s : Cn) (q : Int) : (askCn s q).2.ms.length ≤ 8 := by
  unfold askCn
  split
  · rename_i h
    split
    · exact h.1.2.1
    · exact Nat.zero_le _
  · exact Nat.zero_le _

set_option maxRecDepth 100000 in
set_option maxHeartbeats 4000000 in
theorem host_law (hN : CniNewC) (hCk : CniCheckC) (hW : CniWriteC) (hBt : CniBeatC) (hAs : CniAskC) (hS : CniSendC) (hSm : CniSameC) (a b : Cn) (va ua vb ub x : Sl3) (i q mo : Int) (bs : List UInt8) (w : World) (ha : CnOk w.heap.size w a va ua) (hb : CnOk w.heap.size w b vb ub) (hx : BOk w.heap.size w bs x) (hz : SzIn a) : Calls Try.prog 3 #[.agg (cCn a va ua), .agg (cCn b vb ub), .int .i64 i, .int .i64 q, .int .i64 mo, .slice x.A x.n x.c] w fun e w' => e = .returned (.bool true) ∧ Below w.heap.size w w' := by
  have h0 := fun U => begun12_any hN hW hS U
  have hfa := fun U => few12_any a va ua U
  have hfb := fun U => few12_any b vb ub U
  have hcl := fun U (h : Below w.heap.size w U) (hm : ua.n ≤ 20) => rclone_any a va ua U (ha.on h) ⟨by have := ha.mn; omega, hz.1, hz.2⟩
  have hn1 := fun U => hN i q U
  have hn2 := fun U => rnewCn_any i q U
  have hk1 := fun U (h : Below w.heap.size w U) => hCk a va ua U (ha.on h)
  have hk2 := fun U (h : Below w.heap.size w U) => rchkCn_any a va ua U (ha.on h)
  have hs1 := fun U (h : Below w.heap.size w U) (hm : ua.n ≤ 1048576) => hSm a b va ua vb ub U (ha.on h) (hb.on h) hm
  have hs2 := fun U (h : Below w.heap.size w U) (hm : ua.n ≤ 1048576) => rsameCn_any a b va ua vb ub U (ha.on h) (hb.on h) hm
  have hs3 := fun U (h : Below w.heap.size w U) (hm : ua.n ≤ 1048576) => hSm a a va ua va ua U (ha.on h) (ha.on h) hm
  have hs4 := fun (v u : Sl3) U (h : Below w.heap.size w U) (hm : ua.n ≤ 1048576) (k : CnOk U.heap.size U a v u) => rsameCn_any a a va ua v u U (ha.on h) k hm
  have hs5 := fun (r : Cn) (v u v' u' : Sl3) U (k : CnOk U.heap.size U r v u) (k' : CnOk U.heap.size U r v' u') (hm : u.n ≤ 1048576) => rsameCn_any r r v u v' u' U k k' hm
  simp only [sameCn_self] at hs3 hs4 hs5
  have hw1 := fun U (h : Below w.heap.size w U) => hW a va ua x bs U (ha.on h) (hx.on h)
  have hw2 := fun U (h : Below w.heap.size w U) => rwriteCn_any a va ua x bs U (ha.on h) (hx.on h)
  have hb1 := fun U (h : Below w.heap.size w U) => hBt a va ua U (ha.on h)
  have hb2 := fun U (h : Below w.heap.size w U) => rbeatCn_any a va ua U (ha.on h)
  have hq1 := fun U (h : Below w.heap.size w U) => hAs a va ua mo U (ha.on h)
  have hq2 := fun U (h : Below w.heap.size w U) => raskCn_any a va ua mo U (ha.on h)
  unfold ResCn at hn1 hn2 hw1 hw2 hb1 hb2 hq1 hq2
  have f1 := few_new i q; have f2 := few_write a bs; have f3 := few_beat a; have f4 := few_ask a mo
  generalize newCn i q = Rn at *
  generalize writeCn a bs = Rw at *
  generalize beatCn a = Rb at *
  generalize askCn a mo = Rq at *
  generalize sameCn a b = sab at *
  generalize chkCn a = cka at *
  clear hN hCk hW hBt hAs hS hSm ha hb hx hz
  obtain ⟨eN, ⟨iN, oN, mN, lN, tN⟩⟩ := Rn
  obtain ⟨eW, ⟨iW, oW, mW, lW, tW⟩⟩ := Rw
  obtain ⟨eB, ⟨iB, oB, mB, lB, tB⟩⟩ := Rb
  obtain ⟨eQ, ⟨iQ, oQ, mQ, lQ, tQ⟩⟩ := Rq
  have hs5n := hs5 ⟨iN, oN, mN, lN, tN⟩
  have hs5w := hs5 ⟨iW, oW, mW, lW, tW⟩
  have hs5b := hs5 ⟨iB, oB, mB, lB, tB⟩
  have hs5q := hs5 ⟨iQ, oQ, mQ, lQ, tQ⟩
  clear hs5
  obtain ⟨id, out, ms, life, want⟩ := a
  obtain ⟨id2, out2, ms2, life2, want2⟩ := b
  obtain ⟨A, n, c⟩ := va
  obtain ⟨B, m, d⟩ := ua
  obtain ⟨A2, n2, c2⟩ := vb
  obtain ⟨B2, m2, d2⟩ := ub
  obtain ⟨xA, xn, xc⟩ := x
  dsimp only [cCn] at *
  have H0 := Lib.hid h0; have HFA := Lib.hid hfa; have HFB := Lib.hid hfb; have HCL := Lib.hid hcl; have HN1 := Lib.hid hn1; have HN2 := Lib.hid hn2; have HK1 := Lib.hid hk1; have HK2 := Lib.hid hk2; have HS1 := Lib.hid hs1; have HS2 := Lib.hid hs2; have HS3 := Lib.hid hs3; have HS4 := Lib.hid hs4; have HS5n := Lib.hid hs5n; have HS5w := Lib.hid hs5w; have HS5b := Lib.hid hs5b; have HS5q := Lib.hid hs5q; have HW1 := Lib.hid hw1; have HW2 := Lib.hid hw2; have HB1 := Lib.hid hb1; have HB2 := Lib.hid hb2; have HQ1 := Lib.hid hq1; have HQ2 := Lib.hid hq2; have F1 := Lib.hid f1; have F2 := Lib.hid f2; have F3 := Lib.hid f3; have F4 := Lib.hid f4
  clear h0 hfa hfb hcl hn1 hn2 hk1 hk2 hs1 hs2 hs3 hs4 hs5n hs5w hs5b hs5q hw1 hw2 hb1 hb2 hq1 hq2 f1 f2 f3 f4
  obtain ⟨ka, kb, bc⟩ := bx2 w #[.int .i64 id, .slice A n c, .slice B m d, .int .i64 life, .int .i64 want] #[.int .i64 id2, .slice A2 n2 c2, .slice B2 m2 d2, .int .i64 life2, .int .i64 want2] 25 25
  obtain ⟨pka0, pka1, pka2, pka3, pka4⟩ := ka.fiveI; obtain ⟨pkb0, pkb1, pkb2, pkb3, pkb4⟩ := kb.fiveI
  by_cases ca : m ≤ 20
  rotate_left
  · have dd : decide (m ≤ 20) = false := by simp; omega
    rw [dd] at HFA
    go_enter Try.func3, Try.ntmps3
    go_wp2_with (first | (go_at_call 8; with_reducible refine (HFA.out _).mono ?_; rintro e w1 ⟨rfl, hC⟩; dsimp only; have hfew : True := trivial; (try clear pka0 pka1 pka2 pka3 pka4 pkb0 pkb1 pkb2 pkb3 pkb4); replace ka := ka.on hC; replace kb := kb.on hC; replace bc := bc.trans (hC.mono bc.size); clear hC; obtain ⟨pka0, pka1, pka2, pka3, pka4⟩ := ka.fiveI; obtain ⟨pkb0, pkb1, pkb2, pkb3, pkb4⟩ := kb.fiveI) | (go_at_call 7; refine (H0.out _).mono ?_; rintro e w1 ⟨rfl, hC⟩; dsimp only; (try clear pka0 pka1 pka2 pka3 pka4 pkb0 pkb1 pkb2 pkb3 pkb4); replace ka := ka.on hC; replace kb := kb.on hC; replace bc := bc.trans (hC.mono bc.size); clear hC; obtain ⟨pka0, pka1, pka2, pka3, pka4⟩ := ka.fiveI; obtain ⟨pkb0, pkb1, pkb2, pkb3, pkb4⟩ := kb.fiveI))
    go_ret
    exact ⟨rfl, bc⟩
  rw [decide_eq_true ca] at HFA
  by_cases cb : m2 ≤ 20
  rotate_left
  · have dd : decide (m2 ≤ 20) = false := by simp; omega
    rw [dd] at HFB
    go_enter Try.func3, Try.ntmps3
    go_wp2_with (first | (have _ := hfew; go_at_call 8; with_reducible refine (HFB.out _).mono ?_; rintro e w1 ⟨rfl, hC⟩; dsimp only; (try clear pka0 pka1 pka2 pka3 pka4 pkb0 pkb1 pkb2 pkb3 pkb4); replace ka := ka.on hC; replace kb := kb.on hC; replace bc := bc.trans (hC.mono bc.size); clear hC; obtain ⟨pka0, pka1, pka2, pka3, pka4⟩ := ka.fiveI; obtain ⟨pkb0, pkb1, pkb2, pkb3, pkb4⟩ := kb.fiveI) | (go_at_call 8; with_reducible refine (HFA.out _).mono ?_; rintro e w1 ⟨rfl, hC⟩; dsimp only; have hfew : True := trivial; (try clear pka0 pka1 pka2 pka3 pka4 pkb0 pkb1 pkb2 pkb3 pkb4); replace ka := ka.on hC; replace kb := kb.on hC; replace bc := bc.trans (hC.mono bc.size); clear hC; obtain ⟨pka0, pka1, pka2, pka3, pka4⟩ := ka.fiveI; obtain ⟨pkb0, pkb1, pkb2, pkb3, pkb4⟩ := kb.fiveI) | (go_at_call 7; refine (H0.out _).mono ?_; rintro e w1 ⟨rfl, hC⟩; dsimp only; (try clear pka0 pka1 pka2 pka3 pka4 pkb0 pkb1 pkb2 pkb3 pkb4); replace ka := ka.on hC; replace kb := kb.on hC; replace bc := bc.trans (hC.mono bc.size); clear hC; obtain ⟨pka0, pka1, pka2, pka3, pka4⟩ := ka.fiveI; obtain ⟨pkb0, pkb1, pkb2, pkb3, pkb4⟩ := kb.fiveI))
    go_ret
    exact ⟨rfl, bc⟩
  rw [decide_eq_true cb] at HFB
  go_enter Try.func3, Try.ntmps3
  go_upto_region 4 with (first | (go_at_call 9; refine (HCL.out _ bc (by omega)).mono ?_; rintro e w3 ⟨⟨A3, n3, c3⟩, ⟨B3, m3, d3⟩, l3, rfl, hw3, hC⟩; dsimp only; have hwas := hw3.cn; clear hw3; (try clear pka0 pka1 pka2 pka3 pka4 pkb0 pkb1 pkb2 pkb3 pkb4); replace ka := ka.on hC; replace kb := kb.on hC; replace bc := bc.trans (hC.mono bc.size); clear hC; have hbz0 := kb.lt; obtain ⟨pka0, pka1, pka2, pka3, pka4⟩ := ka.fiveI; obtain ⟨pkb0, pkb1, pkb2, pkb3, pkb4⟩ := kb.fiveI) | (have _ := hfew; go_at_call 8; with_reducible refine (HFB.out _).mono ?_; rintro e w1 ⟨rfl, hC⟩; dsimp only; (try clear pka0 pka1 pka2 pka3 pka4 pkb0 pkb1 pkb2 pkb3 pkb4); replace ka := ka.on hC; replace kb := kb.on hC; replace bc := bc.trans (hC.mono bc.size); clear hC; obtain ⟨pka0, pka1, pka2, pka3, pka4⟩ := ka.fiveI; obtain ⟨pkb0, pkb1, pkb2, pkb3, pkb4⟩ := kb.fiveI) | (go_at_call 8; with_reducible refine (HFA.out _).mono ?_; rintro e w1 ⟨rfl, hC⟩; dsimp only; have hfew : True := trivial; (try clear pka0 pka1 pka2 pka3 pka4 pkb0 pkb1 pkb2 pkb3 pkb4); replace ka := ka.on hC; replace kb := kb.on hC; replace bc := bc.trans (hC.mono bc.size); clear hC; obtain ⟨pka0, pka1, pka2, pka3, pka4⟩ := ka.fiveI; obtain ⟨pkb0, pkb1, pkb2, pkb3, pkb4⟩ := kb.fiveI) | (go_at_call 7; refine (H0.out _).mono ?_; rintro e w1 ⟨rfl, hC⟩; dsimp only; (try clear pka0 pka1 pka2 pka3 pka4 pkb0 pkb1 pkb2 pkb3 pkb4); replace ka := ka.on hC; replace kb := kb.on hC; replace bc := bc.trans (hC.mono bc.size); clear hC; obtain ⟨pka0, pka1, pka2, pka3, pka4⟩ := ka.fiveI; obtain ⟨pkb0, pkb1, pkb2, pkb3, pkb4⟩ := kb.fiveI))
  have kw := Blk.new w3 25 #[.int .i64 id, .slice A3 n3 c3, .slice B3 m3 d3, .int .i64 life, .int .i64 want]
  have al := Below.al w3 (.cells #[.int .i64 id, .slice A3 n3 c3, .slice B3 m3 d3, .int .i64 life, .int .i64 want] 25)
  have bw := al
  replace ka := ka.on al; replace kb := kb.on al; replace bc := bc.trans (al.mono bc.size); have hbz := kb.lt
  clear al pka0 pka1 pka2 pka3 pka4 pkb0 pkb1 pkb2 pkb3 pkb4
  have hlw0 : w.heap.size + 1 < w3.heap.size := hbz0
  generalize w3.alloc (.cells #[.int .i64 id, .slice A3 n3 c3, .slice B3 m3 d3, .int .i64 life, .int .i64 want] 25) = u1 at *
  obtain ⟨pka0, pka1, pka2, pka3, pka4⟩ := ka.fiveI; obtain ⟨pkb0, pkb1, pkb2, pkb3, pkb4⟩ := kb.fiveI; obtain ⟨pkw0, pkw1, pkw2, pkw3, pkw4⟩ := kw.fiveI
  clear hbz hbz0
  have hlw : w.heap.size + 1 < w3.heap.size := hlw0
  go_upto_region 5 with (first | (go_at_call 10; refine (HN1.out _).mono ?_; rintro e w4 ⟨⟨xA1, xn1, xc1⟩, ⟨yA1, yn1, yc1⟩, rfl, hx, hC⟩; dsimp only; (try clear pka0 pka1 pka2 pka3 pka4 pkb0 pkb1 pkb2 pkb3 pkb4 pkw0 pkw1 pkw2 pkw3 pkw4); replace ka := ka.on hC; replace kb := kb.on hC; replace kw := kw.on hC; replace bw := bw.trans (hC.mono bw.size); replace bc := bc.trans (hC.mono bc.size); clear hC; obtain ⟨pka0, pka1, pka2, pka3, pka4⟩ := ka.fiveI; obtain ⟨pkb0, pkb1, pkb2, pkb3, pkb4⟩ := kb.fiveI; obtain ⟨pkw0, pkw1, pkw2, pkw3, pkw4⟩ := kw.fiveI))
  have hlkx := kw.lt
  have kx := Blk.new w4 25 #[.int .i64 iN, .slice xA1 xn1 xc1, .slice yA1 yn1 yc1, .int .i64 lN, .int .i64 tN]
  have al := Below.al w4 (.cells #[.int .i64 iN, .slice xA1 xn1 xc1, .slice yA1 yn1 yc1, .int .i64 lN, .int .i64 tN] 25)
  replace ka := ka.on al; replace kb := kb.on al; replace kw := kw.on al; replace bw := bw.trans (al.mono bw.size); replace hx := hx.on al; replace bc := bc.trans (al.mono bc.size); clear al
  (try clear pka0 pka1 pka2 pka3 pka4 pkb0 pkb1 pkb2 pkb3 pkb4 pkw0 pkw1 pkw2 pkw3 pkw4)
  generalize w4.alloc (.cells #[.int .i64 iN, .slice xA1 xn1 xc1, .slice yA1 yn1 yc1, .int .i64 lN, .int .i64 tN] 25) = u2 at *
  generalize w4.heap.size = gx at *
  clear w4
  obtain ⟨pka0, pka1, pka2, pka3, pka4⟩ := ka.fiveI; obtain ⟨pkb0, pkb1, pkb2, pkb3, pkb4⟩ := kb.fiveI; obtain ⟨pkw0, pkw1, pkw2, pkw3, pkw4⟩ := kw.fiveI; obtain ⟨pkx0, pkx1, pkx2, pkx3, pkx4⟩ := kx.fiveI
  have hlbx := kx.lt
  go_upto_region 6 with (first | (go_at_call 11; refine (HN2.out _).mono ?_; rintro e w5 ⟨⟨xA2, xn2, xc2⟩, ⟨yA2, yn2, yc2⟩, rfl, hy, hC⟩; dsimp only; (try clear pka0 pka1 pka2 pka3 pka4 pkb0 pkb1 pkb2 pkb3 pkb4 pkw0 pkw1 pkw2 pkw3 pkw4 pkx0 pkx1 pkx2 pkx3 pkx4); replace ka := ka.on hC; replace kb := kb.on hC; replace kw := kw.on hC; replace kx := kx.on hC; replace hx := hx.on hC; replace bw := bw.trans (hC.mono bw.size); replace bc := bc.trans (hC.mono bc.size); clear hC; obtain ⟨pka0, pka1, pka2, pka3, pka4⟩ := ka.fiveI; obtain ⟨pkb0, pkb1, pkb2, pkb3, pkb4⟩ := kb.fiveI; obtain ⟨pkw0, pkw1, pkw2, pkw3, pkw4⟩ := kw.fiveI; obtain ⟨pkx0, pkx1, pkx2, pkx3, pkx4⟩ := kx.fiveI))
  have hlky := kx.lt
  have ky := Blk.new w5 25 #[.int .i64 iN, .slice xA2 xn2 xc2, .slice yA2 yn2 yc2, .int .i64 lN, .int .i64 tN]
  have al := Below.al w5 (.cells #[.int .i64 iN, .slice xA2 xn2 xc2, .slice yA2 yn2 yc2, .int .i64 lN, .int .i64 tN] 25)
  replace ka := ka.on al; replace kb := kb.on al; replace kw := kw.on al; replace kx := kx.on al; replace hx := hx.on al; replace bw := bw.trans (al.mono bw.size); replace hy := hy.on al; replace bc := bc.trans (al.mono bc.size); clear al
  (try clear pka0 pka1 pka2 pka3 pka4 pkb0 pkb1 pkb2 pkb3 pkb4 pkw0 pkw1 pkw2 pkw3 pkw4 pkx0 pkx1 pkx2 pkx3 pkx4)
  generalize w5.alloc (.cells #[.int .i64 iN, .slice xA2 xn2 xc2, .slice yA2 yn2 yc2, .int .i64 lN, .int .i64 tN] 25) = u3 at *
  generalize w5.heap.size = gy at *
  clear w5
  obtain ⟨pka0, pka1, pka2, pka3, pka4⟩ := ka.fiveI; obtain ⟨pkb0, pkb1, pkb2, pkb3, pkb4⟩ := kb.fiveI; obtain ⟨pkw0, pkw1, pkw2, pkw3, pkw4⟩ := kw.fiveI; obtain ⟨pkx0, pkx1, pkx2, pkx3, pkx4⟩ := kx.fiveI; obtain ⟨pky0, pky1, pky2, pky3, pky4⟩ := ky.fiveI
  have hxn : yn1 ≤ 1048576 := by have h1 := hx.ok.mn; have h2 := F1.out; dsimp only at h1 h2; omega
  have hnb : ∀ nw : NearW u3, Below w.heap.size w nw.W := fun nw => bc.trans (nw.h.mono bc.size)
  have hnx : ∀ nw : NearW u3, CnOk nw.W.heap.size nw.W ⟨iN, oN, mN, lN, tN⟩ ⟨xA1, xn1, xc1⟩ ⟨yA1, yn1, yc1⟩ := fun nw => (hx.on nw.h).ok
  have hny : ∀ nw : NearW u3, CnOk nw.W.heap.size nw.W ⟨iN, oN, mN, lN, tN⟩ ⟨xA2, xn2, xc2⟩ ⟨yA2, yn2, yc2⟩ := fun nw => (hy.on nw.h).ok
  obtain ⟨na0, na1, na2, na3, na4⟩ := near_fiveI ka
  obtain ⟨nb0, nb1, nb2, nb3, nb4⟩ := near_fiveI kb
  obtain ⟨nx0, nx1, nx2, nx3, nx4⟩ := near_fiveI kx
  obtain ⟨ny0, ny1, ny2, ny3, ny4⟩ := near_fiveI ky
  have NB := Lib.hid hnb; have NX := Lib.hid hnx; have NY := Lib.hid hny
  clear hnb hnx hny
  have hm6 : m ≤ 1048576 := by omega
  go_wp2_with fail
  refine wp_region_near (by kernel_rfl) (by kernel_rfl) ?_
  repeat (go_big_quiet_step (first
    | (go_at_call 12; first | (with_reducible exact near_call (HS5n.out _ _ _ _ _ (NX.out _) (NY.out _) hxn)) | (with_reducible exact near_call (HS2.out _ (NB.out _) hm6)))
    | (go_at_call 13; with_reducible exact near_call (HK1.out _ (NB.out _)))
    | (go_at_call 14; with_reducible exact near_call (HK2.out _ (NB.out _)))
    | (go_at_call 15; first | (with_reducible exact near_call (HS1.out _ (NB.out _) hm6)) | (with_reducible exact near_call (HS3.out _ (NB.out _) hm6)))))
  refine wpQuiet_nil ?_
  rintro _ ⟨nw, rfl⟩
  have hC := nw.h
  clear na0 na1 na2 na3 na4 nb0 nb1 nb2 nb3 nb4 nx0 nx1 nx2 nx3 nx4 ny0 ny1 ny2 ny3 ny4 NX NY NB
  (try clear pka0 pka1 pka2 pka3 pka4 pkb0 pkb1 pkb2 pkb3 pkb4 pkw0 pkw1 pkw2 pkw3 pkw4 pkx0 pkx1 pkx2 pkx3 pkx4 pky0 pky1 pky2 pky3 pky4)
  replace ka := ka.on hC; replace kb := kb.on hC; replace kw := kw.on hC; replace kx := kx.on hC; replace ky := ky.on hC; replace hx := hx.on hC; replace hy := hy.on hC; replace bw := bw.trans (hC.mono bw.size); replace bc := bc.trans (hC.mono bc.size); clear hC
  generalize nw.W = u4 at *
  clear nw
  go_upto_region 8 with fail
  clear hx
  have hb_x_u6w := kx.lt; have hb_y_u6w := ky.lt
  obtain ⟨pka0, pka1, pka2, pka3, pka4⟩ := ka.fiveI; obtain ⟨pkb0, pkb1, pkb2, pkb3, pkb4⟩ := kb.fiveI; obtain ⟨pkw0, pkw1, pkw2, pkw3, pkw4⟩ := kw.fiveI; obtain ⟨pkx0, pkx1, pkx2, pkx3, pkx4⟩ := kx.fiveI; obtain ⟨pky0, pky1, pky2, pky3, pky4⟩ := ky.fiveI
  obtain ⟨fx0, fx1, fx2, fx3, fx4⟩ := kx.fiveFI; obtain ⟨fy0, fy1, fy2, fy3, fy4⟩ := ky.fiveFI
  go_upto_region 9 with (first | (go_at_call 16; refine (HW1.out _ bc).mono ?_; rintro e w6w ⟨⟨xA1, xn1, xc1⟩, ⟨yA1, yn1, yc1⟩, rfl, hx, hC⟩; dsimp only; (try clear pka0 pka1 pka2 pka3 pka4 pkb0 pkb1 pkb2 pkb3 pkb4 pkw0 pkw1 pkw2 pkw3 pkw4 pkx0 pkx1 pkx2 pkx3 pkx4 pky0 pky1 pky2 pky3 pky4); replace ka := ka.on hC; replace kb := kb.on hC; replace kw := kw.on hC; replace kx := kx.on hC; replace ky := ky.on hC; replace hy := hy.on hC; replace bw := bw.trans (hC.mono bw.size); replace bc := bc.trans (hC.mono bc.size); clear hC; obtain ⟨pka0, pka1, pka2, pka3, pka4⟩ := ka.fiveI; obtain ⟨pkb0, pkb1, pkb2, pkb3, pkb4⟩ := kb.fiveI; obtain ⟨pkw0, pkw1, pkw2, pkw3, pkw4⟩ := kw.fiveI; obtain ⟨pkx0, pkx1, pkx2, pkx3, pkx4⟩ := kx.fiveI; obtain ⟨pky0, pky1, pky2, pky3, pky4⟩ := ky.fiveI; (try clear fx0 fx1 fx2 fx3 fx4 fy0 fy1 fy2 fy3 fy4); obtain ⟨fx0, fx1, fx2, fx3, fx4⟩ := kx.fiveFI; obtain ⟨fy0, fy1, fy2, fy3, fy4⟩ := ky.fiveFI))
  have hq_ := hx.put (grown5I w6w gx (.int .i64 iW) (.slice xA1 xn1 xc1) (.slice yA1 yn1 yc1) (.int .i64 lW) (.int .i64 tW)) hb_x_u6w
  (try clear fx0 fx1 fx2 fx3 fx4 fy0 fy1 fy2 fy3 fy4)
  have hG := grown5I w6w (gx) (.int .i64 iW) (.slice xA1 xn1 xc1) (.slice yA1 yn1 yc1) (.int .i64 lW) (.int .i64 tW)
  replace ka := ka.grown hG (some_ne (by omega))
  replace kb := kb.grown hG (some_ne (by omega))
  replace kw := kw.grown hG (some_ne (by omega))
  replace ky := ky.grown hG (some_ne (by omega))
  replace hy := hy.put hG (by omega)
  replace bc := Below.off bc bc.size (by omega) hG
  replace bw := Below.off bw bw.size (by omega) hG
  replace kx := kx.put5I (.int .i64 iW) (.slice xA1 xn1 xc1) (.slice yA1 yn1 yc1) (.int .i64 lW) (.int .i64 tW)
  clear hG
  (try clear pka0 pka1 pka2 pka3 pka4 pkb0 pkb1 pkb2 pkb3 pkb4 pkw0 pkw1 pkw2 pkw3 pkw4 pkx0 pkx1 pkx2 pkx3 pkx4 pky0 pky1 pky2 pky3 pky4)
  generalize ((((w6w.setCell ⟨gx, 0, none⟩ (.int .i64 iW)).setCell ⟨gx, 1, none⟩ (.slice xA1 xn1 xc1)).setCell ⟨gx, 2, none⟩ (.slice yA1 yn1 yc1)).setCell ⟨gx, 3, none⟩ (.int .i64 lW)).setCell ⟨gx, 4, none⟩ (.int .i64 tW) = u6w at *
  replace hx := hq_; clear hq_
  clear hy
  have hb_x_u7w := kx.lt; have hb_y_u7w := ky.lt
  obtain ⟨pka0, pka1, pka2, pka3, pka4⟩ := ka.fiveI; obtain ⟨pkb0, pkb1, pkb2, pkb3, pkb4⟩ := kb.fiveI; obtain ⟨pkw0, pkw1, pkw2, pkw3, pkw4⟩ := kw.fiveI; obtain ⟨pkx0, pkx1, pkx2, pkx3, pkx4⟩ := kx.fiveI; obtain ⟨pky0, pky1, pky2, pky3, pky4⟩ := ky.fiveI
  obtain ⟨fx0, fx1, fx2, fx3, fx4⟩ := kx.fiveFI; obtain ⟨fy0, fy1, fy2, fy3, fy4⟩ := ky.fiveFI
  go_upto_region 10 with (first | (go_at_call 17; refine (HW2.out _ bc).mono ?_; rintro e w7w ⟨⟨xA2, xn2, xc2⟩, ⟨yA2, yn2, yc2⟩, rfl, hy, hC⟩; dsimp only; (try clear pka0 pka1 pka2 pka3 pka4 pkb0 pkb1 pkb2 pkb3 pkb4 pkw0 pkw1 pkw2 pkw3 pkw4 pkx0 pkx1 pkx2 pkx3 pkx4 pky0 pky1 pky2 pky3 pky4); replace ka := ka.on hC; replace kb := kb.on hC; replace kw := kw.on hC; replace kx := kx.on hC; replace ky := ky.on hC; replace hx := hx.on hC; replace bw := bw.trans (hC.mono bw.size); replace bc := bc.trans (hC.mono bc.size); clear hC; obtain ⟨pka0, pka1, pka2, pka3, pka4⟩ := ka.fiveI; obtain ⟨pkb0, pkb1, pkb2, pkb3, pkb4⟩ := kb.fiveI; obtain ⟨pkw0, pkw1, pkw2, pkw3, pkw4⟩ := kw.fiveI; obtain ⟨pkx0, pkx1, pkx2, pkx3, pkx4⟩ := kx.fiveI; obtain ⟨pky0, pky1, pky2, pky3, pky4⟩ := ky.fiveI; (try clear fx0 fx1 fx2 fx3 fx4 fy0 fy1 fy2 fy3 fy4); obtain ⟨fx0, fx1, fx2, fx3, fx4⟩ := kx.fiveFI; obtain ⟨fy0, fy1, fy2, fy3, fy4⟩ := ky.fiveFI))
  have hq_ := hy.put (grown5I w7w gy (.int .i64 iW) (.slice xA2 xn2 xc2) (.slice yA2 yn2 yc2) (.int .i64 lW) (.int .i64 tW)) hb_y_u7w
  (try clear fx0 fx1 fx2 fx3 fx4 fy0 fy1 fy2 fy3 fy4)
  have hG := grown5I w7w (gy) (.int .i64 iW) (.slice xA2 xn2 xc2) (.slice yA2 yn2 yc2) (.int .i64 lW) (.int .i64 tW)
  replace ka := ka.grown hG (some_ne (by omega))
  replace kb := kb.grown hG (some_ne (by omega))
  replace kw := kw.grown hG (some_ne (by omega))
  replace kx := kx.grown hG (some_ne (by omega))
  replace hx := hx.put hG (by omega)
  replace bc := Below.off bc bc.size (by omega) hG
  replace bw := Below.off bw bw.size (by omega) hG
  replace ky := ky.put5I (.int .i64 iW) (.slice xA2 xn2 xc2) (.slice yA2 yn2 yc2) (.int .i64 lW) (.int .i64 tW)
  clear hG
  (try clear pka0 pka1 pka2 pka3 pka4 pkb0 pkb1 pkb2 pkb3 pkb4 pkw0 pkw1 pkw2 pkw3 pkw4 pkx0 pkx1 pkx2 pkx3 pkx4 pky0 pky1 pky2 pky3 pky4)
  generalize ((((w7w.setCell ⟨gy, 0, none⟩ (.int .i64 iW)).setCell ⟨gy, 1, none⟩ (.slice xA2 xn2 xc2)).setCell ⟨gy, 2, none⟩ (.slice yA2 yn2 yc2)).setCell ⟨gy, 3, none⟩ (.int .i64 lW)).setCell ⟨gy, 4, none⟩ (.int .i64 tW) = u7w at *
  replace hy := hq_; clear hq_
  have hxm : yn1 ≤ 1048576 := by have h1 := hx.ok.mn; have h2 := F2.out; dsimp only at h1 h2; omega
  obtain ⟨pka0, pka1, pka2, pka3, pka4⟩ := ka.fiveI; obtain ⟨pkb0, pkb1, pkb2, pkb3, pkb4⟩ := kb.fiveI; obtain ⟨pkw0, pkw1, pkw2, pkw3, pkw4⟩ := kw.fiveI; obtain ⟨pkx0, pkx1, pkx2, pkx3, pkx4⟩ := kx.fiveI; obtain ⟨pky0, pky1, pky2, pky3, pky4⟩ := ky.fiveI
  go_upto_region 12 with (first | (go_at_call 12; with_reducible refine (HS5w.out _ _ _ _ _ hx.ok hy.ok hxm).mono ?_; rintro e u8w ⟨rfl, hC⟩; dsimp only; (try clear pka0 pka1 pka2 pka3 pka4 pkb0 pkb1 pkb2 pkb3 pkb4 pkw0 pkw1 pkw2 pkw3 pkw4 pkx0 pkx1 pkx2 pkx3 pkx4 pky0 pky1 pky2 pky3 pky4); replace ka := ka.on hC; replace kb := kb.on hC; replace kw := kw.on hC; replace kx := kx.on hC; replace ky := ky.on hC; replace hx := hx.on hC; replace hy := hy.on hC; replace bw := bw.trans (hC.mono bw.size); replace bc := bc.trans (hC.mono bc.size); clear hC; obtain ⟨pka0, pka1, pka2, pka3, pka4⟩ := ka.fiveI; obtain ⟨pkb0, pkb1, pkb2, pkb3, pkb4⟩ := kb.fiveI; obtain ⟨pkw0, pkw1, pkw2, pkw3, pkw4⟩ := kw.fiveI; obtain ⟨pkx0, pkx1, pkx2, pkx3, pkx4⟩ := kx.fiveI; obtain ⟨pky0, pky1, pky2, pky3, pky4⟩ := ky.fiveI))
  clear hxm; (try clear pka0 pka1 pka2 pka3 pka4 pkb0 pkb1 pkb2 pkb3 pkb4 pkw0 pkw1 pkw2 pkw3 pkw4 pkx0 pkx1 pkx2 pkx3 pkx4 pky0 pky1 pky2 pky3 pky4)
  clear hx
  have hb_x_u6b := kx.lt; have hb_y_u6b := ky.lt
  obtain ⟨pka0, pka1, pka2, pka3, pka4⟩ := ka.fiveI; obtain ⟨pkb0, pkb1, pkb2, pkb3, pkb4⟩ := kb.fiveI; obtain ⟨pkw0, pkw1, pkw2, pkw3, pkw4⟩ := kw.fiveI; obtain ⟨pkx0, pkx1, pkx2, pkx3, pkx4⟩ := kx.fiveI; obtain ⟨pky0, pky1, pky2, pky3, pky4⟩ := ky.fiveI
  obtain ⟨fx0, fx1, fx2, fx3, fx4⟩ := kx.fiveFI; obtain ⟨fy0, fy1, fy2, fy3, fy4⟩ := ky.fiveFI
  go_upto_region 13 with (first | (go_at_call 18; refine (HB1.out _ bc).mono ?_; rintro e w6b ⟨⟨xA1, xn1, xc1⟩, ⟨yA1, yn1, yc1⟩, rfl, hx, hC⟩; dsimp only; (try clear pka0 pka1 pka2 pka3 pka4 pkb0 pkb1 pkb2 pkb3 pkb4 pkw0 pkw1 pkw2 pkw3 pkw4 pkx0 pkx1 pkx2 pkx3 pkx4 pky0 pky1 pky2 pky3 pky4); replace ka := ka.on hC; replace kb := kb.on hC; replace kw := kw.on hC; replace kx := kx.on hC; replace ky := ky.on hC; replace hy := hy.on hC; replace bw := bw.trans (hC.mono bw.size); replace bc := bc.trans (hC.mono bc.size); clear hC; obtain ⟨pka0, pka1, pka2, pka3, pka4⟩ := ka.fiveI; obtain ⟨pkb0, pkb1, pkb2, pkb3, pkb4⟩ := kb.fiveI; obtain ⟨pkw0, pkw1, pkw2, pkw3, pkw4⟩ := kw.fiveI; obtain ⟨pkx0, pkx1, pkx2, pkx3, pkx4⟩ := kx.fiveI; obtain ⟨pky0, pky1, pky2, pky3, pky4⟩ := ky.fiveI; (try clear fx0 fx1 fx2 fx3 fx4 fy0 fy1 fy2 fy3 fy4); obtain ⟨fx0, fx1, fx2, fx3, fx4⟩ := kx.fiveFI; obtain ⟨fy0, fy1, fy2, fy3, fy4⟩ := ky.fiveFI))
  have hq_ := hx.put (grown5I w6b gx (.int .i64 iB) (.slice xA1 xn1 xc1) (.slice yA1 yn1 yc1) (.int .i64 lB) (.int .i64 tB)) hb_x_u6b
  (try clear fx0 fx1 fx2 fx3 fx4 fy0 fy1 fy2 fy3 fy4)
  have hG := grown5I w6b (gx) (.int .i64 iB) (.slice xA1 xn1 xc1) (.slice yA1 yn1 yc1) (.int .i64 lB) (.int .i64 tB)
  replace ka := ka.grown hG (some_ne (by omega))
  replace kb := kb.grown hG (some_ne (by omega))
  replace kw := kw.grown hG (some_ne (by omega))
  replace ky := ky.grown hG (some_ne (by omega))
  replace hy := hy.put hG (by omega)
  replace bc := Below.off bc bc.size (by omega) hG
  replace bw := Below.off bw bw.size (by omega) hG
  replace kx := kx.put5I (.int .i64 iB) (.slice xA1 xn1 xc1) (.slice yA1 yn1 yc1) (.int .i64 lB) (.int .i64 tB)
  clear hG
  (try clear pka0 pka1 pka2 pka3 pka4 pkb0 pkb1 pkb2 pkb3 pkb4 pkw0 pkw1 pkw2 pkw3 pkw4 pkx0 pkx1 pkx2 pkx3 pkx4 pky0 pky1 pky2 pky3 pky4)
  generalize ((((w6b.setCell ⟨gx, 0, none⟩ (.int .i64 iB)).setCell ⟨gx, 1, none⟩ (.slice xA1 xn1 xc1)).setCell ⟨gx, 2, none⟩ (.slice yA1 yn1 yc1)).setCell ⟨gx, 3, none⟩ (.int .i64 lB)).setCell ⟨gx, 4, none⟩ (.int .i64 tB) = u6b at *
  replace hx := hq_; clear hq_
  clear hy
  have hb_x_u7b := kx.lt; have hb_y_u7b := ky.lt
  obtain ⟨pka0, pka1, pka2, pka3, pka4⟩ := ka.fiveI; obtain ⟨pkb0, pkb1, pkb2, pkb3, pkb4⟩ := kb.fiveI; obtain ⟨pkw0, pkw1, pkw2, pkw3, pkw4⟩ := kw.fiveI; obtain ⟨pkx0, pkx1, pkx2, pkx3, pkx4⟩ := kx.fiveI; obtain ⟨pky0, pky1, pky2, pky3, pky4⟩ := ky.fiveI
  obtain ⟨fx0, fx1, fx2, fx3, fx4⟩ := kx.fiveFI; obtain ⟨fy0, fy1, fy2, fy3, fy4⟩ := ky.fiveFI
  go_upto_region 14 with (first | (go_at_call 19; refine (HB2.out _ bc).mono ?_; rintro e w7b ⟨⟨xA2, xn2, xc2⟩, ⟨yA2, yn2, yc2⟩, rfl, hy, hC⟩; dsimp only; (try clear pka0 pka1 pka2 pka3 pka4 pkb0 pkb1 pkb2 pkb3 pkb4 pkw0 pkw1 pkw2 pkw3 pkw4 pkx0 pkx1 pkx2 pkx3 pkx4 pky0 pky1 pky2 pky3 pky4); replace ka := ka.on hC; replace kb := kb.on hC; replace kw := kw.on hC; replace kx := kx.on hC; replace ky := ky.on hC; replace hx := hx.on hC; replace bw := bw.trans (hC.mono bw.size); replace bc := bc.trans (hC.mono bc.size); clear hC; obtain ⟨pka0, pka1, pka2, pka3, pka4⟩ := ka.fiveI; obtain ⟨pkb0, pkb1, pkb2, pkb3, pkb4⟩ := kb.fiveI; obtain ⟨pkw0, pkw1, pkw2, pkw3, pkw4⟩ := kw.fiveI; obtain ⟨pkx0, pkx1, pkx2, pkx3, pkx4⟩ := kx.fiveI; obtain ⟨pky0, pky1, pky2, pky3, pky4⟩ := ky.fiveI; (try clear fx0 fx1 fx2 fx3 fx4 fy0 fy1 fy2 fy3 fy4); obtain ⟨fx0, fx1, fx2, fx3, fx4⟩ := kx.fiveFI; obtain ⟨fy0, fy1, fy2, fy3, fy4⟩ := ky.fiveFI))
  have hq_ := hy.put (grown5I w7b gy (.int .i64 iB) (.slice xA2 xn2 xc2) (.slice yA2 yn2 yc2) (.int .i64 lB) (.int .i64 tB)) hb_y_u7b
  (try clear fx0 fx1 fx2 fx3 fx4 fy0 fy1 fy2 fy3 fy4)
  have hG := grown5I w7b (gy) (.int .i64 iB) (.slice xA2 xn2 xc2) (.slice yA2 yn2 yc2) (.int .i64 lB) (.int .i64 tB)
  replace ka := ka.grown hG (some_ne (by omega))
  replace kb := kb.grown hG (some_ne (by omega))
  replace kw := kw.grown hG (some_ne (by omega))
  replace kx := kx.grown hG (some_ne (by omega))
  replace hx := hx.put hG (by omega)
  replace bc := Below.off bc bc.size (by omega) hG
  replace bw := Below.off bw bw.size (by omega) hG
  replace ky := ky.put5I (.int .i64 iB) (.slice xA2 xn2 xc2) (.slice yA2 yn2 yc2) (.int .i64 lB) (.int .i64 tB)
  clear hG
  (try clear pka0 pka1 pka2 pka3 pka4 pkb0 pkb1 pkb2 pkb3 pkb4 pkw0 pkw1 pkw2 pkw3 pkw4 pkx0 pkx1 pkx2 pkx3 pkx4 pky0 pky1 pky2 pky3 pky4)
  generalize ((((w7b.setCell ⟨gy, 0, none⟩ (.int .i64 iB)).setCell ⟨gy, 1, none⟩ (.slice xA2 xn2 xc2)).setCell ⟨gy, 2, none⟩ (.slice yA2 yn2 yc2)).setCell ⟨gy, 3, none⟩ (.int .i64 lB)).setCell ⟨gy, 4, none⟩ (.int .i64 tB) = u7b at *
  replace hy := hq_; clear hq_
  have hxm : yn1 ≤ 1048576 := by have h1 := hx.ok.mn; have h2 := F3.out; dsimp only at h1 h2; omega
  obtain ⟨pka0, pka1, pka2, pka3, pka4⟩ := ka.fiveI; obtain ⟨pkb0, pkb1, pkb2, pkb3, pkb4⟩ := kb.fiveI; obtain ⟨pkw0, pkw1, pkw2, pkw3, pkw4⟩ := kw.fiveI; obtain ⟨pkx0, pkx1, pkx2, pkx3, pkx4⟩ := kx.fiveI; obtain ⟨pky0, pky1, pky2, pky3, pky4⟩ := ky.fiveI
  go_upto_region 16 with (first | (go_at_call 12; with_reducible refine (HS5b.out _ _ _ _ _ hx.ok hy.ok hxm).mono ?_; rintro e u8b ⟨rfl, hC⟩; dsimp only; (try clear pka0 pka1 pka2 pka3 pka4 pkb0 pkb1 pkb2 pkb3 pkb4 pkw0 pkw1 pkw2 pkw3 pkw4 pkx0 pkx1 pkx2 pkx3 pkx4 pky0 pky1 pky2 pky3 pky4); replace ka := ka.on hC; replace kb := kb.on hC; replace kw := kw.on hC; replace kx := kx.on hC; replace ky := ky.on hC; replace hx := hx.on hC; replace hy := hy.on hC; replace bw := bw.trans (hC.mono bw.size); replace bc := bc.trans (hC.mono bc.size); clear hC; obtain ⟨pka0, pka1, pka2, pka3, pka4⟩ := ka.fiveI; obtain ⟨pkb0, pkb1, pkb2, pkb3, pkb4⟩ := kb.fiveI; obtain ⟨pkw0, pkw1, pkw2, pkw3, pkw4⟩ := kw.fiveI; obtain ⟨pkx0, pkx1, pkx2, pkx3, pkx4⟩ := kx.fiveI; obtain ⟨pky0, pky1, pky2, pky3, pky4⟩ := ky.fiveI))
  clear hxm; (try clear pka0 pka1 pka2 pka3 pka4 pkb0 pkb1 pkb2 pkb3 pkb4 pkw0 pkw1 pkw2 pkw3 pkw4 pkx0 pkx1 pkx2 pkx3 pkx4 pky0 pky1 pky2 pky3 pky4)
  clear hx
  have hb_x_u6q := kx.lt; have hb_y_u6q := ky.lt
  obtain ⟨pka0, pka1, pka2, pka3, pka4⟩ := ka.fiveI; obtain ⟨pkb0, pkb1, pkb2, pkb3, pkb4⟩ := kb.fiveI; obtain ⟨pkw0, pkw1, pkw2, pkw3, pkw4⟩ := kw.fiveI; obtain ⟨pkx0, pkx1, pkx2, pkx3, pkx4⟩ := kx.fiveI; obtain ⟨pky0, pky1, pky2, pky3, pky4⟩ := ky.fiveI
  obtain ⟨fx0, fx1, fx2, fx3, fx4⟩ := kx.fiveFI; obtain ⟨fy0, fy1, fy2, fy3, fy4⟩ := ky.fiveFI
  go_upto_region 17 with (first | (go_at_call 20; refine (HQ1.out _ bc).mono ?_; rintro e w6q ⟨⟨xA1, xn1, xc1⟩, ⟨yA1, yn1, yc1⟩, rfl, hx, hC⟩; dsimp only; (try clear pka0 pka1 pka2 pka3 pka4 pkb0 pkb1 pkb2 pkb3 pkb4 pkw0 pkw1 pkw2 pkw3 pkw4 pkx0 pkx1 pkx2 pkx3 pkx4 pky0 pky1 pky2 pky3 pky4); replace ka := ka.on hC; replace kb := kb.on hC; replace kw := kw.on hC; replace kx := kx.on hC; replace ky := ky.on hC; replace hy := hy.on hC; replace bw := bw.trans (hC.mono bw.size); replace bc := bc.trans (hC.mono bc.size); clear hC; obtain ⟨pka0, pka1, pka2, pka3, pka4⟩ := ka.fiveI; obtain ⟨pkb0, pkb1, pkb2, pkb3, pkb4⟩ := kb.fiveI; obtain ⟨pkw0, pkw1, pkw2, pkw3, pkw4⟩ := kw.fiveI; obtain ⟨pkx0, pkx1, pkx2, pkx3, pkx4⟩ := kx.fiveI; obtain ⟨pky0, pky1, pky2, pky3, pky4⟩ := ky.fiveI; (try clear fx0 fx1 fx2 fx3 fx4 fy0 fy1 fy2 fy3 fy4); obtain ⟨fx0, fx1, fx2, fx3, fx4⟩ := kx.fiveFI; obtain ⟨fy0, fy1, fy2, fy3, fy4⟩ := ky.fiveFI))
  have hq_ := hx.put (grown5I w6q gx (.int .i64 iQ) (.slice xA1 xn1 xc1) (.slice yA1 yn1 yc1) (.int .i64 lQ) (.int .i64 tQ)) hb_x_u6q
  (try clear fx0 fx1 fx2 fx3 fx4 fy0 fy1 fy2 fy3 fy4)
  have hG := grown5I w6q (gx) (.int .i64 iQ) (.slice xA1 xn1 xc1) (.slice yA1 yn1 yc1) (.int .i64 lQ) (.int .i64 tQ)
  replace ka := ka.grown hG (some_ne (by omega))
  replace kb := kb.grown hG (some_ne (by omega))
  replace kw := kw.grown hG (some_ne (by omega))
  replace ky := ky.grown hG (some_ne (by omega))
  replace hy := hy.put hG (by omega)
  replace bc := Below.off bc bc.size (by omega) hG
  replace bw := Below.off bw bw.size (by omega) hG
  replace kx := kx.put5I (.int .i64 iQ) (.slice xA1 xn1 xc1) (.slice yA1 yn1 yc1) (.int .i64 lQ) (.int .i64 tQ)
  clear hG
  (try clear pka0 pka1 pka2 pka3 pka4 pkb0 pkb1 pkb2 pkb3 pkb4 pkw0 pkw1 pkw2 pkw3 pkw4 pkx0 pkx1 pkx2 pkx3 pkx4 pky0 pky1 pky2 pky3 pky4)
  generalize ((((w6q.setCell ⟨gx, 0, none⟩ (.int .i64 iQ)).setCell ⟨gx, 1, none⟩ (.slice xA1 xn1 xc1)).setCell ⟨gx, 2, none⟩ (.slice yA1 yn1 yc1)).setCell ⟨gx, 3, none⟩ (.int .i64 lQ)).setCell ⟨gx, 4, none⟩ (.int .i64 tQ) = u6q at *
  replace hx := hq_; clear hq_
  clear hy
  have hb_x_u7q := kx.lt; have hb_y_u7q := ky.lt
  obtain ⟨pka0, pka1, pka2, pka3, pka4⟩ := ka.fiveI; obtain ⟨pkb0, pkb1, pkb2, pkb3, pkb4⟩ := kb.fiveI; obtain ⟨pkw0, pkw1, pkw2, pkw3, pkw4⟩ := kw.fiveI; obtain ⟨pkx0, pkx1, pkx2, pkx3, pkx4⟩ := kx.fiveI; obtain ⟨pky0, pky1, pky2, pky3, pky4⟩ := ky.fiveI
  obtain ⟨fx0, fx1, fx2, fx3, fx4⟩ := kx.fiveFI; obtain ⟨fy0, fy1, fy2, fy3, fy4⟩ := ky.fiveFI
  go_upto_region 18 with (first | (go_at_call 21; refine (HQ2.out _ bc).mono ?_; rintro e w7q ⟨⟨xA2, xn2, xc2⟩, ⟨yA2, yn2, yc2⟩, rfl, hy, hC⟩; dsimp only; (try clear pka0 pka1 pka2 pka3 pka4 pkb0 pkb1 pkb2 pkb3 pkb4 pkw0 pkw1 pkw2 pkw3 pkw4 pkx0 pkx1 pkx2 pkx3 pkx4 pky0 pky1 pky2 pky3 pky4); replace ka := ka.on hC; replace kb := kb.on hC; replace kw := kw.on hC; replace kx := kx.on hC; replace ky := ky.on hC; replace hx := hx.on hC; replace bw := bw.trans (hC.mono bw.size); replace bc := bc.trans (hC.mono bc.size); clear hC; obtain ⟨pka0, pka1, pka2, pka3, pka4⟩ := ka.fiveI; obtain ⟨pkb0, pkb1, pkb2, pkb3, pkb4⟩ := kb.fiveI; obtain ⟨pkw0, pkw1, pkw2, pkw3, pkw4⟩ := kw.fiveI; obtain ⟨pkx0, pkx1, pkx2, pkx3, pkx4⟩ := kx.fiveI; obtain ⟨pky0, pky1, pky2, pky3, pky4⟩ := ky.fiveI; (try clear fx0 fx1 fx2 fx3 fx4 fy0 fy1 fy2 fy3 fy4); obtain ⟨fx0, fx1, fx2, fx3, fx4⟩ := kx.fiveFI; obtain ⟨fy0, fy1, fy2, fy3, fy4⟩ := ky.fiveFI))
  have hq_ := hy.put (grown5I w7q gy (.int .i64 iQ) (.slice xA2 xn2 xc2) (.slice yA2 yn2 yc2) (.int .i64 lQ) (.int .i64 tQ)) hb_y_u7q
  (try clear fx0 fx1 fx2 fx3 fx4 fy0 fy1 fy2 fy3 fy4)
  have hG := grown5I w7q (gy) (.int .i64 iQ) (.slice xA2 xn2 xc2) (.slice yA2 yn2 yc2) (.int .i64 lQ) (.int .i64 tQ)
  replace ka := ka.grown hG (some_ne (by omega))
  replace kb := kb.grown hG (some_ne (by omega))
  replace kw := kw.grown hG (some_ne (by omega))
  replace kx := kx.grown hG (some_ne (by omega))
  replace hx := hx.put hG (by omega)
  replace bc := Below.off bc bc.size (by omega) hG
  replace bw := Below.off bw bw.size (by omega) hG
  replace ky := ky.put5I (.int .i64 iQ) (.slice xA2 xn2 xc2) (.slice yA2 yn2 yc2) (.int .i64 lQ) (.int .i64 tQ)
  clear hG
  (try clear pka0 pka1 pka2 pka3 pka4 pkb0 pkb1 pkb2 pkb3 pkb4 pkw0 pkw1 pkw2 pkw3 pkw4 pkx0 pkx1 pkx2 pkx3 pkx4 pky0 pky1 pky2 pky3 pky4)
  generalize ((((w7q.setCell ⟨gy, 0, none⟩ (.int .i64 iQ)).setCell ⟨gy, 1, none⟩ (.slice xA2 xn2 xc2)).setCell ⟨gy, 2, none⟩ (.slice yA2 yn2 yc2)).setCell ⟨gy, 3, none⟩ (.int .i64 lQ)).setCell ⟨gy, 4, none⟩ (.int .i64 tQ) = u7q at *
  replace hy := hq_; clear hq_
  have hxm : yn1 ≤ 1048576 := by have h1 := hx.ok.mn; have h2 := F4.out; dsimp only at h1 h2; omega
  have hm6 : m ≤ 1048576 := by omega
  obtain ⟨pka0, pka1, pka2, pka3, pka4⟩ := ka.fiveI; obtain ⟨pkb0, pkb1, pkb2, pkb3, pkb4⟩ := kb.fiveI; obtain ⟨pkw0, pkw1, pkw2, pkw3, pkw4⟩ := kw.fiveI; obtain ⟨pkx0, pkx1, pkx2, pkx3, pkx4⟩ := kx.fiveI; obtain ⟨pky0, pky1, pky2, pky3, pky4⟩ := ky.fiveI
  go_wp2_with (first | (have _ := hmk; go_at_call 12; with_reducible refine (HS4.out _ _ _ bc hm6 ((hwas.below bw).mono bw.size)).mono ?_; rintro e w9 ⟨rfl, hC⟩; dsimp only; (try clear pka0 pka1 pka2 pka3 pka4 pkb0 pkb1 pkb2 pkb3 pkb4 pkw0 pkw1 pkw2 pkw3 pkw4 pkx0 pkx1 pkx2 pkx3 pkx4 pky0 pky1 pky2 pky3 pky4); replace ka := ka.on hC; replace kb := kb.on hC; replace kw := kw.on hC; replace kx := kx.on hC; replace ky := ky.on hC; replace bw := bw.trans (hC.mono bw.size); replace bc := bc.trans (hC.mono bc.size); clear hC; obtain ⟨pka0, pka1, pka2, pka3, pka4⟩ := ka.fiveI; obtain ⟨pkb0, pkb1, pkb2, pkb3, pkb4⟩ := kb.fiveI; obtain ⟨pkw0, pkw1, pkw2, pkw3, pkw4⟩ := kw.fiveI; obtain ⟨pkx0, pkx1, pkx2, pkx3, pkx4⟩ := kx.fiveI; obtain ⟨pky0, pky1, pky2, pky3, pky4⟩ := ky.fiveI) | (go_at_call 12; with_reducible refine (HS5q.out _ _ _ _ _ hx.ok hy.ok hxm).mono ?_; rintro e w8 ⟨rfl, hC⟩; dsimp only; have hmk : True := trivial; (try clear pka0 pka1 pka2 pka3 pka4 pkb0 pkb1 pkb2 pkb3 pkb4 pkw0 pkw1 pkw2 pkw3 pkw4 pkx0 pkx1 pkx2 pkx3 pkx4 pky0 pky1 pky2 pky3 pky4); replace ka := ka.on hC; replace kb := kb.on hC; replace kw := kw.on hC; replace kx := kx.on hC; replace ky := ky.on hC; replace hx := hx.on hC; replace hy := hy.on hC; replace bw := bw.trans (hC.mono bw.size); replace bc := bc.trans (hC.mono bc.size); clear hC; obtain ⟨pka0, pka1, pka2, pka3, pka4⟩ := ka.fiveI; obtain ⟨pkb0, pkb1, pkb2, pkb3, pkb4⟩ := kb.fiveI; obtain ⟨pkw0, pkw1, pkw2, pkw3, pkw4⟩ := kw.fiveI; obtain ⟨pkx0, pkx1, pkx2, pkx3, pkx4⟩ := kx.fiveI; obtain ⟨pky0, pky1, pky2, pky3, pky4⟩ := ky.fiveI))
  go_ret
  exact ⟨rfl, bc⟩
end Go.Proofs.Ytnlmpemfpkmodaa
