/-
  The law of what is told of a clock: it is what the document says. Conditions: what the program's functions answer. (Printed by tools/gen13j.py; laid ahead.)
-/
import Derived.Test.YtlkmipcenlhacaaLI
import Derived.Test.YtlkmipcenlhacaaLE
namespace Go.Proofs.Ytlkmipcenlhacaa
open Go.RowKit

set_option maxRecDepth 100000 in
set_option maxHeartbeats 4000000 in
theorem tells_law (hS : ClkSendC) (hW : ClkWindowC) (hC : ClkCorrectC) (hL : ClkSlotC) (hK : ClkCheckC) (hE : ClkSameC) (m : ML) (c s : Slc) (k : Ck) (v : Slc) (r : Ck) (u : Slc) (w : World) (hM : Med w m c s) (hk : CkOk w.heap.size w k v) (hr : CkOk w.heap.size w r u) : Calls Try.prog 3 #[vM m c s, .agg (cK k v), .agg (cK r u)] w fun e w' => e = .returned (.bool true) ∧ Below w.heap.size w w' := by
  have h0 := fun U => begun13_any hS hW hC U
  have l1 := fun U (hb : Below w.heap.size w U) => hL m c s k v U (hM.on hb) (hk.on hb)
  have l2 := fun U (hb : Below w.heap.size w U) => rslotK_any m c s k v U (hM.on hb) (hk.on hb)
  have w1 := fun U (hb : Below w.heap.size w U) => hW m c s k v U (hM.on hb) (hk.on hb)
  have w2 := fun U (hb : Below w.heap.size w U) => rwinK_any m c s k v U (hM.on hb) (hk.on hb)
  have s1 := fun U (hb : Below w.heap.size w U) => hS m c s k v U (hM.on hb) (hk.on hb)
  have s2 := fun U (hb : Below w.heap.size w U) => rsendK_any m c s k v U (hM.on hb) (hk.on hb)
  have c1 := fun U (hb : Below w.heap.size w U) => hC m c s k v U (hM.on hb) (hk.on hb)
  have c2_ := fun U (hb : Below w.heap.size w U) => rcorK_any m c s k v U (hM.on hb) (hk.on hb)
  have k1 := fun U (hb : Below w.heap.size w U) => hK m c s k v U (hM.on hb) (hk.on hb)
  have k2 := fun U (hb : Below w.heap.size w U) => rchkK_any m c s k v U (hM.on hb) (hk.on hb)
  have e1 := fun U (hb : Below w.heap.size w U) => hE k v r u U (hk.on hb) (hr.on hb)
  have e2 := fun U (hb : Below w.heap.size w U) => rsameK_any k v r u U (hk.on hb) (hr.on hb)
  have e3 := fun U (hb : Below w.heap.size w U) => hE k v k v U (hk.on hb) (hk.on hb)
  rw [sameK_self] at e3
  unfold ResSp at l1 l2 w1 w2
  generalize slotK m k = R1 at *
  generalize winK m k = R2 at *
  generalize sendK m k = R3 at *
  generalize corK m k = R4 at *
  generalize chkK m k = ck at *
  generalize sameK k r = sm at *
  clear hM hk hr hS hW hC hL hK hE
  obtain ⟨N, S, G, W, D, L, cold, ms⟩ := m
  obtain ⟨Ac, nc, cc⟩ := c
  obtain ⟨As, ns, cs⟩ := s
  obtain ⟨st, sl, dv⟩ := k
  obtain ⟨A, n, c⟩ := v
  obtain ⟨tt2, sl2, dv2⟩ := r
  obtain ⟨A2, n2, c2⟩ := u
  obtain ⟨ea, xa, xb⟩ := R1
  obtain ⟨eb, ya, yb⟩ := R2
  obtain ⟨ec, za⟩ := R3
  obtain ⟨ed, zb⟩ := R4
  dsimp only [vM, cK] at *
  have H0 := Lib.hid h0; have HL1 := Lib.hid l1; have HL2 := Lib.hid l2; have HW1 := Lib.hid w1; have HW2 := Lib.hid w2; have HS1 := Lib.hid s1; have HS2 := Lib.hid s2; have HC1 := Lib.hid c1; have HC2 := Lib.hid c2_; have HK1 := Lib.hid k1; have HK2 := Lib.hid k2; have HE1 := Lib.hid e1; have HE2 := Lib.hid e2; have HE3 := Lib.hid e3
  clear h0 l1 l2 w1 w2 s1 s2 c1 c2_ k1 k2 e1 e2 e3
  obtain ⟨km, kc, ko, bc⟩ := bx3 w #[.int .i64 N, .int .i64 S, .int .i64 G, .int .i64 W, .int .i64 D, .int .i64 L, .slice Ac nc cc, .slice As ns cs] #[.int .i64 st, .int .i64 sl, .slice A n c] #[.int .i64 tt2, .int .i64 sl2, .slice A2 n2 c2] 25 28 28
  obtain ⟨p0, p1, p2, p3, p4, p5, p6, p7⟩ := km.eight; obtain ⟨q0, q1, q2, -⟩ := kc.three; obtain ⟨s0, s1, s2, -⟩ := ko.three
  go_enter Try.func3, Try.ntmps3
  go_upto_region 2 with (first | (go_at_call 9; refine (HL1.out _ bc).mono ?_; rintro e w1 ⟨rfl, hC⟩; dsimp only; (try clear p0 p1 p2 p3 p4 p5 p6 p7); (try clear q0 q1 q2); (try clear s0 s1 s2); replace km := km.on hC; replace kc := kc.on hC; replace ko := ko.on hC; replace bc := bc.trans (hC.mono bc.size); clear hC; obtain ⟨p0, p1, p2, p3, p4, p5, p6, p7⟩ := km.eight; obtain ⟨q0, q1, q2, -⟩ := kc.three; obtain ⟨s0, s1, s2, -⟩ := ko.three))
  have ka := Blk.new w1 30 #[.int .i64 xa, .int .i64 xb]
  have al := Below.al w1 (.cells #[.int .i64 xa, .int .i64 xb] 30)
  have hgka := ko.lt
  (try clear p0 p1 p2 p3 p4 p5 p6 p7); (try clear q0 q1 q2); (try clear s0 s1 s2)
  replace km := km.on al; replace kc := kc.on al; replace ko := ko.on al; replace bc := bc.trans (al.mono bc.size); clear al
  generalize w1.alloc (.cells #[.int .i64 xa, .int .i64 xb] 30) = uka at *
  generalize w1.heap.size = gka at *
  clear w1
  obtain ⟨p0, p1, p2, p3, p4, p5, p6, p7⟩ := km.eight; obtain ⟨q0, q1, q2, -⟩ := kc.three; obtain ⟨s0, s1, s2, -⟩ := ko.three
  obtain ⟨x0, x1, f0, f1⟩ := ka.two
  go_upto_region 3 with (first | (go_at_call 10; refine (HL2.out _ bc).mono ?_; rintro e w1 ⟨rfl, hC⟩; dsimp only; (try clear p0 p1 p2 p3 p4 p5 p6 p7); (try clear q0 q1 q2); (try clear s0 s1 s2); replace km := km.on hC; replace kc := kc.on hC; replace ko := ko.on hC; replace bc := bc.trans (hC.mono bc.size); (try clear x0 x1 f0 f1); replace ka := ka.on hC; obtain ⟨x0, x1, f0, f1⟩ := ka.two; clear hC; obtain ⟨p0, p1, p2, p3, p4, p5, p6, p7⟩ := km.eight; obtain ⟨q0, q1, q2, -⟩ := kc.three; obtain ⟨s0, s1, s2, -⟩ := ko.three))
  have kb := Blk.new w1 30 #[.int .i64 xa, .int .i64 xb]
  have al := Below.al w1 (.cells #[.int .i64 xa, .int .i64 xb] 30)
  have hgkb := ka.lt
  (try clear p0 p1 p2 p3 p4 p5 p6 p7); (try clear q0 q1 q2); (try clear s0 s1 s2)
  replace km := km.on al; replace kc := kc.on al; replace ko := ko.on al; (try clear x0 x1 f0 f1); replace ka := ka.on al; replace bc := bc.trans (al.mono bc.size); clear al
  generalize w1.alloc (.cells #[.int .i64 xa, .int .i64 xb] 30) = ukb at *
  generalize w1.heap.size = gkb at *
  clear w1
  obtain ⟨p0, p1, p2, p3, p4, p5, p6, p7⟩ := km.eight; obtain ⟨q0, q1, q2, -⟩ := kc.three; obtain ⟨s0, s1, s2, -⟩ := ko.three
  (try clear p0 p1 p2 p3 p4 p5 p6 p7); (try clear q0 q1 q2); (try clear s0 s1 s2)
  (try clear x0 x1 f0 f1)
  obtain ⟨p0, p1, p2, p3, p4, p5, p6, p7⟩ := near_eight8K km
  obtain ⟨q0, q1, q2⟩ := near_three kc
  obtain ⟨s0, s1, s2⟩ := near_three ko
  obtain ⟨x0, x1⟩ := near_twoK ka
  obtain ⟨y0, y1⟩ := near_twoK kb
  have BC := Lib.hid (fun nw : NearW ukb => bc.trans (nw.h.mono bc.size))
  go_wp2_with fail
  refine wp_region_near (by kernel_rfl) (by kernel_rfl) ?_
  repeat (go_big_quiet_step (first
    | (go_at_call 11; exact near_call (H0.out _))
    | (go_at_call 12; with_reducible exact near_call (HK1.out _ (BC.out _)))
    | (go_at_call 13; with_reducible exact near_call (HK2.out _ (BC.out _)))
    | (go_at_call 14; first | (with_reducible exact near_call (HE1.out _ (BC.out _))) | (with_reducible exact near_call (HE3.out _ (BC.out _))))
    | (go_at_call 15; with_reducible exact near_call (HE2.out _ (BC.out _)))))
  refine wpQuiet_nil ?_
  rintro _ ⟨nw, rfl⟩
  clear p0 p1 p2 p3 p4 p5 p6 p7 q0 q1 q2 s0 s1 s2 x0 x1 y0 y1 BC
  have hC := nw.h
  replace km := km.on hC; replace kc := kc.on hC; replace ko := ko.on hC; replace ka := ka.on hC; replace kb := kb.on hC; replace bc := bc.trans (hC.mono bc.size); clear hC
  generalize nw.W = u5 at *
  clear nw
  obtain ⟨p0, p1, p2, p3, p4, p5, p6, p7⟩ := km.eight; obtain ⟨q0, q1, q2, -⟩ := kc.three; obtain ⟨s0, s1, s2, -⟩ := ko.three
  obtain ⟨x0, x1, f0, f1⟩ := ka.two; obtain ⟨y0, y1, h0_, h1_⟩ := kb.two
  go_upto_region 6 with (first | (go_at_call 16; refine (HW1.out _ bc).mono ?_; rintro e w1 ⟨rfl, hC⟩; dsimp only; (try clear p0 p1 p2 p3 p4 p5 p6 p7); (try clear q0 q1 q2); (try clear s0 s1 s2); replace km := km.on hC; replace kc := kc.on hC; replace ko := ko.on hC; replace bc := bc.trans (hC.mono bc.size); (try clear x0 x1 f0 f1); replace ka := ka.on hC; obtain ⟨x0, x1, f0, f1⟩ := ka.two; (try clear y0 y1 h0_ h1_); replace kb := kb.on hC; obtain ⟨y0, y1, h0_, h1_⟩ := kb.two; clear hC; obtain ⟨p0, p1, p2, p3, p4, p5, p6, p7⟩ := km.eight; obtain ⟨q0, q1, q2, -⟩ := kc.three; obtain ⟨s0, s1, s2, -⟩ := ko.three))
  have hG := st2 w1 gka (.int .i64 ya) (.int .i64 yb)
  (try clear p0 p1 p2 p3 p4 p5 p6 p7); (try clear q0 q1 q2); (try clear s0 s1 s2)
  (try clear x0 x1 f0 f1); (try clear y0 y1 h0_ h1_)
  replace km := km.grown hG (some_ne (by omega)); replace kc := kc.grown hG (some_ne (by omega)); replace ko := ko.grown hG (some_ne (by omega)); replace kb := kb.grown hG (some_ne (by omega)); replace bc := Below.off bc bc.size (by omega) hG
  replace ka := ka.put2 (.int .i64 ya) (.int .i64 yb)
  clear hG
  generalize (w1.setCell ⟨gka, 0, none⟩ (.int .i64 ya)).setCell ⟨gka, 1, none⟩ (.int .i64 yb) = vka at *
  clear w1
  obtain ⟨p0, p1, p2, p3, p4, p5, p6, p7⟩ := km.eight; obtain ⟨q0, q1, q2, -⟩ := kc.three; obtain ⟨s0, s1, s2, -⟩ := ko.three
  obtain ⟨x0, x1, f0, f1⟩ := ka.two; obtain ⟨y0, y1, h0_, h1_⟩ := kb.two
  go_upto_region 7 with (first | (go_at_call 17; refine (HW2.out _ bc).mono ?_; rintro e w1 ⟨rfl, hC⟩; dsimp only; (try clear p0 p1 p2 p3 p4 p5 p6 p7); (try clear q0 q1 q2); (try clear s0 s1 s2); replace km := km.on hC; replace kc := kc.on hC; replace ko := ko.on hC; replace bc := bc.trans (hC.mono bc.size); (try clear x0 x1 f0 f1); replace ka := ka.on hC; obtain ⟨x0, x1, f0, f1⟩ := ka.two; (try clear y0 y1 h0_ h1_); replace kb := kb.on hC; obtain ⟨y0, y1, h0_, h1_⟩ := kb.two; clear hC; obtain ⟨p0, p1, p2, p3, p4, p5, p6, p7⟩ := km.eight; obtain ⟨q0, q1, q2, -⟩ := kc.three; obtain ⟨s0, s1, s2, -⟩ := ko.three))
  have hG := st2 w1 gkb (.int .i64 ya) (.int .i64 yb)
  (try clear p0 p1 p2 p3 p4 p5 p6 p7); (try clear q0 q1 q2); (try clear s0 s1 s2)
  (try clear x0 x1 f0 f1); (try clear y0 y1 h0_ h1_)
  replace km := km.grown hG (some_ne (by omega)); replace kc := kc.grown hG (some_ne (by omega)); replace ko := ko.grown hG (some_ne (by omega)); replace ka := ka.grown hG (some_ne (by omega)); replace bc := Below.off bc bc.size (by omega) hG
  replace kb := kb.put2 (.int .i64 ya) (.int .i64 yb)
  clear hG
  generalize (w1.setCell ⟨gkb, 0, none⟩ (.int .i64 ya)).setCell ⟨gkb, 1, none⟩ (.int .i64 yb) = vkb at *
  clear w1
  obtain ⟨p0, p1, p2, p3, p4, p5, p6, p7⟩ := km.eight; obtain ⟨q0, q1, q2, -⟩ := kc.three; obtain ⟨s0, s1, s2, -⟩ := ko.three
  obtain ⟨x0, x1, f0, f1⟩ := ka.two; obtain ⟨y0, y1, h0_, h1_⟩ := kb.two
  go_wp2_with (first
    | (go_at_call 18; refine (HS1.out _ bc).mono ?_; rintro e w1 ⟨rfl, hC⟩; dsimp only; (try clear p0 p1 p2 p3 p4 p5 p6 p7); (try clear q0 q1 q2); (try clear s0 s1 s2); replace km := km.on hC; replace kc := kc.on hC; replace ko := ko.on hC; replace bc := bc.trans (hC.mono bc.size); (try clear x0 x1 f0 f1); replace ka := ka.on hC; obtain ⟨x0, x1, f0, f1⟩ := ka.two; (try clear y0 y1 h0_ h1_); replace kb := kb.on hC; obtain ⟨y0, y1, h0_, h1_⟩ := kb.two; clear hC; obtain ⟨p0, p1, p2, p3, p4, p5, p6, p7⟩ := km.eight; obtain ⟨q0, q1, q2, -⟩ := kc.three; obtain ⟨s0, s1, s2, -⟩ := ko.three)
    | (go_at_call 19; refine (HS2.out _ bc).mono ?_; rintro e w1 ⟨rfl, hC⟩; dsimp only; (try clear p0 p1 p2 p3 p4 p5 p6 p7); (try clear q0 q1 q2); (try clear s0 s1 s2); replace km := km.on hC; replace kc := kc.on hC; replace ko := ko.on hC; replace bc := bc.trans (hC.mono bc.size); (try clear x0 x1 f0 f1); replace ka := ka.on hC; obtain ⟨x0, x1, f0, f1⟩ := ka.two; (try clear y0 y1 h0_ h1_); replace kb := kb.on hC; obtain ⟨y0, y1, h0_, h1_⟩ := kb.two; clear hC; obtain ⟨p0, p1, p2, p3, p4, p5, p6, p7⟩ := km.eight; obtain ⟨q0, q1, q2, -⟩ := kc.three; obtain ⟨s0, s1, s2, -⟩ := ko.three)
    | (go_at_call 20; refine (HC1.out _ bc).mono ?_; rintro e w1 ⟨rfl, hC⟩; dsimp only; (try clear p0 p1 p2 p3 p4 p5 p6 p7); (try clear q0 q1 q2); (try clear s0 s1 s2); replace km := km.on hC; replace kc := kc.on hC; replace ko := ko.on hC; replace bc := bc.trans (hC.mono bc.size); (try clear x0 x1 f0 f1); replace ka := ka.on hC; obtain ⟨x0, x1, f0, f1⟩ := ka.two; (try clear y0 y1 h0_ h1_); replace kb := kb.on hC; obtain ⟨y0, y1, h0_, h1_⟩ := kb.two; clear hC; obtain ⟨p0, p1, p2, p3, p4, p5, p6, p7⟩ := km.eight; obtain ⟨q0, q1, q2, -⟩ := kc.three; obtain ⟨s0, s1, s2, -⟩ := ko.three)
    | (go_at_call 21; refine (HC2.out _ bc).mono ?_; rintro e w1 ⟨rfl, hC⟩; dsimp only; (try clear p0 p1 p2 p3 p4 p5 p6 p7); (try clear q0 q1 q2); (try clear s0 s1 s2); replace km := km.on hC; replace kc := kc.on hC; replace ko := ko.on hC; replace bc := bc.trans (hC.mono bc.size); (try clear x0 x1 f0 f1); replace ka := ka.on hC; obtain ⟨x0, x1, f0, f1⟩ := ka.two; (try clear y0 y1 h0_ h1_); replace kb := kb.on hC; obtain ⟨y0, y1, h0_, h1_⟩ := kb.two; clear hC; obtain ⟨p0, p1, p2, p3, p4, p5, p6, p7⟩ := km.eight; obtain ⟨q0, q1, q2, -⟩ := kc.three; obtain ⟨s0, s1, s2, -⟩ := ko.three))
  go_ret
  exact ⟨rfl, bc⟩
end Go.Proofs.Ytlkmipcenlhacaa
