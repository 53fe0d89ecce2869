/-
  The law of what is read: the frame of any bits, for any state; whether it is good for it; whether its state stands in it. Conditions: that the bytes can be read, and that the program's tables hold what its text lays. (Printed by tools/gen05oz.py.)
-/
import Derived.Test.YtcfbeelljhjnoaaDoorNW
import Derived.Test.YtcfbeelljhjnoaaDoorNT
import Derived.Test.YtcfbeelljhjnoaaDoorOG
namespace Go.Proofs.YtcfbeelljhjnoaaDoor
open Go.RowKit

set_option maxRecDepth 8000 in
set_option maxHeartbeats 16000000 in
theorem reads_law5 (N : Int) (A : Option Addr) (n c : Nat) (bs : List UInt8) (C : CS) (w : World) (hn : n = bs.length) (hm : n ≤ maxLen) (hA : Byt w.heap.size w A bs) (hT : Tab w) (hW : WTab w) :
    Calls Tryd.prog 4 #[.agg #[.int .i64 N, .slice A n c], .agg C.cells] w fun e w' => e = .returned (.bool true) ∧ Below w.heap.size w w' := by
  have h1 := fun (W : World) (hb : Below w.heap.size w W) => parse_any N A n c bs C W hn hm (hA.on hb) (hT.on hb) (hW.on hb)
  have h2 := fun (W : World) (hb : Below w.heap.size w W) => rparse_any N A n c bs C W hn hm (hA.on hb)
  have h3 := fun (W : World) (hb : Below w.heap.size w W) => good_any N A n c bs C W hn hm (hA.on hb) (hT.on hb) (hW.on hb)
  have h4 := fun (W : World) (hb : Below w.heap.size w W) => rgood_any N A n c bs C W hn hm (hA.on hb)
  have h5 := fun (W : World) (hb : Below w.heap.size w W) => expl_any N A n c bs W hn hm (hA.on hb) (hT.on hb) (hW.on hb)
  have h6 := fun (W : World) (hb : Below w.heap.size w W) => rexpl_any N A n c bs W hn hm (hA.on hb)
  have h7 := fun (W : World) (hb : Below w.heap.size w W) => begun_any W (hT.on hb) (hW.on hb)
  have hs := fun (f : FR) (A1 : Option Addr) (n1 c1 : Nat) (A2 : Option Addr) (n2 c2 : Nat) (W : World) (i1 : n1 = f.ds.length) (i2 : n2 = f.ds.length) (y1 : Byt W.heap.size W A1 f.ds) (y2 : Byt W.heap.size W A2 f.ds) => rsamef_any f f A1 n1 c1 A2 n2 c2 W i1 i2 y1 y2
  simp only [sameF_self] at hs
  clear hn hm hA hT hW
  unfold ResF at h1 h2
  unfold ResG at h3 h4 h5 h6
  generalize readF N bs C = R at *
  generalize goodF N bs C = G at *
  generalize explF N bs = E at *
  obtain ⟨er, r⟩ := R
  obtain ⟨bg, g⟩ := G
  obtain ⟨be, x⟩ := E
  have s1 := hs r; have s2 := hs g; have s3 := hs x
  clear hs
  obtain ⟨rK, rR, ⟨rT, rP, rM, rN, rE⟩, rF, rd⟩ := r
  obtain ⟨gK, gR, ⟨gT, gP, gM, gN, gE⟩, gF, gd⟩ := g
  obtain ⟨xK, xR, ⟨xT, xP, xM, xN, xE⟩, xF, xd⟩ := x
  obtain ⟨C0, C1, C2, C3, C4⟩ := C
  unfold CS.cells FR.cells at *
  dsimp only at h1 h2 h3 h4 h5 h6 s1 s2 s3 ⊢
  have H1 := Lib.hid h1; have H2 := Lib.hid h2; have H3 := Lib.hid h3; have H4 := Lib.hid h4; have H5 := Lib.hid h5; have H6 := Lib.hid h6; have H7 := Lib.hid h7; have S1 := Lib.hid s1; have S2 := Lib.hid s2; have S3 := Lib.hid s3
  clear h1 h2 h3 h4 h5 h6 h7 s1 s2 s3
  obtain ⟨kb, kc, bc⟩ := bx2 w #[.int .i64 N, .slice A n c] #[.int .i64 C0, .int .i64 C1, .int .i64 C2, .int .i64 C3, .int .i64 C4] 28 23
  go_enter Tryd.func4, Tryd.ntmps4
  go_wp2_with fail
  generalize (w.alloc (.cells #[.int .i64 N, .slice A n c] 28)).alloc (.cells #[.int .i64 C0, .int .i64 C1, .int .i64 C2, .int .i64 C3, .int .i64 C4] 23) = u1 at *
  refine (H1.out _ bc).mono ?_
  rintro e w1 ⟨A1, n1, c1, rfl, hn1, y1, hC⟩
  dsimp only at y1 ⊢
  replace kb := kb.on hC; replace kc := kc.on hC; replace bc := bc.trans (hC.mono bc.size); clear hC
  have HN1 := Lib.hid hn1; clear hn1
  have z_k1_kb := kb.lt
  have z_k1_kc := kc.lt
  have zb_k1 := bc.size
  have k1 := Blk.new w1 26 #[.int .i64 rK, .int .i64 rR, .int .i64 rT, .int .i64 rP, .int .i64 rM, .int .i64 rN, .int .i64 rE, .int .i64 rF, .slice A1 n1 c1]
  have al := Below.al w1 (.cells #[.int .i64 rK, .int .i64 rR, .int .i64 rT, .int .i64 rP, .int .i64 rM, .int .i64 rN, .int .i64 rE, .int .i64 rF, .slice A1 n1 c1] 26)
  replace kb := kb.on al; replace kc := kc.on al; replace y1 := y1.on al; replace bc := bc.trans (al.mono bc.size); clear al
  obtain ⟨pkb_0, pkb_1, pkb_0f, pkb_1f⟩ := kb.two
  obtain ⟨⟨pkc_0, pkc_1, pkc_2, pkc_3, pkc_4⟩, pkc_0f, pkc_1f, pkc_2f, pkc_3f, pkc_4f⟩ := kc.five
  go_wp2_with fail
  clear pkb_0 pkb_1 pkb_0f pkb_1f pkc_0 pkc_1 pkc_2 pkc_3 pkc_4 pkc_0f pkc_1f pkc_2f pkc_3f pkc_4f
  generalize w1.alloc (.cells #[.int .i64 rK, .int .i64 rR, .int .i64 rT, .int .i64 rP, .int .i64 rM, .int .i64 rN, .int .i64 rE, .int .i64 rF, .slice A1 n1 c1] 26) = u2 at *
  generalize w1.heap.size = g2 at *
  refine (H2.out _ bc).mono ?_
  rintro e w2 ⟨A2, n2, c2, rfl, hn2, y2, hC⟩
  dsimp only at y2 ⊢
  replace kb := kb.on hC; replace kc := kc.on hC; replace k1 := k1.on hC; replace y1 := y1.on hC; replace bc := bc.trans (hC.mono bc.size); clear hC
  have HN2 := Lib.hid hn2; clear hn2
  have z_k2_kb := kb.lt
  have z_k2_kc := kc.lt
  have z_k2_k1 := k1.lt
  have zb_k2 := bc.size
  have k2 := Blk.new w2 26 #[.int .i64 rK, .int .i64 rR, .int .i64 rT, .int .i64 rP, .int .i64 rM, .int .i64 rN, .int .i64 rE, .int .i64 rF, .slice A2 n2 c2]
  have al := Below.al w2 (.cells #[.int .i64 rK, .int .i64 rR, .int .i64 rT, .int .i64 rP, .int .i64 rM, .int .i64 rN, .int .i64 rE, .int .i64 rF, .slice A2 n2 c2] 26)
  replace kb := kb.on al; replace kc := kc.on al; replace k1 := k1.on al; replace y1 := y1.on al; replace y2 := y2.on al; replace bc := bc.trans (al.mono bc.size); clear al
  obtain ⟨pkb_0, pkb_1, pkb_0f, pkb_1f⟩ := kb.two
  obtain ⟨⟨pkc_0, pkc_1, pkc_2, pkc_3, pkc_4⟩, pkc_0f, pkc_1f, pkc_2f, pkc_3f, pkc_4f⟩ := kc.five
  go_wp2_with fail
  clear pkb_0 pkb_1 pkb_0f pkb_1f pkc_0 pkc_1 pkc_2 pkc_3 pkc_4 pkc_0f pkc_1f pkc_2f pkc_3f pkc_4f
  generalize w2.alloc (.cells #[.int .i64 rK, .int .i64 rR, .int .i64 rT, .int .i64 rP, .int .i64 rM, .int .i64 rN, .int .i64 rE, .int .i64 rF, .slice A2 n2 c2] 26) = u3 at *
  generalize w2.heap.size = g3 at *
  refine (H3.out _ bc).mono ?_
  rintro e w3 ⟨A3, n3, c3, rfl, hn3, y3, hC⟩
  dsimp only at y3 ⊢
  replace kb := kb.on hC; replace kc := kc.on hC; replace k1 := k1.on hC; replace k2 := k2.on hC; replace y1 := y1.on hC; replace y2 := y2.on hC; replace bc := bc.trans (hC.mono bc.size); clear hC
  have HN3 := Lib.hid hn3; clear hn3
  have z_k3_kb := kb.lt
  have z_k3_kc := kc.lt
  have z_k3_k1 := k1.lt
  have z_k3_k2 := k2.lt
  have zb_k3 := bc.size
  have k3 := Blk.new w3 26 #[.int .i64 gK, .int .i64 gR, .int .i64 gT, .int .i64 gP, .int .i64 gM, .int .i64 gN, .int .i64 gE, .int .i64 gF, .slice A3 n3 c3]
  have al := Below.al w3 (.cells #[.int .i64 gK, .int .i64 gR, .int .i64 gT, .int .i64 gP, .int .i64 gM, .int .i64 gN, .int .i64 gE, .int .i64 gF, .slice A3 n3 c3] 26)
  replace kb := kb.on al; replace kc := kc.on al; replace k1 := k1.on al; replace k2 := k2.on al; replace y1 := y1.on al; replace y2 := y2.on al; replace y3 := y3.on al; replace bc := bc.trans (al.mono bc.size); clear al
  obtain ⟨pkb_0, pkb_1, pkb_0f, pkb_1f⟩ := kb.two
  obtain ⟨⟨pkc_0, pkc_1, pkc_2, pkc_3, pkc_4⟩, pkc_0f, pkc_1f, pkc_2f, pkc_3f, pkc_4f⟩ := kc.five
  go_wp2_with fail
  clear pkb_0 pkb_1 pkb_0f pkb_1f pkc_0 pkc_1 pkc_2 pkc_3 pkc_4 pkc_0f pkc_1f pkc_2f pkc_3f pkc_4f
  generalize w3.alloc (.cells #[.int .i64 gK, .int .i64 gR, .int .i64 gT, .int .i64 gP, .int .i64 gM, .int .i64 gN, .int .i64 gE, .int .i64 gF, .slice A3 n3 c3] 26) = u4 at *
  generalize w3.heap.size = g4 at *
  refine (H4.out _ bc).mono ?_
  rintro e w4 ⟨A4, n4, c4, rfl, hn4, y4, hC⟩
  dsimp only at y4 ⊢
  replace kb := kb.on hC; replace kc := kc.on hC; replace k1 := k1.on hC; replace k2 := k2.on hC; replace k3 := k3.on hC; replace y1 := y1.on hC; replace y2 := y2.on hC; replace y3 := y3.on hC; replace bc := bc.trans (hC.mono bc.size); clear hC
  have HN4 := Lib.hid hn4; clear hn4
  have z_k4_kb := kb.lt
  have z_k4_kc := kc.lt
  have z_k4_k1 := k1.lt
  have z_k4_k2 := k2.lt
  have z_k4_k3 := k3.lt
  have zb_k4 := bc.size
  have k4 := Blk.new w4 26 #[.int .i64 gK, .int .i64 gR, .int .i64 gT, .int .i64 gP, .int .i64 gM, .int .i64 gN, .int .i64 gE, .int .i64 gF, .slice A4 n4 c4]
  have al := Below.al w4 (.cells #[.int .i64 gK, .int .i64 gR, .int .i64 gT, .int .i64 gP, .int .i64 gM, .int .i64 gN, .int .i64 gE, .int .i64 gF, .slice A4 n4 c4] 26)
  replace kb := kb.on al; replace kc := kc.on al; replace k1 := k1.on al; replace k2 := k2.on al; replace k3 := k3.on al; replace y1 := y1.on al; replace y2 := y2.on al; replace y3 := y3.on al; replace y4 := y4.on al; replace bc := bc.trans (al.mono bc.size); clear al
  obtain ⟨pkb_0, pkb_1, pkb_0f, pkb_1f⟩ := kb.two
  obtain ⟨⟨pkc_0, pkc_1, pkc_2, pkc_3, pkc_4⟩, pkc_0f, pkc_1f, pkc_2f, pkc_3f, pkc_4f⟩ := kc.five
  go_wp2_with fail
  clear pkb_0 pkb_1 pkb_0f pkb_1f pkc_0 pkc_1 pkc_2 pkc_3 pkc_4 pkc_0f pkc_1f pkc_2f pkc_3f pkc_4f
  generalize w4.alloc (.cells #[.int .i64 gK, .int .i64 gR, .int .i64 gT, .int .i64 gP, .int .i64 gM, .int .i64 gN, .int .i64 gE, .int .i64 gF, .slice A4 n4 c4] 26) = u5 at *
  generalize w4.heap.size = g5 at *
  refine (H5.out _ bc).mono ?_
  rintro e w5 ⟨A5, n5, c5, rfl, hn5, y5, hC⟩
  dsimp only at y5 ⊢
  replace kb := kb.on hC; replace kc := kc.on hC; replace k1 := k1.on hC; replace k2 := k2.on hC; replace k3 := k3.on hC; replace k4 := k4.on hC; replace y1 := y1.on hC; replace y2 := y2.on hC; replace y3 := y3.on hC; replace y4 := y4.on hC; replace bc := bc.trans (hC.mono bc.size); clear hC
  have HN5 := Lib.hid hn5; clear hn5
  have z_k5_kb := kb.lt
  have z_k5_kc := kc.lt
  have z_k5_k1 := k1.lt
  have z_k5_k2 := k2.lt
  have z_k5_k3 := k3.lt
  have z_k5_k4 := k4.lt
  have zb_k5 := bc.size
  have k5 := Blk.new w5 26 #[.int .i64 xK, .int .i64 xR, .int .i64 xT, .int .i64 xP, .int .i64 xM, .int .i64 xN, .int .i64 xE, .int .i64 xF, .slice A5 n5 c5]
  have al := Below.al w5 (.cells #[.int .i64 xK, .int .i64 xR, .int .i64 xT, .int .i64 xP, .int .i64 xM, .int .i64 xN, .int .i64 xE, .int .i64 xF, .slice A5 n5 c5] 26)
  replace kb := kb.on al; replace kc := kc.on al; replace k1 := k1.on al; replace k2 := k2.on al; replace k3 := k3.on al; replace k4 := k4.on al; replace y1 := y1.on al; replace y2 := y2.on al; replace y3 := y3.on al; replace y4 := y4.on al; replace y5 := y5.on al; replace bc := bc.trans (al.mono bc.size); clear al
  obtain ⟨pkb_0, pkb_1, pkb_0f, pkb_1f⟩ := kb.two
  obtain ⟨⟨pkc_0, pkc_1, pkc_2, pkc_3, pkc_4⟩, pkc_0f, pkc_1f, pkc_2f, pkc_3f, pkc_4f⟩ := kc.five
  go_wp2_with fail
  clear pkb_0 pkb_1 pkb_0f pkb_1f pkc_0 pkc_1 pkc_2 pkc_3 pkc_4 pkc_0f pkc_1f pkc_2f pkc_3f pkc_4f
  generalize w5.alloc (.cells #[.int .i64 xK, .int .i64 xR, .int .i64 xT, .int .i64 xP, .int .i64 xM, .int .i64 xN, .int .i64 xE, .int .i64 xF, .slice A5 n5 c5] 26) = u6 at *
  generalize w5.heap.size = g6 at *
  refine (H6.out _ bc).mono ?_
  rintro e w6 ⟨A6, n6, c6, rfl, hn6, y6, hC⟩
  dsimp only at y6 ⊢
  replace kb := kb.on hC; replace kc := kc.on hC; replace k1 := k1.on hC; replace k2 := k2.on hC; replace k3 := k3.on hC; replace k4 := k4.on hC; replace k5 := k5.on hC; replace y1 := y1.on hC; replace y2 := y2.on hC; replace y3 := y3.on hC; replace y4 := y4.on hC; replace y5 := y5.on hC; replace bc := bc.trans (hC.mono bc.size); clear hC
  have HN6 := Lib.hid hn6; clear hn6
  have z_k6_kb := kb.lt
  have z_k6_kc := kc.lt
  have z_k6_k1 := k1.lt
  have z_k6_k2 := k2.lt
  have z_k6_k3 := k3.lt
  have z_k6_k4 := k4.lt
  have z_k6_k5 := k5.lt
  have zb_k6 := bc.size
  have k6 := Blk.new w6 26 #[.int .i64 xK, .int .i64 xR, .int .i64 xT, .int .i64 xP, .int .i64 xM, .int .i64 xN, .int .i64 xE, .int .i64 xF, .slice A6 n6 c6]
  have al := Below.al w6 (.cells #[.int .i64 xK, .int .i64 xR, .int .i64 xT, .int .i64 xP, .int .i64 xM, .int .i64 xN, .int .i64 xE, .int .i64 xF, .slice A6 n6 c6] 26)
  replace kb := kb.on al; replace kc := kc.on al; replace k1 := k1.on al; replace k2 := k2.on al; replace k3 := k3.on al; replace k4 := k4.on al; replace k5 := k5.on al; replace y1 := y1.on al; replace y2 := y2.on al; replace y3 := y3.on al; replace y4 := y4.on al; replace y5 := y5.on al; replace y6 := y6.on al; replace bc := bc.trans (al.mono bc.size); clear al
  obtain ⟨pk1_0, pk1_1, pk1_2, pk1_3, pk1_4, pk1_5, pk1_6, pk1_7, pk1_8⟩ := k1.nine
  obtain ⟨pk1_0f, pk1_1f, pk1_2f, pk1_3f, pk1_4f, pk1_5f, pk1_6f, pk1_7f, pk1_8f⟩ := k1.nineF
  obtain ⟨pk2_0, pk2_1, pk2_2, pk2_3, pk2_4, pk2_5, pk2_6, pk2_7, pk2_8⟩ := k2.nine
  obtain ⟨pk2_0f, pk2_1f, pk2_2f, pk2_3f, pk2_4f, pk2_5f, pk2_6f, pk2_7f, pk2_8f⟩ := k2.nineF
  obtain ⟨pk3_0, pk3_1, pk3_2, pk3_3, pk3_4, pk3_5, pk3_6, pk3_7, pk3_8⟩ := k3.nine
  obtain ⟨pk3_0f, pk3_1f, pk3_2f, pk3_3f, pk3_4f, pk3_5f, pk3_6f, pk3_7f, pk3_8f⟩ := k3.nineF
  obtain ⟨pk4_0, pk4_1, pk4_2, pk4_3, pk4_4, pk4_5, pk4_6, pk4_7, pk4_8⟩ := k4.nine
  obtain ⟨pk4_0f, pk4_1f, pk4_2f, pk4_3f, pk4_4f, pk4_5f, pk4_6f, pk4_7f, pk4_8f⟩ := k4.nineF
  obtain ⟨pk5_0, pk5_1, pk5_2, pk5_3, pk5_4, pk5_5, pk5_6, pk5_7, pk5_8⟩ := k5.nine
  obtain ⟨pk5_0f, pk5_1f, pk5_2f, pk5_3f, pk5_4f, pk5_5f, pk5_6f, pk5_7f, pk5_8f⟩ := k5.nineF
  obtain ⟨pk6_0, pk6_1, pk6_2, pk6_3, pk6_4, pk6_5, pk6_6, pk6_7, pk6_8⟩ := k6.nine
  obtain ⟨pk6_0f, pk6_1f, pk6_2f, pk6_3f, pk6_4f, pk6_5f, pk6_6f, pk6_7f, pk6_8f⟩ := k6.nineF
  go_wp2_with fail
  clear pk1_0 pk1_1 pk1_2 pk1_3 pk1_4 pk1_5 pk1_6 pk1_7 pk1_8 pk1_0f pk1_1f pk1_2f pk1_3f pk1_4f pk1_5f pk1_6f pk1_7f pk1_8f pk2_0 pk2_1 pk2_2 pk2_3 pk2_4 pk2_5 pk2_6 pk2_7 pk2_8 pk2_0f pk2_1f pk2_2f pk2_3f pk2_4f pk2_5f pk2_6f pk2_7f pk2_8f pk3_0 pk3_1 pk3_2 pk3_3 pk3_4 pk3_5 pk3_6 pk3_7 pk3_8 pk3_0f pk3_1f pk3_2f pk3_3f pk3_4f pk3_5f pk3_6f pk3_7f pk3_8f pk4_0 pk4_1 pk4_2 pk4_3 pk4_4 pk4_5 pk4_6 pk4_7 pk4_8 pk4_0f pk4_1f pk4_2f pk4_3f pk4_4f pk4_5f pk4_6f pk4_7f pk4_8f pk5_0 pk5_1 pk5_2 pk5_3 pk5_4 pk5_5 pk5_6 pk5_7 pk5_8 pk5_0f pk5_1f pk5_2f pk5_3f pk5_4f pk5_5f pk5_6f pk5_7f pk5_8f pk6_0 pk6_1 pk6_2 pk6_3 pk6_4 pk6_5 pk6_6 pk6_7 pk6_8 pk6_0f pk6_1f pk6_2f pk6_3f pk6_4f pk6_5f pk6_6f pk6_7f pk6_8f
  generalize w6.alloc (.cells #[.int .i64 xK, .int .i64 xR, .int .i64 xT, .int .i64 xP, .int .i64 xM, .int .i64 xN, .int .i64 xE, .int .i64 xF, .slice A6 n6 c6] 26) = u7 at *
  generalize w6.heap.size = g7 at *
  refine (H7.out _ bc).mono ?_
  rintro e w13 ⟨rfl, hC⟩
  dsimp only
  replace kb := kb.on hC; replace kc := kc.on hC; replace k1 := k1.on hC; replace k2 := k2.on hC; replace k3 := k3.on hC; replace k4 := k4.on hC; replace k5 := k5.on hC; replace k6 := k6.on hC; replace y1 := y1.on hC; replace y2 := y2.on hC; replace y3 := y3.on hC; replace y4 := y4.on hC; replace y5 := y5.on hC; replace y6 := y6.on hC; replace bc := bc.trans (hC.mono bc.size); clear hC
  obtain ⟨pk1_0, pk1_1, pk1_2, pk1_3, pk1_4, pk1_5, pk1_6, pk1_7, pk1_8⟩ := k1.nine
  obtain ⟨pk1_0f, pk1_1f, pk1_2f, pk1_3f, pk1_4f, pk1_5f, pk1_6f, pk1_7f, pk1_8f⟩ := k1.nineF
  obtain ⟨pk2_0, pk2_1, pk2_2, pk2_3, pk2_4, pk2_5, pk2_6, pk2_7, pk2_8⟩ := k2.nine
  obtain ⟨pk2_0f, pk2_1f, pk2_2f, pk2_3f, pk2_4f, pk2_5f, pk2_6f, pk2_7f, pk2_8f⟩ := k2.nineF
  obtain ⟨pk3_0, pk3_1, pk3_2, pk3_3, pk3_4, pk3_5, pk3_6, pk3_7, pk3_8⟩ := k3.nine
  obtain ⟨pk3_0f, pk3_1f, pk3_2f, pk3_3f, pk3_4f, pk3_5f, pk3_6f, pk3_7f, pk3_8f⟩ := k3.nineF
  obtain ⟨pk4_0, pk4_1, pk4_2, pk4_3, pk4_4, pk4_5, pk4_6, pk4_7, pk4_8⟩ := k4.nine
  obtain ⟨pk4_0f, pk4_1f, pk4_2f, pk4_3f, pk4_4f, pk4_5f, pk4_6f, pk4_7f, pk4_8f⟩ := k4.nineF
  obtain ⟨pk5_0, pk5_1, pk5_2, pk5_3, pk5_4, pk5_5, pk5_6, pk5_7, pk5_8⟩ := k5.nine
  obtain ⟨pk5_0f, pk5_1f, pk5_2f, pk5_3f, pk5_4f, pk5_5f, pk5_6f, pk5_7f, pk5_8f⟩ := k5.nineF
  obtain ⟨pk6_0, pk6_1, pk6_2, pk6_3, pk6_4, pk6_5, pk6_6, pk6_7, pk6_8⟩ := k6.nine
  obtain ⟨pk6_0f, pk6_1f, pk6_2f, pk6_3f, pk6_4f, pk6_5f, pk6_6f, pk6_7f, pk6_8f⟩ := k6.nineF
  go_wp2_with fail
  clear pk1_0 pk1_1 pk1_2 pk1_3 pk1_4 pk1_5 pk1_6 pk1_7 pk1_8 pk1_0f pk1_1f pk1_2f pk1_3f pk1_4f pk1_5f pk1_6f pk1_7f pk1_8f pk2_0 pk2_1 pk2_2 pk2_3 pk2_4 pk2_5 pk2_6 pk2_7 pk2_8 pk2_0f pk2_1f pk2_2f pk2_3f pk2_4f pk2_5f pk2_6f pk2_7f pk2_8f pk3_0 pk3_1 pk3_2 pk3_3 pk3_4 pk3_5 pk3_6 pk3_7 pk3_8 pk3_0f pk3_1f pk3_2f pk3_3f pk3_4f pk3_5f pk3_6f pk3_7f pk3_8f pk4_0 pk4_1 pk4_2 pk4_3 pk4_4 pk4_5 pk4_6 pk4_7 pk4_8 pk4_0f pk4_1f pk4_2f pk4_3f pk4_4f pk4_5f pk4_6f pk4_7f pk4_8f pk5_0 pk5_1 pk5_2 pk5_3 pk5_4 pk5_5 pk5_6 pk5_7 pk5_8 pk5_0f pk5_1f pk5_2f pk5_3f pk5_4f pk5_5f pk5_6f pk5_7f pk5_8f pk6_0 pk6_1 pk6_2 pk6_3 pk6_4 pk6_5 pk6_6 pk6_7 pk6_8 pk6_0f pk6_1f pk6_2f pk6_3f pk6_4f pk6_5f pk6_6f pk6_7f pk6_8f
  refine (S1.out A1 n1 c1 A2 n2 c2 _ HN1.out HN2.out y1 y2).mono ?_
  rintro e w14 ⟨rfl, hC⟩
  dsimp only
  replace kb := kb.on hC; replace kc := kc.on hC; replace k1 := k1.on hC; replace k2 := k2.on hC; replace k3 := k3.on hC; replace k4 := k4.on hC; replace k5 := k5.on hC; replace k6 := k6.on hC; replace y1 := y1.on hC; replace y2 := y2.on hC; replace y3 := y3.on hC; replace y4 := y4.on hC; replace y5 := y5.on hC; replace y6 := y6.on hC; replace bc := bc.trans (hC.mono bc.size); clear hC
  obtain ⟨pk1_0, pk1_1, pk1_2, pk1_3, pk1_4, pk1_5, pk1_6, pk1_7, pk1_8⟩ := k1.nine
  obtain ⟨pk1_0f, pk1_1f, pk1_2f, pk1_3f, pk1_4f, pk1_5f, pk1_6f, pk1_7f, pk1_8f⟩ := k1.nineF
  obtain ⟨pk2_0, pk2_1, pk2_2, pk2_3, pk2_4, pk2_5, pk2_6, pk2_7, pk2_8⟩ := k2.nine
  obtain ⟨pk2_0f, pk2_1f, pk2_2f, pk2_3f, pk2_4f, pk2_5f, pk2_6f, pk2_7f, pk2_8f⟩ := k2.nineF
  obtain ⟨pk3_0, pk3_1, pk3_2, pk3_3, pk3_4, pk3_5, pk3_6, pk3_7, pk3_8⟩ := k3.nine
  obtain ⟨pk3_0f, pk3_1f, pk3_2f, pk3_3f, pk3_4f, pk3_5f, pk3_6f, pk3_7f, pk3_8f⟩ := k3.nineF
  obtain ⟨pk4_0, pk4_1, pk4_2, pk4_3, pk4_4, pk4_5, pk4_6, pk4_7, pk4_8⟩ := k4.nine
  obtain ⟨pk4_0f, pk4_1f, pk4_2f, pk4_3f, pk4_4f, pk4_5f, pk4_6f, pk4_7f, pk4_8f⟩ := k4.nineF
  obtain ⟨pk5_0, pk5_1, pk5_2, pk5_3, pk5_4, pk5_5, pk5_6, pk5_7, pk5_8⟩ := k5.nine
  obtain ⟨pk5_0f, pk5_1f, pk5_2f, pk5_3f, pk5_4f, pk5_5f, pk5_6f, pk5_7f, pk5_8f⟩ := k5.nineF
  obtain ⟨pk6_0, pk6_1, pk6_2, pk6_3, pk6_4, pk6_5, pk6_6, pk6_7, pk6_8⟩ := k6.nine
  obtain ⟨pk6_0f, pk6_1f, pk6_2f, pk6_3f, pk6_4f, pk6_5f, pk6_6f, pk6_7f, pk6_8f⟩ := k6.nineF
  go_wp2_with fail
  clear pk1_0 pk1_1 pk1_2 pk1_3 pk1_4 pk1_5 pk1_6 pk1_7 pk1_8 pk1_0f pk1_1f pk1_2f pk1_3f pk1_4f pk1_5f pk1_6f pk1_7f pk1_8f pk2_0 pk2_1 pk2_2 pk2_3 pk2_4 pk2_5 pk2_6 pk2_7 pk2_8 pk2_0f pk2_1f pk2_2f pk2_3f pk2_4f pk2_5f pk2_6f pk2_7f pk2_8f pk3_0 pk3_1 pk3_2 pk3_3 pk3_4 pk3_5 pk3_6 pk3_7 pk3_8 pk3_0f pk3_1f pk3_2f pk3_3f pk3_4f pk3_5f pk3_6f pk3_7f pk3_8f pk4_0 pk4_1 pk4_2 pk4_3 pk4_4 pk4_5 pk4_6 pk4_7 pk4_8 pk4_0f pk4_1f pk4_2f pk4_3f pk4_4f pk4_5f pk4_6f pk4_7f pk4_8f pk5_0 pk5_1 pk5_2 pk5_3 pk5_4 pk5_5 pk5_6 pk5_7 pk5_8 pk5_0f pk5_1f pk5_2f pk5_3f pk5_4f pk5_5f pk5_6f pk5_7f pk5_8f pk6_0 pk6_1 pk6_2 pk6_3 pk6_4 pk6_5 pk6_6 pk6_7 pk6_8 pk6_0f pk6_1f pk6_2f pk6_3f pk6_4f pk6_5f pk6_6f pk6_7f pk6_8f
  refine (S2.out A3 n3 c3 A4 n4 c4 _ HN3.out HN4.out y3 y4).mono ?_
  rintro e w15 ⟨rfl, hC⟩
  dsimp only
  replace kb := kb.on hC; replace kc := kc.on hC; replace k1 := k1.on hC; replace k2 := k2.on hC; replace k3 := k3.on hC; replace k4 := k4.on hC; replace k5 := k5.on hC; replace k6 := k6.on hC; replace y1 := y1.on hC; replace y2 := y2.on hC; replace y3 := y3.on hC; replace y4 := y4.on hC; replace y5 := y5.on hC; replace y6 := y6.on hC; replace bc := bc.trans (hC.mono bc.size); clear hC
  obtain ⟨pk1_0, pk1_1, pk1_2, pk1_3, pk1_4, pk1_5, pk1_6, pk1_7, pk1_8⟩ := k1.nine
  obtain ⟨pk1_0f, pk1_1f, pk1_2f, pk1_3f, pk1_4f, pk1_5f, pk1_6f, pk1_7f, pk1_8f⟩ := k1.nineF
  obtain ⟨pk2_0, pk2_1, pk2_2, pk2_3, pk2_4, pk2_5, pk2_6, pk2_7, pk2_8⟩ := k2.nine
  obtain ⟨pk2_0f, pk2_1f, pk2_2f, pk2_3f, pk2_4f, pk2_5f, pk2_6f, pk2_7f, pk2_8f⟩ := k2.nineF
  obtain ⟨pk3_0, pk3_1, pk3_2, pk3_3, pk3_4, pk3_5, pk3_6, pk3_7, pk3_8⟩ := k3.nine
  obtain ⟨pk3_0f, pk3_1f, pk3_2f, pk3_3f, pk3_4f, pk3_5f, pk3_6f, pk3_7f, pk3_8f⟩ := k3.nineF
  obtain ⟨pk4_0, pk4_1, pk4_2, pk4_3, pk4_4, pk4_5, pk4_6, pk4_7, pk4_8⟩ := k4.nine
  obtain ⟨pk4_0f, pk4_1f, pk4_2f, pk4_3f, pk4_4f, pk4_5f, pk4_6f, pk4_7f, pk4_8f⟩ := k4.nineF
  obtain ⟨pk5_0, pk5_1, pk5_2, pk5_3, pk5_4, pk5_5, pk5_6, pk5_7, pk5_8⟩ := k5.nine
  obtain ⟨pk5_0f, pk5_1f, pk5_2f, pk5_3f, pk5_4f, pk5_5f, pk5_6f, pk5_7f, pk5_8f⟩ := k5.nineF
  obtain ⟨pk6_0, pk6_1, pk6_2, pk6_3, pk6_4, pk6_5, pk6_6, pk6_7, pk6_8⟩ := k6.nine
  obtain ⟨pk6_0f, pk6_1f, pk6_2f, pk6_3f, pk6_4f, pk6_5f, pk6_6f, pk6_7f, pk6_8f⟩ := k6.nineF
  go_wp2_with fail
  clear pk1_0 pk1_1 pk1_2 pk1_3 pk1_4 pk1_5 pk1_6 pk1_7 pk1_8 pk1_0f pk1_1f pk1_2f pk1_3f pk1_4f pk1_5f pk1_6f pk1_7f pk1_8f pk2_0 pk2_1 pk2_2 pk2_3 pk2_4 pk2_5 pk2_6 pk2_7 pk2_8 pk2_0f pk2_1f pk2_2f pk2_3f pk2_4f pk2_5f pk2_6f pk2_7f pk2_8f pk3_0 pk3_1 pk3_2 pk3_3 pk3_4 pk3_5 pk3_6 pk3_7 pk3_8 pk3_0f pk3_1f pk3_2f pk3_3f pk3_4f pk3_5f pk3_6f pk3_7f pk3_8f pk4_0 pk4_1 pk4_2 pk4_3 pk4_4 pk4_5 pk4_6 pk4_7 pk4_8 pk4_0f pk4_1f pk4_2f pk4_3f pk4_4f pk4_5f pk4_6f pk4_7f pk4_8f pk5_0 pk5_1 pk5_2 pk5_3 pk5_4 pk5_5 pk5_6 pk5_7 pk5_8 pk5_0f pk5_1f pk5_2f pk5_3f pk5_4f pk5_5f pk5_6f pk5_7f pk5_8f pk6_0 pk6_1 pk6_2 pk6_3 pk6_4 pk6_5 pk6_6 pk6_7 pk6_8 pk6_0f pk6_1f pk6_2f pk6_3f pk6_4f pk6_5f pk6_6f pk6_7f pk6_8f
  refine (S3.out A5 n5 c5 A6 n6 c6 _ HN5.out HN6.out y5 y6).mono ?_
  rintro e w16 ⟨rfl, hC⟩
  dsimp only
  replace kb := kb.on hC; replace kc := kc.on hC; replace k1 := k1.on hC; replace k2 := k2.on hC; replace k3 := k3.on hC; replace k4 := k4.on hC; replace k5 := k5.on hC; replace k6 := k6.on hC; replace y1 := y1.on hC; replace y2 := y2.on hC; replace y3 := y3.on hC; replace y4 := y4.on hC; replace y5 := y5.on hC; replace y6 := y6.on hC; replace bc := bc.trans (hC.mono bc.size); clear hC
  go_wp2
  go_ret
  exact ⟨by rfl, bc⟩
end Go.Proofs.YtcfbeelljhjnoaaDoor
