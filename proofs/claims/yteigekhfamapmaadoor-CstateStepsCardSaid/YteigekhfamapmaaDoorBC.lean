/-
  The statement of bits of package cstate. Condition: the array of widths holds what the program's text lays.
-/
import Derived.Test.YteigekhfamapmaaDoorBB
import Derived.Test.YteigekhfamapmaaDoorA3
namespace Go.Proofs.YteigekhfamapmaaDoor
open Go.RowKit

theorem keepS {W : World} {g3 g7 g9 g11 g13 : Nat} {s0 s1 s2 s3 s4 L1 S1 L2 S2 r0 r1 r2 r3 r4 q0 q1 q2 q3 q4 : Value} {t7 : TypeId}
    (k3 : Blk W g3 23 #[s0, s1, s2, s3, s4]) (k7 : Blk W g7 t7 #[L1, S1]) (k9 : Blk W g9 t7 #[L2, S2]) (k11 : Blk W g11 23 #[r0, r1, r2, r3, r4]) (k13 : Blk W g13 23 #[q0, q1, q2, q3, q4]) :
    W.cell? ⟨g3, 0, none⟩ = some s0 ∧ W.cell? ⟨g3, 1, none⟩ = some s1 ∧ W.cell? ⟨g3, 2, none⟩ = some s2 ∧ W.cell? ⟨g3, 3, none⟩ = some s3 ∧ W.cell? ⟨g3, 4, none⟩ = some s4 ∧ W.cell? ⟨g7, 0, none⟩ = some L1 ∧ W.cell? ⟨g7, 1, none⟩ = some S1 ∧ W.cell? ⟨g9, 0, none⟩ = some L2 ∧ W.cell? ⟨g9, 1, none⟩ = some S2 ∧ W.cell? ⟨g11, 0, none⟩ = some r0 ∧ W.cell? ⟨g11, 1, none⟩ = some r1 ∧ W.cell? ⟨g11, 2, none⟩ = some r2 ∧ W.cell? ⟨g11, 3, none⟩ = some r3 ∧ W.cell? ⟨g11, 4, none⟩ = some r4 ∧ W.cell? ⟨g13, 0, none⟩ = some q0 ∧ W.cell? ⟨g13, 1, none⟩ = some q1 ∧ W.cell? ⟨g13, 2, none⟩ = some q2 ∧ W.cell? ⟨g13, 3, none⟩ = some q3 ∧ W.cell? ⟨g13, 4, none⟩ = some q4 := by
  obtain ⟨⟨a0, a1, a2, a3, a4⟩, -⟩ := k3.five
  obtain ⟨⟨b0, b1, b2, b3, b4⟩, -⟩ := k11.five
  obtain ⟨⟨c0, c1, c2, c3, c4⟩, -⟩ := k13.five
  obtain ⟨d0, d1, -, -⟩ := k7.two
  obtain ⟨e0, e1, -, -⟩ := k9.two
  exact ⟨a0, a1, a2, a3, a4, d0, d1, e0, e1, b0, b1, b2, b3, b4, c0, c1, c2, c3, c4⟩

set_option maxRecDepth 8000 in
set_option maxHeartbeats 4000000 in
theorem bits_law (s : CS) (m : Int) (N : Int) (A : Option Addr) (n c : Nat) (bs : List UInt8) (w : World) (hn : n = bs.length) (hm : n ≤ maxLen) (hA : Byt w.heap.size w A bs) (hT : WTab w) :
    Calls Tryd.prog 3 #[.agg s.cells, .int .i64 m, .agg #[.int .i64 N, .slice A n c]] w fun e w' => e = .returned (.bool true) ∧ Below w.heap.size w w' := by
  have h1 := fun (W : World) (h : Below w.heap.size w W) => bitsC_any s W (hT.on h)
  have h2 := fun (W : World) => rbitsC_any s W
  have h3 := fun (W : World) (h : Below w.heap.size w W) => readC_any N A n c bs W hn hm (hA.on h) (hT.on h)
  have h4 := fun (W : World) (h : Below w.heap.size w W) => rreadC_any N A n c bs W hn hm (hA.on h)
  have h5 := fun (W : World) (h : Below w.heap.size w W) => begun_any W (hT.on h)
  have h6 := fun (W : World) => checkC_any s m W
  have h7 := fun (W : World) => rcheckC_any s m W
  generalize bitsC s = R1 at *
  generalize readC N bs = R2 at *
  generalize checkC s m = ce at *
  obtain ⟨e1, L1⟩ := R1
  obtain ⟨e2, ⟨r0, r1, r2, r3, r4⟩⟩ := R2
  obtain ⟨s0, s1, s2, s3, s4⟩ := s
  unfold ResC at h3 h4
  unfold CS.cells at *
  dsimp only at *
  have H1 := Lib.hid h1; have H2 := Lib.hid h2; have H3 := Lib.hid h3; have H4 := Lib.hid h4; have H5 := Lib.hid h5; have H6 := Lib.hid h6; have H7 := Lib.hid h7
  clear h1 h2 h3 h4 h5 h6 h7 hn hm hA hT
  have k3 := (Blk.new w 23 #[.int .i64 s0, .int .i64 s1, .int .i64 s2, .int .i64 s3, .int .i64 s4]).alloc (.cells #[.int .i64 N, .slice A n c] 26)
  have k5 : Blk ((w.alloc (.cells #[.int .i64 s0, .int .i64 s1, .int .i64 s2, .int .i64 s3, .int .i64 s4] 23)).alloc (.cells #[.int .i64 N, .slice A n c] 26)) (w.heap.size + 1) 26 #[.int .i64 N, .slice A n c] := by simpa using Blk.new (w.alloc (.cells #[.int .i64 s0, .int .i64 s1, .int .i64 s2, .int .i64 s3, .int .i64 s4] 23)) 26 #[.int .i64 N, .slice A n c]
  have bc : Below w.heap.size w ((w.alloc (.cells #[.int .i64 s0, .int .i64 s1, .int .i64 s2, .int .i64 s3, .int .i64 s4] 23)).alloc (.cells #[.int .i64 N, .slice A n c] 26)) := ((Below.refl _ _).alloc (Nat.le_refl _) _).alloc (by simp) _
  go_enter Tryd.func3, Tryd.ntmps3
  go_wp2_with fail
  generalize (w.alloc (.cells #[.int .i64 s0, .int .i64 s1, .int .i64 s2, .int .i64 s3, .int .i64 s4] 23)).alloc (.cells #[.int .i64 N, .slice A n c] 26) = w0 at *
  refine (H1.out _ bc).mono ?_
  rintro e w1 ⟨A1, n1, c1, bs1, rfl, hn1, his1, hl1, y1, hC, -⟩
  dsimp only at his1 hl1 ⊢
  have HN1 := Lib.hid hn1; have HI1 := Lib.hid his1; clear hn1 his1 hl1
  have k7 := Blk.new w1 26 #[.int .i64 L1.length, .slice A1 n1 c1]
  have al := Below.al w1 (.cells #[.int .i64 L1.length, .slice A1 n1 c1] 26)
  replace k3 := (k3.on hC).on al; replace k5 := (k5.on hC).on al; replace y1 := y1.on al
  replace bc := bc.trans (hC.mono bc.size); replace bc := bc.trans (al.mono bc.size)
  clear hC al
  obtain ⟨⟨p0, p1, p2, p3, p4⟩, -⟩ := k3.five
  go_wp2_with fail
  clear p0 p1 p2 p3 p4
  generalize w1.alloc (.cells #[.int .i64 L1.length, .slice A1 n1 c1] 26) = v1 at *
  generalize w1.heap.size = g7 at *
  refine (H2.out _).mono ?_
  rintro e w2 ⟨A2, n2, c2, bs2, rfl, hn2, his2, hl2, y2, hC, -⟩
  dsimp only at his2 hl2 ⊢
  have HN2 := Lib.hid hn2; have HI2 := Lib.hid his2; clear hn2 his2 hl2
  have k9 := Blk.new w2 26 #[.int .i64 L1.length, .slice A2 n2 c2]
  have al := Below.al w2 (.cells #[.int .i64 L1.length, .slice A2 n2 c2] 26)
  replace k3 := (k3.on hC).on al; replace k5 := (k5.on hC).on al; replace k7 := (k7.on hC).on al; replace y1 := (y1.on hC).on al; replace y2 := y2.on al
  replace bc := bc.trans (hC.mono bc.size); replace bc := bc.trans (al.mono bc.size)
  clear hC al
  obtain ⟨p0, p1, -, -⟩ := k5.two
  go_wp2_with fail
  clear p0 p1
  generalize w2.alloc (.cells #[.int .i64 L1.length, .slice A2 n2 c2] 26) = v2 at *
  generalize w2.heap.size = g9 at *
  refine (H3.out _ bc).mono ?_
  rintro e w3 ⟨rfl, hC⟩
  dsimp only
  have k11 := Blk.new w3 23 #[.int .i64 r0, .int .i64 r1, .int .i64 r2, .int .i64 r3, .int .i64 r4]
  have al := Below.al w3 (.cells #[.int .i64 r0, .int .i64 r1, .int .i64 r2, .int .i64 r3, .int .i64 r4] 23)
  replace k3 := (k3.on hC).on al; replace k5 := (k5.on hC).on al; replace k7 := (k7.on hC).on al; replace k9 := (k9.on hC).on al; replace y1 := (y1.on hC).on al; replace y2 := (y2.on hC).on al
  replace bc := bc.trans (hC.mono bc.size); replace bc := bc.trans (al.mono bc.size)
  clear hC al
  obtain ⟨p0, p1, -, -⟩ := k5.two
  go_wp2_with fail
  clear p0 p1
  generalize w3.alloc (.cells #[.int .i64 r0, .int .i64 r1, .int .i64 r2, .int .i64 r3, .int .i64 r4] 23) = v3 at *
  generalize w3.heap.size = g11 at *
  refine (H4.out _ bc).mono ?_
  rintro e w4 ⟨rfl, hC⟩
  dsimp only
  have k13 := Blk.new w4 23 #[.int .i64 r0, .int .i64 r1, .int .i64 r2, .int .i64 r3, .int .i64 r4]
  have al := Below.al w4 (.cells #[.int .i64 r0, .int .i64 r1, .int .i64 r2, .int .i64 r3, .int .i64 r4] 23)
  replace k3 := (k3.on hC).on al; replace k7 := (k7.on hC).on al; replace k9 := (k9.on hC).on al; replace k11 := (k11.on hC).on al; replace y1 := (y1.on hC).on al; replace y2 := (y2.on hC).on al
  replace bc := bc.trans (hC.mono bc.size); replace bc := bc.trans (al.mono bc.size)
  clear hC al k5
  go_wp2_with fail
  generalize w4.alloc (.cells #[.int .i64 r0, .int .i64 r1, .int .i64 r2, .int .i64 r3, .int .i64 r4] 23) = v4 at *
  generalize w4.heap.size = g13 at *
  clear H1 H2 H3 H4
  have hsm := fun (W : World) (ya : Byt W.heap.size W A1 bs1) (yb : Byt W.heap.size W A2 bs2) => same_res (w := W) (c := c1) (c' := c2) HI1.out HI2.out HN1.out HN2.out ya yb
  generalize (L1.length : Int) = L at *
  have HS := Lib.hid hsm; clear hsm HI1 HI2 HN1 HN2
  have hdr : Below v4.heap.size v4 v4.drew := (Below.refl _ _).drew
  replace k3 := k3.on hdr; replace k7 := k7.on hdr; replace k9 := k9.on hdr; replace k11 := k11.on hdr; replace k13 := k13.on hdr; replace y1 := y1.on hdr; replace y2 := y2.on hdr
  replace bc := bc.trans (hdr.mono bc.size)
  clear hdr
  go_region_held3 (fun w' => w'.cell? ⟨w.heap.size, 0, none⟩ = some (.int .i64 s0) ∧ w'.cell? ⟨w.heap.size, 1, none⟩ = some (.int .i64 s1) ∧ w'.cell? ⟨w.heap.size, 2, none⟩ = some (.int .i64 s2) ∧ w'.cell? ⟨w.heap.size, 3, none⟩ = some (.int .i64 s3) ∧ w'.cell? ⟨w.heap.size, 4, none⟩ = some (.int .i64 s4) ∧ w'.cell? ⟨g7, 0, none⟩ = some (.int .i64 L) ∧ w'.cell? ⟨g7, 1, none⟩ = some (.slice A1 n1 c1) ∧ w'.cell? ⟨g9, 0, none⟩ = some (.int .i64 L) ∧ w'.cell? ⟨g9, 1, none⟩ = some (.slice A2 n2 c2) ∧ w'.cell? ⟨g11, 0, none⟩ = some (.int .i64 r0) ∧ w'.cell? ⟨g11, 1, none⟩ = some (.int .i64 r1) ∧ w'.cell? ⟨g11, 2, none⟩ = some (.int .i64 r2) ∧ w'.cell? ⟨g11, 3, none⟩ = some (.int .i64 r3) ∧ w'.cell? ⟨g11, 4, none⟩ = some (.int .i64 r4) ∧ w'.cell? ⟨g13, 0, none⟩ = some (.int .i64 r0) ∧ w'.cell? ⟨g13, 1, none⟩ = some (.int .i64 r1) ∧ w'.cell? ⟨g13, 2, none⟩ = some (.int .i64 r2) ∧ w'.cell? ⟨g13, 3, none⟩ = some (.int .i64 r3) ∧ w'.cell? ⟨g13, 4, none⟩ = some (.int .i64 r4))
    (with_reducible exact keepS k3 k7 k9 k11 k13)
    (first
      | (go_at_call 11; with_reducible refine (H5.out _ bc).mono ?_; rintro e u1 ⟨rfl, hC⟩; replace k3 := k3.on hC; replace k7 := k7.on hC; replace k9 := k9.on hC; replace k11 := k11.on hC; replace k13 := k13.on hC; replace y1 := y1.on hC; replace y2 := y2.on hC; replace bc := bc.trans (hC.mono bc.size); clear hC)
      | (go_at_call 12; with_reducible refine (H6.out _).mono ?_; rintro e u2 ⟨rfl, hC⟩; replace k3 := k3.on hC; replace k7 := k7.on hC; replace k9 := k9.on hC; replace k11 := k11.on hC; replace k13 := k13.on hC; replace y1 := y1.on hC; replace y2 := y2.on hC; replace bc := bc.trans (hC.mono bc.size); clear hC)
      | (go_at_call 13; with_reducible refine (H7.out _).mono ?_; rintro e u3 ⟨rfl, hC⟩; replace k3 := k3.on hC; replace k7 := k7.on hC; replace k9 := k9.on hC; replace k11 := k11.on hC; replace k13 := k13.on hC; replace y1 := y1.on hC; replace y2 := y2.on hC; replace bc := bc.trans (hC.mono bc.size); clear hC)
      | (go_at_call 14; with_reducible refine (HS.out _ y1 y2).mono ?_; rintro e u4 ⟨rfl, hC⟩; replace k3 := k3.on hC; replace k7 := k7.on hC; replace k9 := k9.on hC; replace k11 := k11.on hC; replace k13 := k13.on hC; replace y1 := y1.on hC; replace y2 := y2.on hC; replace bc := bc.trans (hC.mono bc.size); clear hC))
  go_wp2
  go_ret
  exact ⟨rfl, bc⟩
end Go.Proofs.YteigekhfamapmaaDoor
