/-
  Slice, Join and Flip of package bits and the document answer alike, for all bits, lists of bits and places; what is handed in stays. No condition but that all can be read, and that the bits' bytes are at most 2^47.
-/
import Derived.Test.YtkiijnhpegbpnaaP2
namespace Go.Proofs.Ytkiijnhpegbpnaa
open Go.RowKit

/-- What the law's own variables hold: the bits that came in, their bytes cloned, and the two answers. -/
structure PartsSt (w : World) (N : Int) (A WA : Option Addr) (n c : Nat) (bs : List UInt8) (xb yb : Nat) (x0 x1 y0 y1 : Value) (W : World) : Prop where
  arg : Blk W w.heap.size 24 #[.int .i64 N, .slice A n c]
  was : Byt xb W WA bs
  x : Blk W xb 24 #[x0, x1]
  y : Blk W yb 24 #[y0, y1]
  low : Below w.heap.size w W
  wx : w.heap.size < xb
  xy : xb < yb
theorem PartsSt.after {w : World} {N : Int} {A WA : Option Addr} {n c : Nat} {bs : List UInt8} {xb yb : Nat} {x0 x1 y0 y1 : Value} {W W' : World} (h : PartsSt w N A WA n c bs xb yb x0 x1 y0 y1 W) (hB : Below W.heap.size W W') :
    PartsSt w N A WA n c bs xb yb x0 x1 y0 y1 W' :=
  ⟨h.arg.below hB h.arg.lt, h.was.below (hB.mono (Nat.le_of_lt h.x.lt)), h.x.below hB h.x.lt, h.y.below hB h.y.lt, h.low.trans (hB.mono h.low.size), h.wx, h.xy⟩
theorem PartsSt.putX {w : World} {N : Int} {A WA : Option Addr} {n c : Nat} {bs : List UInt8} {xb yb : Nat} {x0 x1 y0 y1 : Value} {W : World} (h : PartsSt w N A WA n c bs xb yb x0 x1 y0 y1 W) (u v : Value) :
    PartsSt w N A WA n c bs xb yb u v y0 y1 ((W.setCell ⟨xb, 0, none⟩ u).setCell ⟨xb, 1, none⟩ v) := by
  have h1 := h.wx; have h2 := h.xy
  exact ⟨(h.arg.far (p := ⟨xb, 0, none⟩) (by dsimp only; omega) _).far (p := ⟨xb, 1, none⟩) (by dsimp only; omega) _,
    h.was.below (((Below.refl xb W).setCell (p := ⟨xb, 0, none⟩) (by simp) _).setCell (p := ⟨xb, 1, none⟩) (by simp) _),
    h.x.put2 u v, (h.y.far (p := ⟨xb, 0, none⟩) (by dsimp only; omega) _).far (p := ⟨xb, 1, none⟩) (by dsimp only; omega) _,
    (h.low.setCell (p := ⟨xb, 0, none⟩) (by dsimp only; omega) _).setCell (p := ⟨xb, 1, none⟩) (by dsimp only; omega) _, h1, h2⟩
theorem PartsSt.putY {w : World} {N : Int} {A WA : Option Addr} {n c : Nat} {bs : List UInt8} {xb yb : Nat} {x0 x1 y0 y1 : Value} {W : World} (h : PartsSt w N A WA n c bs xb yb x0 x1 y0 y1 W) (u v : Value) :
    PartsSt w N A WA n c bs xb yb x0 x1 u v ((W.setCell ⟨yb, 0, none⟩ u).setCell ⟨yb, 1, none⟩ v) := by
  have h1 := h.wx; have h2 := h.xy
  exact ⟨(h.arg.far (p := ⟨yb, 0, none⟩) (by dsimp only; omega) _).far (p := ⟨yb, 1, none⟩) (by dsimp only; omega) _,
    h.was.below (((Below.refl xb W).setCell (p := ⟨yb, 0, none⟩) (by dsimp only; omega) _).setCell (p := ⟨yb, 1, none⟩) (by dsimp only; omega) _),
    (h.x.far (p := ⟨yb, 0, none⟩) (by dsimp only; omega) _).far (p := ⟨yb, 1, none⟩) (by dsimp only; omega) _, h.y.put2 u v,
    (h.low.setCell (p := ⟨yb, 0, none⟩) (by dsimp only; omega) _).setCell (p := ⟨yb, 1, none⟩) (by dsimp only; omega) _, h1, h2⟩
/-- Bytes of an answer that is laid into a variable made before. -/
theorem Byt.laid {w w1 : World} {A : Option Addr} {bs : List UInt8} {xb : Nat} (h : Byt w1.heap.size w1 A bs) (hF : Fresh w.heap.size A bs) (hx : xb < w.heap.size) (u v : Value) :
    Byt ((w1.setCell ⟨xb, 0, none⟩ u).setCell ⟨xb, 1, none⟩ v).heap.size ((w1.setCell ⟨xb, 0, none⟩ u).setCell ⟨xb, 1, none⟩ v) A bs := by
  have h2 := (h.set_low hF (p := ⟨xb, 0, none⟩) hx u).set_low hF (p := ⟨xb, 1, none⟩) hx v
  simpa using h2
theorem two_size (w : World) (xb : Nat) (u v : Value) : ((w.setCell ⟨xb, 0, none⟩ u).setCell ⟨xb, 1, none⟩ v).heap.size = w.heap.size := by simp

set_option maxRecDepth 100000 in
set_option maxHeartbeats 2000000 in
theorem parts_law (N fr to : Int) (A X Z : Option Addr) (n c xn xc zn zc : Nat) (bs : List UInt8) (xs : List BV) (zs : List Int) (w : World) (hn : n = bs.length) (hm : n ≤ 140737488351232) (hA : Byt w.heap.size w A bs) (hc : A = none → n = 0 ∧ c = 0)
    (hxn : xn = xs.length) (hxm : xn ≤ maxLen) (hX : BVs w.heap.size w X xs) (hok : ∀ x ∈ xs, BVok w.heap.size w x) (hzn : zn = zs.length) (hzm : zn ≤ maxLen) (hZ : Ints w.heap.size w Z zs) :
    Calls Try.prog 5 #[.agg #[.int .i64 N, .slice A n c], .slice X xn xc, .int .i64 fr, .int .i64 to, .slice Z zn zc] w fun e w' => e = .returned (.bool true) ∧ Below w.heap.size w w' := by
  have hml : n ≤ maxLen := by unfold maxLen; omega
  have h0 := fun w1 (h : Below w.heap.size w w1) => clone_any A n c bs w1 hn hm ((hA.below h).mono h.size) hc
  have h1 := fun w1 (h : Below w.heap.size w w1) => slice_any N fr to A n c bs w1 hn hml ((hA.below h).mono h.size)
  have h2 := fun w1 (h : Below w.heap.size w w1) => rslice_any N fr to A n c bs w1 hn hml ((hA.below h).mono h.size)
  have hbv : ∀ w1, Below w.heap.size w w1 → BVs w1.heap.size w1 X xs ∧ ∀ x ∈ xs, BVok w1.heap.size w1 x := fun w1 h =>
    ⟨fun hne => by
      obtain ⟨b, off, e, hlt, hcc⟩ := hX hne
      exact ⟨b, off, e, Nat.lt_of_lt_of_le hlt h.size, fun j x hj => ⟨(h.cell (p := ⟨b, off + j * 2, none⟩) hlt).trans (hcc j x hj).1, (h.cell (p := ⟨b, off + j * 2 + 1, none⟩) hlt).trans (hcc j x hj).2⟩⟩,
     fun x hx => (hok x hx).below h h.size⟩
  have h3 := fun w1 (h : Below w.heap.size w w1) => join_any X xn xc xs w1 hxn hxm (hbv w1 h).1 (hbv w1 h).2
  have h4 := fun w1 (h : Below w.heap.size w w1) => rjoin_any X xn xc xs w1 hxn hxm (hbv w1 h).1 (hbv w1 h).2
  have h5 := fun w1 (h : Below w.heap.size w w1) => flip_any N A Z n c zn zc bs zs w1 hn hml ((hA.below h).mono h.size) hzn hzm ((hZ.below h).mono h.size)
  have h6 := fun w1 (h : Below w.heap.size w w1) => rflip_any N A Z n c zn zc bs zs w1 hn hml ((hA.below h).mono h.size) hzn hzm ((hZ.below h).mono h.size)
  have h7 := fun w1 (h : Below w.heap.size w w1) WA wc (hw : Byt w1.heap.size w1 WA bs) => esame_yes A WA c wc n bs w1 hn hml ((hA.below h).mono h.size) hw
  generalize sliceS N bs fr to = R at *
  generalize joinS xs = J at *
  generalize flipS N bs zs = F at *
  obtain ⟨R1, R2⟩ := R
  obtain ⟨J1, J2⟩ := J
  obtain ⟨F1, F2⟩ := F
  have H0 := Lib.hid h0; have H1 := Lib.hid h1; have H2 := Lib.hid h2; have H3 := Lib.hid h3; have H4 := Lib.hid h4; have H5 := Lib.hid h5; have H6 := Lib.hid h6; have H7 := Lib.hid h7
  clear h0 h1 h2 h3 h4 h5 h6 h7 hA hn hbv hX hok hZ hxn hzn hc
  unfold maxLen at hxm hzm
  go_enter Try.func5, Try.ntmps5
  go_wp2_with fail
  have b0 : Below w.heap.size w (w.alloc (.cells #[.int .i64 N, .slice A n c] 24)) := (Below.refl _ _).alloc (Nat.le_refl _) _
  refine (H0.out _ b0).mono ?_
  rintro e w0 ⟨WA, wc, rfl, hW0, hB0⟩
  obtain ⟨k0, hs0, hBw0⟩ := boxes1 hB0
  obtain ⟨d1, d2, f1, f2⟩ := k0.two
  have hlt0 := k0.lt
  go_wp2_with fail
  refine (H1.out _ hBw0).mono ?_
  rintro e w1 ⟨A1, n1, c1, bs1, rfl, hn1, his1, hl1, hA1, hB1, hF1⟩
  dsimp only at *
  have HN1 := Lib.hid hn1; have HI1 := Lib.hid his1; clear hn1 his1
  have k1 := k0.below hB1 k0.lt
  have hW1 := hW0.below hB1
  have hBw1 := hBw0.trans (hB1.mono hBw0.size)
  clear d1 d2 f1 f2 k0
  obtain ⟨d1, d2, f1, f2⟩ := k1.two
  have hlt1 := k1.lt
  go_wp2_with fail
  have hw1s : w.heap.size < w1.heap.size := hlt1
  have k1' := k1.alloc (.cells #[.int .i64 R2.length, .slice A1 n1 c1] 24)
  have x1 : Blk (w1.alloc (.cells #[.int .i64 R2.length, .slice A1 n1 c1] 24)) w1.heap.size 24 #[.int .i64 R2.length, .slice A1 n1 c1] := Blk.new w1 24 _
  have hBa1 := (Below.refl w1.heap.size w1).alloc (Nat.le_refl _) (.cells #[.int .i64 R2.length, .slice A1 n1 c1] 24)
  have hBw1' := hBw1.alloc hBw1.size (.cells #[.int .i64 R2.length, .slice A1 n1 c1] 24)
  refine (H2.out _ hBw1').mono ?_
  rintro e w2 ⟨A2, n2, c2, bs2, rfl, hn2, his2, hl2, hA2, hB2, hF2⟩
  dsimp only at *
  have HN2 := Lib.hid hn2; have HI2 := Lib.hid his2; clear hn2 his2
  have hB12 := hBa1.trans (hB2.mono (by simp))
  have y1 := (hA1.below hB12).mono hB12.size
  have hst : PartsSt w N A WA n c bs w1.heap.size w2.heap.size (.int .i64 R2.length) (.slice A1 n1 c1) (.int .i64 R2.length) (.slice A2 n2 c2) (w2.alloc (.cells #[.int .i64 R2.length, .slice A2 n2 c2] 24)) := by
    have hx2 := x1.below hB2 x1.lt
    have hk2 := k1'.below hB2 k1'.lt
    have hBw2 := hBw1'.trans (hB2.mono hBw1'.size)
    exact ⟨hk2.alloc _, ((hW1.mono hB1.size).below (hBa1.trans (hB2.mono (by simp)))).below ((Below.refl _ _).alloc hB12.size _), hx2.alloc _, Blk.new w2 24 _, hBw2.alloc hBw2.size _, hw1s, by have := hB2.size; simp at this; omega⟩
  have hBa2 := (Below.refl w2.heap.size w2).alloc (Nat.le_refl _) (.cells #[.int .i64 R2.length, .slice A2 n2 c2] 24)
  have hlt2 := hst.x.lt
  have hlt3 := hst.arg.lt
  have hxw2 : w1.heap.size < w2.heap.size := hst.xy
  have hww2 : w.heap.size < w2.heap.size := by omega
  clear d1 d2 f1 f2 k1 k1' x1 hBa1
  go_wp2_with fail
  refine (begun_any _).mono ?_
  rintro e w3 ⟨rfl, hB3⟩
  have hst3 := hst.after hB3
  have hB23 := hBa2.trans (hB3.mono (by simp))
  clear hst hBa2 hB3
  obtain ⟨d1, d2, f1, f2⟩ := hst3.x.two
  obtain ⟨d3, d4, f3, f4⟩ := hst3.y.two
  obtain rfl : bs1 = bs2 := HI1.out.unique HI2.out
  have hsame := rsame_any R2.length R2.length A1 A2 n1 n2 c1 c2 bs1 bs1 w3 HN1.out HN2.out ((y1.below hB23).mono hB23.size) ((hA2.below hB23).mono hB23.size)
  rw [sameB_self] at hsame
  have HSM := Lib.hid hsame; clear hsame
  go_wp2_with fail
  refine HSM.out.mono ?_
  rintro e w4 ⟨rfl, hB4⟩
  have hst4 := hst3.after hB4
  clear HSM d1 d2 d3 d4 f1 f2 f3 f4 hst3 hB23 y1 hA2 hA1
  generalize w1.heap.size = xb at *
  generalize w2.heap.size = yb at *
  go_wp2_with fail
  refine (H3.out _ hst4.low).mono ?_
  rintro e w5 ⟨A3, n3, c3, bs3, rfl, hn3, his3, hl3, hA3, hB5, hF3⟩
  dsimp only at *
  have HN3 := Lib.hid hn3; have HI3 := Lib.hid his3; clear hn3 his3
  have hst5 := hst4.after hB5
  obtain ⟨d1, d2, f1, f2⟩ := hst5.x.two
  obtain ⟨e1, e2, g1, g2⟩ := hst5.arg.two
  have hxl := hst5.x.lt
  have hwl := hst5.arg.lt
  have hwx := hst5.wx
  go_wp2_with fail
  have hst5s := hst5.putX (.int .i64 J2.length) (.slice A3 n3 c3)
  have y3 := hA3.laid hF3 hst4.x.lt (.int .i64 J2.length) (.slice A3 n3 c3)
  refine (H4.out _ hst5s.low).mono ?_
  rintro e w6 ⟨A4, n4, c4, bs4, rfl, hn4, his4, hl4, hA4, hB6, hF4⟩
  dsimp only at *
  have HN4 := Lib.hid hn4; have HI4 := Lib.hid his4; clear hn4 his4
  have hst6 := hst5s.after hB6
  have y3' := (y3.below hB6).mono hB6.size
  have hyl := hst6.y.lt
  have hxy := hst6.xy
  clear d1 d2 f1 f2 e1 e2 g1 g2
  obtain ⟨d1, d2, f1, f2⟩ := hst6.y.two
  obtain ⟨d3, d4, f3, f4⟩ := hst6.x.two
  have hst6s := hst6.putY (.int .i64 J2.length) (.slice A4 n4 c4)
  have z3 := y3'.laid hF3 hst4.y.lt (.int .i64 J2.length) (.slice A4 n4 c4)
  have z4 := hA4.laid hF4 hst5s.y.lt (.int .i64 J2.length) (.slice A4 n4 c4)
  obtain rfl : bs3 = bs4 := HI3.out.unique HI4.out
  have hsame := rsame_any J2.length J2.length A3 A4 n3 n4 c3 c4 bs3 bs3 _ HN3.out HN4.out z3 z4
  rw [sameB_self] at hsame
  have HSM := Lib.hid hsame; clear hsame
  go_wp2_with fail
  refine HSM.out.mono ?_
  rintro e w7 ⟨rfl, hB7⟩
  have hst7 := hst6s.after hB7
  clear HSM d1 d2 d3 d4 f1 f2 f3 f4 z3 z4 y3 y3' hA3 hA4 hst5 hst5s hst6 hst6s hxl hwl hwx hyl hxy hB5 hB6 hB7 hst4
  obtain ⟨e1, e2, g1, g2⟩ := hst7.arg.two
  have hwl := hst7.arg.lt
  go_wp2_with fail
  clear e1 e2 g1 g2
  refine (H5.out _ hst7.low).mono ?_
  rintro e w8 ⟨A3, n3, c3, bs3, rfl, hn3, his3, hl3, hA3, hB8, hF3⟩
  dsimp only at *
  have HN3 := Lib.hid hn3; have HI3 := Lib.hid his3; clear hn3 his3
  have hst8 := hst7.after hB8
  obtain ⟨d1, d2, f1, f2⟩ := hst8.x.two
  obtain ⟨e1, e2, g1, g2⟩ := hst8.arg.two
  have hxl := hst8.x.lt
  have hwl := hst8.arg.lt
  have hwx := hst8.wx
  go_wp2_with fail
  have hst8s := hst8.putX (.int .i64 F2.length) (.slice A3 n3 c3)
  have y3 := hA3.laid hF3 hst7.x.lt (.int .i64 F2.length) (.slice A3 n3 c3)
  refine (H6.out _ hst8s.low).mono ?_
  rintro e w9 ⟨A4, n4, c4, bs4, rfl, hn4, his4, hl4, hA4, hB9, hF4⟩
  dsimp only at *
  have HN4 := Lib.hid hn4; have HI4 := Lib.hid his4; clear hn4 his4
  have hst9 := hst8s.after hB9
  have y3' := (y3.below hB9).mono hB9.size
  have hyl := hst9.y.lt
  have hxy := hst9.xy
  clear d1 d2 f1 f2 e1 e2 g1 g2
  obtain ⟨d1, d2, f1, f2⟩ := hst9.y.two
  obtain ⟨d3, d4, f3, f4⟩ := hst9.x.two
  have hst9s := hst9.putY (.int .i64 F2.length) (.slice A4 n4 c4)
  have z3 := y3'.laid hF3 hst7.y.lt (.int .i64 F2.length) (.slice A4 n4 c4)
  have z4 := hA4.laid hF4 hst8s.y.lt (.int .i64 F2.length) (.slice A4 n4 c4)
  obtain rfl : bs3 = bs4 := HI3.out.unique HI4.out
  have hsame := rsame_any F2.length F2.length A3 A4 n3 n4 c3 c4 bs3 bs3 _ HN3.out HN4.out z3 z4
  rw [sameB_self] at hsame
  have HSM := Lib.hid hsame; clear hsame
  go_wp2_with fail
  refine HSM.out.mono ?_
  rintro e w10 ⟨rfl, hB10⟩
  have hst10 := hst9s.after hB10
  clear HSM d1 d2 d3 d4 f1 f2 f3 f4 z3 z4 y3 y3' hA3 hA4 hst8 hst8s hst9 hst9s hxl hwl hwx hyl hxy hB8 hB9 hB10 hst7
  obtain ⟨e1, e2, g1, g2⟩ := hst10.arg.two
  have hwas := hst10.was.mono (Nat.le_of_lt hst10.x.lt)
  have heq := H7.out _ hst10.low WA wc hwas
  have HEQ := Lib.hid heq; clear heq
  go_wp2_with fail
  refine HEQ.out.mono ?_
  rintro e w11 ⟨rfl, hB11⟩
  go_wp2
  go_ret
  exact ⟨rfl, hst10.low.trans (hB11.mono hst10.low.size)⟩
end Go.Proofs.Ytkiijnhpegbpnaa
