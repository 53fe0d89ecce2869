/-
  Put and Get of package bits and the document answer alike, for all bits, numbers, widths and places. No condition but that the bytes can be read.
-/
import Derived.Test.YtkiijnhpegbpnaaF5
namespace Go.Proofs.Ytkiijnhpegbpnaa
open Go.RowKit

set_option maxRecDepth 100000 in
set_option maxHeartbeats 2000000 in
theorem puts_law (N width at_ : Int) (v : Nat) (A : Option Addr) (n c : Nat) (bs : List UInt8) (w : World) (hn : n = bs.length) (hm : n ≤ maxLen) (hA : Byt w.heap.size w A bs) (hv : v < 2 ^ 64) :
    Calls Try.prog 4 #[.agg #[.int .i64 N, .slice A n c], .int .u64 v, .int .i64 width, .int .i64 at_] w fun e w' => e = .returned (.bool true) ∧ Below w.heap.size w w' := by
  have h1 := fun w1 (h : Below w.heap.size w w1) => put_any N width v A n c bs w1 hn hm ((hA.below h).mono h.size) hv
  have h2 := fun w1 (h : Below w.heap.size w w1) => rput_any N width v A n c bs w1 hn hm ((hA.below h).mono h.size) hv
  have h3 := fun w1 (h : Below w.heap.size w w1) => get_any N at_ width A n c bs w1 hn hm ((hA.below h).mono h.size)
  have h4 := fun w1 (h : Below w.heap.size w w1) => rget_any N at_ width A n c bs w1 hn hm ((hA.below h).mono h.size)
  generalize putS N bs v width = R at *
  generalize getS N bs at_ width = G at *
  obtain ⟨R1, R2⟩ := R
  obtain ⟨G1, G2⟩ := G
  have H1 := Lib.hid h1; have H2 := Lib.hid h2; have H3 := Lib.hid h3; have H4 := Lib.hid h4
  clear h1 h2 h3 h4 hA hn
  unfold maxLen at hm
  go_enter Try.func4, Try.ntmps4
  go_wp2_with fail
  have b0 : Below w.heap.size w (w.alloc (.cells #[.int .i64 N, .slice A n c] 24)) := (Below.refl _ _).alloc (Nat.le_refl _) _
  refine (H1.out _ b0).mono ?_
  rintro e w1 ⟨A1, n1, c1, bs1, rfl, hn1, his1, hl1, hA1, hB1, hF1⟩
  dsimp only at *
  have HN1 := Lib.hid hn1; have HI1 := Lib.hid his1; clear hn1 his1
  obtain ⟨k1, hs1, hBw1⟩ := boxes1 hB1
  obtain ⟨d1, d2, f1, f2⟩ := k1.two
  have hlt1 := k1.lt
  go_wp2_with fail
  have k1' := k1.alloc (.cells #[.int .i64 R2.length, .slice A1 n1 c1] 24)
  have x1 : Blk (w1.alloc (.cells #[.int .i64 R2.length, .slice A1 n1 c1] 24)) w1.heap.size 24 #[.int .i64 R2.length, .slice A1 n1 c1] := Blk.new w1 24 _
  refine (H2.out _ (hBw1.alloc (by omega) _)).mono ?_
  rintro e w2 ⟨A2, n2, c2, bs2, rfl, hn2, his2, hl2, hA2, hB2, hF2⟩
  dsimp only at *
  have HN2 := Lib.hid hn2; have HI2 := Lib.hid his2; clear hn2 his2
  have k2 := k1'.below hB2 k1'.lt
  have x2 := x1.below hB2 x1.lt
  have hBw2 := (hBw1.alloc (by omega) _).trans (hB2.mono (by have := hBw1.size; simp; omega))
  have y1 : Byt w2.heap.size w2 A1 bs1 := ((hA1.below ((Below.refl _ _).alloc (Nat.le_refl _) (.cells #[.int .i64 R2.length, .slice A1 n1 c1] 24))).below (hB2.mono (by simp))).mono (by have := hB2.size; simp at this; omega)
  clear d1 d2 f1 f2 k1 k1' x1
  obtain ⟨d1, d2, f1, f2⟩ := k2.two
  have hlt2 := k2.lt
  have hlt3 := x2.lt
  have k2' := k2.alloc (.cells #[.int .i64 R2.length, .slice A2 n2 c2] 24)
  have x2' := x2.alloc (.cells #[.int .i64 R2.length, .slice A2 n2 c2] 24)
  have z2' : Blk (w2.alloc (.cells #[.int .i64 R2.length, .slice A2 n2 c2] 24)) w2.heap.size 24 #[.int .i64 R2.length, .slice A2 n2 c2] := Blk.new w2 24 _
  have hBa := (Below.refl w2.heap.size w2).alloc (Nat.le_refl _) (.cells #[.int .i64 R2.length, .slice A2 n2 c2] 24)
  have hBw3 := hBw2.alloc hBw2.size (.cells #[.int .i64 R2.length, .slice A2 n2 c2] 24)
  go_wp2_with fail
  refine (H3.out _ hBw3).mono ?_
  rintro e w3 ⟨rfl, hB3⟩
  dsimp only at *
  have k3 := k2'.below hB3 k2'.lt
  have x3 := x2'.below hB3 x2'.lt
  have z3 := z2'.below hB3 z2'.lt
  have hBw4 := hBw3.trans (hB3.mono hBw3.size)
  have hB23 := hBa.trans (hB3.mono hBa.size)
  have hs3 := hB3.size
  clear d1 d2 f1 f2 k2 k2' x2 x2' z2' hBa
  obtain ⟨d1, d2, f1, f2⟩ := k3.two
  go_wp2_with fail
  refine (H4.out _ hBw4).mono ?_
  rintro e w4 ⟨rfl, hB4⟩
  dsimp only at *
  have x4 := x3.below hB4 x3.lt
  have z4 := z3.below hB4 z3.lt
  have hBw5 := hBw4.trans (hB4.mono hBw4.size)
  have hB24 := hB23.trans (hB4.mono hB23.size)
  clear d1 d2 f1 f2 k3 x3 z3
  go_wp2_with fail
  refine (begun_any _).mono ?_
  rintro e w5 ⟨rfl, hB5⟩
  have x5 := x4.below hB5 x4.lt
  have z5 := z4.below hB5 z4.lt
  have hBw6 := hBw5.trans (hB5.mono hBw5.size)
  have hB25 := hB24.trans (hB5.mono hB24.size)
  obtain ⟨d1, d2, f1, f2⟩ := x5.two
  obtain ⟨d3, d4, f3, f4⟩ := z5.two
  clear x4 z4
  obtain rfl : bs1 = bs2 := HI1.out.unique HI2.out
  have hsame := rsame_any R2.length R2.length A1 A2 n1 n2 c1 c2 bs1 bs1 w5 HN1.out HN2.out ((y1.below hB25).mono hB25.size) ((hA2.below hB25).mono hB25.size)
  rw [sameB_self] at hsame
  have HSM := Lib.hid hsame; clear hsame
  go_wp2_with fail
  refine HSM.out.mono ?_
  rintro e w6 ⟨rfl, hB6⟩
  go_wp2
  go_ret
  exact ⟨rfl, hBw6.trans (hB6.mono hBw6.size)⟩
end Go.Proofs.Ytkiijnhpegbpnaa
