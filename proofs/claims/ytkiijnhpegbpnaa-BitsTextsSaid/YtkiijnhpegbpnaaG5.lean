/-
  Text, Parse and Same of package bits and the document answer alike, for all bits and texts. No condition but that the bytes can be read.
-/
import Derived.Test.YtkiijnhpegbpnaaG4
namespace Go.Proofs.Ytkiijnhpegbpnaa
open Go.RowKit

set_option maxRecDepth 100000 in
set_option maxHeartbeats 2000000 in
theorem texts_law (N N' : Int) (A A' : Option Addr) (n n' c c' : Nat) (bs bs' : List UInt8) (s : ByteArray) (w : World) (hn : n = bs.length) (hn' : n' = bs'.length) (hm : n ≤ maxLen) (hA : Byt w.heap.size w A bs) (hA' : Byt w.heap.size w A' bs') (hs : s.size ≤ maxLen) :
    Calls Try.prog 6 #[.agg #[.int .i64 N, .slice A n c], .agg #[.int .i64 N', .slice A' n' c'], .string s] w fun e w' => e = .returned (.bool true) ∧ Below w.heap.size w w' := by
  have h1 := fun w1 => parse_any s w1 hs
  have h2 := fun w1 => rparse_any s w1 hs
  generalize parseS s.data.toList = R at *
  obtain ⟨R1, R2⟩ := R
  have H1 := Lib.hid h1; have H2 := Lib.hid h2; have HA := Lib.hid hA; have HA' := Lib.hid hA'; have HN := Lib.hid hn; have HN' := Lib.hid hn'; have HMM := Lib.hid hm
  clear h1 h2 hA hA' hn hn' hs hm
  go_enter Try.func6, Try.ntmps6
  go_wp2_with fail
  refine (H1.out _).mono ?_
  rintro e w1 ⟨A1, n1, c1, bs1, rfl, hn1, his1, hl1, hA1, hB1, hF1⟩
  dsimp only at *
  have HN1 := Lib.hid hn1; have HI1 := Lib.hid his1; clear hn1 his1
  obtain ⟨k1, k2, hs1, hBw1⟩ := boxes2 hB1
  have k1' := k1.alloc (.cells #[.int .i64 R2.length, .slice A1 n1 c1] 24)
  have k2' := k2.alloc (.cells #[.int .i64 R2.length, .slice A1 n1 c1] 24)
  have x1 : Blk (w1.alloc (.cells #[.int .i64 R2.length, .slice A1 n1 c1] 24)) w1.heap.size 24 #[.int .i64 R2.length, .slice A1 n1 c1] := Blk.new w1 24 _
  have hBa := hBw1.alloc hBw1.size (.cells #[.int .i64 R2.length, .slice A1 n1 c1] 24)
  have y1 : Byt (w1.alloc (.cells #[.int .i64 R2.length, .slice A1 n1 c1] 24)).heap.size (w1.alloc (.cells #[.int .i64 R2.length, .slice A1 n1 c1] 24)) A1 bs1 := (hA1.below ((Below.refl _ _).alloc (Nat.le_refl _) _)).mono (by simp)
  go_wp2_with fail
  refine (H2.out _).mono ?_
  rintro e w2 ⟨A2, n2, c2, bs2, rfl, hn2, his2, hl2, hA2, hB2, hF2⟩
  dsimp only at *
  have HN2 := Lib.hid hn2; have HI2 := Lib.hid his2; clear hn2 his2
  have k3 := (k1'.below hB2 k1'.lt).alloc (.cells #[.int .i64 R2.length, .slice A2 n2 c2] 24)
  have k4 := (k2'.below hB2 k2'.lt).alloc (.cells #[.int .i64 R2.length, .slice A2 n2 c2] 24)
  have x2 := (x1.below hB2 x1.lt).alloc (.cells #[.int .i64 R2.length, .slice A2 n2 c2] 24)
  have z2 : Blk (w2.alloc (.cells #[.int .i64 R2.length, .slice A2 n2 c2] 24)) w2.heap.size 24 #[.int .i64 R2.length, .slice A2 n2 c2] := Blk.new w2 24 _
  have hBw2 := hBa.trans (hB2.mono hBa.size)
  have hBb := hBw2.alloc hBw2.size (.cells #[.int .i64 R2.length, .slice A2 n2 c2] 24)
  have y2 : Byt (w2.alloc (.cells #[.int .i64 R2.length, .slice A2 n2 c2] 24)).heap.size (w2.alloc (.cells #[.int .i64 R2.length, .slice A2 n2 c2] 24)) A1 bs1 := ((y1.below hB2).below ((Below.refl _ _).alloc hB2.size _)).mono (by have := hB2.size; simp at *; omega)
  have y3 : Byt (w2.alloc (.cells #[.int .i64 R2.length, .slice A2 n2 c2] 24)).heap.size (w2.alloc (.cells #[.int .i64 R2.length, .slice A2 n2 c2] 24)) A2 bs2 := (hA2.below ((Below.refl _ _).alloc (Nat.le_refl _) _)).mono (by simp)
  obtain rfl : bs1 = bs2 := HI1.out.unique HI2.out
  go_wp2_with fail
  clear k1 k2 k1' k2' x1 y1 hB1 hB2 hBa hBw1 hBw2 hA1 hA2
  generalize hW : w2.alloc (.cells #[.int .i64 R2.length, .slice A2 n2 c2] 24) = W at *
  have y4 := (HA.out.below hBb).mono hBb.size
  have y5 := (HA'.out.below hBb).mono hBb.size
  obtain ⟨p1, p2⟩ := near_two k3
  obtain ⟨p3, p4⟩ := near_two k4
  obtain ⟨p5, p6⟩ := near_two x2
  obtain ⟨p7, p8⟩ := near_two z2
  have Y2 := Lib.hid y2; have Y3 := Lib.hid y3; have Y4 := Lib.hid y4; have Y5 := Lib.hid y5; have HBB := Lib.hid hBb
  clear y2 y3 y4 y5 k3 k4 x2 z2 hBb hW HA HA'
  have q1 := fun nw : NearW W => near_call (rsame_any R2.length R2.length A1 A2 n1 n2 c1 c2 bs1 bs1 nw.W HN1.out HN2.out (near_byt Y2.out nw) (near_byt Y3.out nw))
  have q2 := fun nw : NearW W => near_call (rsame_any N N' A A' n n' c c' bs bs' nw.W HN.out HN'.out (near_byt Y4.out nw) (near_byt Y5.out nw))
  have q3 := fun nw : NearW W => near_call (same_any N N' A A' n n' c c' bs bs' nw.W HN.out HN'.out (near_byt Y4.out nw) (near_byt Y5.out nw))
  have q4 := fun nw : NearW W => near_call (same_any N N A A n n c c bs bs nw.W HN.out HN.out (near_byt Y4.out nw) (near_byt Y4.out nw))
  rw [sameB_self] at q1 q4
  generalize sameB N bs N' bs' = sb at *
  have Q1 := Lib.hid q1; have Q2 := Lib.hid q2; have Q3 := Lib.hid q3; have Q4 := Lib.hid q4
  clear q1 q2 q3 q4
  refine wp_region_near (by kernel_rfl) (by kernel_rfl) ?_
  repeat (go_big_quiet_step (first
    | (go_at_call 13; exact near_call (begun_any _))
    | (go_at_call 34; exact near_call (text_any N A n c bs _ HN.out HMM.out (near_byt Y4.out _)))
    | (go_at_call 35; exact near_call (rtext_any N A n c bs _ HN.out HMM.out (near_byt Y4.out _)))
    | (go_at_call 16; with_reducible exact Q1.out _)
    | (go_at_call 16; with_reducible exact Q2.out _)
    | (go_at_call 36; with_reducible exact Q3.out _)
    | (go_at_call 36; with_reducible exact Q4.out _)))
  refine wpQuiet_nil ?_
  rintro _ ⟨nw, rfl⟩
  go_wp2
  go_ret
  exact ⟨rfl, HBB.out.trans (nw.h.mono HBB.out.size)⟩
end Go.Proofs.Ytkiijnhpegbpnaa
