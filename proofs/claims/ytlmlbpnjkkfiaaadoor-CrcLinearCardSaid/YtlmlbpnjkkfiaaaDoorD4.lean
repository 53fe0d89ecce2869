/-
  The law of sealed bits: what was sealed is opened as it was. Conditions: that the bytes can be read, and that the table holds what the program's text lays.
-/
import Derived.Test.YtlmlbpnjkkfiaaaDoorD3
import Derived.Test.YtlmlbpnjkkfiaaaDoorD0
namespace Go.Proofs.YtlmlbpnjkkfiaaaDoor
open Go.RowKit

set_option maxHeartbeats 4000000 in
theorem back_law (N : Int) (A : Option Addr) (n c : Nat) (bs : List UInt8) (M : Int) (B : Option Addr) (m d : Nat) (us : List UInt8) (w : World) (hn : n = bs.length) (hm : n ≤ maxLen) (hA : Byt w.heap.size w A bs) (hn2 : m = us.length) (hm2 : m ≤ maxLen) (hB : Byt w.heap.size w B us) (hT : Tab w) :
    Calls Tryd.prog 5 #[.agg #[.int .i64 N, .slice A n c], .agg #[.int .i64 M, .slice B m d]] w fun e w' => e = .returned (.bool true) ∧ Below w.heap.size w w' := by
  have h1 := fun (w1 : World) (h : Below w.heap.size w w1) => seal_any N A n c bs M B m d us w1 hn hm (hA.on h) hn2 hm2 (hB.on h) (hT.on h)
  have h5 := fun (w1 : World) (h : Below w.heap.size w w1) => begun_any w1 (hT.on h)
  obtain ⟨R, hR⟩ : ∃ R, R = sealS N bs M us := ⟨_, rfl⟩
  rw [← hR] at h1
  obtain ⟨R1, R2⟩ := R
  have H1 := Lib.hid h1; have H5 := Lib.hid h5
  clear h1 h5
  by_cases h0 : R1 = 0
  · subst h0
    obtain ⟨g1, g2, hR2⟩ := seal_zero hR rfl
    dsimp only at hR2
    clear hR
    have hlen := good_length g1
    have hlb := good_isBits g1
    have hsum := sealed_sum (listOf M us) (listOf N bs)
    have hfr := front_sealed (listOf N bs) (rem 0 (listOf M us ++ listOf N bs))
    rw [← hR2] at hsum hfr
    have hl2 : (R2.length : Int) = N + 24 := by rw [hR2, List.length_append, numBits_length]; omega
    have hN0 := ((good_iff N bs).1 g1).1
    have hN1 := ((good_iff N bs).1 g1).2.1
    clear hR2
    have h3 := fun (w1 : World) (A1 : Option Addr) (n1 c1 : Nat) (bs1 : List UInt8) (h : Below w.heap.size w w1) (hn1 : n1 = bs1.length) (hi : IsBits R2 bs1) (hl : R2.length ≤ 4096) (y1 : Byt w1.heap.size w1 A1 bs1) => by
      have := open_any (R2.length : Nat) A1 n1 c1 bs1 M B m d us w1 hn1 (by rw [hn1]; exact bytes_small hi hl) y1 hn2 hm2 (hB.on h) (hT.on h)
      rw [open_more hi hl g2 (by omega), if_pos hsum, hfr] at this
      exact this
    have h4 := fun (w1 : World) (A3 : Option Addr) (n3 c3 : Nat) (bs3 : List UInt8) (h : Below w.heap.size w w1) (hn3 : n3 = bs3.length) (hi : IsBits (listOf N bs) bs3) (y3 : Byt w1.heap.size w1 A3 bs3) => by
      have := rsame_any ((listOf N bs).length : Nat) N A3 A n3 n c3 c bs3 bs w1 hn3 hn y3 (hA.on h)
      have hsm : sameB ((listOf N bs).length : Nat) bs3 N bs = true := by rw [hlen, hi.unique hlb]; exact sameB_self _ _
      rw [hsm] at this
      exact this
    generalize listOf N bs = l at *
    have H3 := Lib.hid h3; have H4 := Lib.hid h4; have HLB := Lib.hid hlb
    have hcmp : ((R2.length : Int) == N + 24) = true := by simpa using hl2
    clear h3 h4 hA hn hB hn2 hT hsum hfr g1 g2 hl2 hlb hlen
    unfold maxLen at hm hm2
    have k1 : Blk ((w.alloc (.cells #[.int .i64 N, .slice A n c] 32)).alloc (.cells #[.int .i64 M, .slice B m d] 32)) w.heap.size 32 #[.int .i64 N, .slice A n c] := (Blk.new w 32 _).alloc _
    have k2 : Blk ((w.alloc (.cells #[.int .i64 N, .slice A n c] 32)).alloc (.cells #[.int .i64 M, .slice B m d] 32)) (w.heap.size + 1) 32 #[.int .i64 M, .slice B m d] := by simpa using Blk.new (w.alloc (.cells #[.int .i64 N, .slice A n c] 32)) 32 #[.int .i64 M, .slice B m d]
    have bw : Below w.heap.size w ((w.alloc (.cells #[.int .i64 N, .slice A n c] 32)).alloc (.cells #[.int .i64 M, .slice B m d] 32)) := ((Below.refl _ _).alloc (Nat.le_refl _) _).alloc (by simp) _
    go_enter Tryd.func5, Tryd.ntmps5
    obtain ⟨p1, q1, r1, s1⟩ := k1.two
    have l1 := k1.lt
    obtain ⟨p2, q2, r2, s2⟩ := k2.two
    have l2 := k2.lt
    go_wp2_with fail
    refine (H1.out _ bw).mono ?_
    rintro e w1 ⟨A1, n1, c1, bs1, rfl, hn1, his1, hl1, y1, hB1, hF1⟩
    dsimp only at hn1 his1 hl1 y1 hB1 hF1
    have HN1 := Lib.hid hn1; have HI1 := Lib.hid his1; clear hn1 his1
    clear p1 q1 r1 s1 l1 p2 q2 r2 s2 l2
    replace k1 := k1.on hB1
    replace k2 := k2.on hB1
    replace bw := bw.trans (hB1.mono bw.size)
    have al_x1 := Below.al w1 (.cells #[.int .i64 (R2.length : Nat), .slice A1 n1 c1] 32)
    have x1 := Blk.new w1 32 #[.int .i64 (R2.length : Nat), .slice A1 n1 c1]
    replace k1 := k1.on al_x1
    replace k2 := k2.on al_x1
    replace y1 := y1.on al_x1
    replace bw := bw.trans (al_x1.mono bw.size)
    go_wp2_with fail
    refine (H5.out _ bw).mono ?_
    rintro e w2 ⟨rfl, hB2⟩
    try dsimp only
    replace k1 := k1.on hB2
    replace k2 := k2.on hB2
    replace x1 := x1.on hB2
    replace y1 := y1.on hB2
    replace bw := bw.trans (hB2.mono bw.size)
    obtain ⟨p3, q3, r3, s3⟩ := x1.two
    have l3 := x1.lt
    obtain ⟨p4, q4, r4, s4⟩ := k2.two
    have l4 := k2.lt
    go_wp2_with fail
    refine (H3.out _ A1 n1 c1 bs1 bw HN1.out HI1.out hl1 y1).mono ?_
    rintro e w3 ⟨A3, n3, c3, bs3, rfl, hn3, his3, hl3, y3, hB3, hF3⟩
    dsimp only at hn3 his3 hl3 y3 hB3 hF3
    have HN3 := Lib.hid hn3; have HI3 := Lib.hid his3; clear hn3 his3
    clear p3 q3 r3 s3 l3 p4 q4 r4 s4 l4
    replace k1 := k1.on hB3
    replace k2 := k2.on hB3
    replace x1 := x1.on hB3
    replace y1 := y1.on hB3
    replace bw := bw.trans (hB3.mono bw.size)
    have al_x3 := Below.al w3 (.cells #[.int .i64 (l.length : Nat), .slice A3 n3 c3] 32)
    have x3 := Blk.new w3 32 #[.int .i64 (l.length : Nat), .slice A3 n3 c3]
    replace k1 := k1.on al_x3
    replace k2 := k2.on al_x3
    replace x1 := x1.on al_x3
    replace y1 := y1.on al_x3
    replace y3 := y3.on al_x3
    replace bw := bw.trans (al_x3.mono bw.size)
    obtain ⟨p5, q5, r5, s5⟩ := x3.two
    have l5 := x3.lt
    obtain ⟨p6, q6, r6, s6⟩ := k1.two
    have l6 := k1.lt
    go_wp2_with fail
    refine (H4.out _ A3 n3 c3 bs3 bw HN3.out HI3.out y3).mono ?_
    rintro e w4 ⟨rfl, hB4⟩
    try dsimp only
    clear p5 q5 r5 s5 l5 p6 q6 r6 s6 l6
    replace k1 := k1.on hB4
    replace k2 := k2.on hB4
    replace x1 := x1.on hB4
    replace x3 := x3.on hB4
    replace y1 := y1.on hB4
    replace y3 := y3.on hB4
    replace bw := bw.trans (hB4.mono bw.size)
    obtain ⟨p7, q7, r7, s7⟩ := x1.two
    have l7 := x1.lt
    obtain ⟨p8, q8, r8, s8⟩ := k1.two
    have l8 := k1.lt
    go_wp2
    go_ret
    exact ⟨rfl, bw⟩
  · have hne : (R1 == 0) = false := by simpa using h0
    clear hA hn hB hn2 hT hR h0
    unfold maxLen at hm hm2
    have k1 : Blk ((w.alloc (.cells #[.int .i64 N, .slice A n c] 32)).alloc (.cells #[.int .i64 M, .slice B m d] 32)) w.heap.size 32 #[.int .i64 N, .slice A n c] := (Blk.new w 32 _).alloc _
    have k2 : Blk ((w.alloc (.cells #[.int .i64 N, .slice A n c] 32)).alloc (.cells #[.int .i64 M, .slice B m d] 32)) (w.heap.size + 1) 32 #[.int .i64 M, .slice B m d] := by simpa using Blk.new (w.alloc (.cells #[.int .i64 N, .slice A n c] 32)) 32 #[.int .i64 M, .slice B m d]
    have bw : Below w.heap.size w ((w.alloc (.cells #[.int .i64 N, .slice A n c] 32)).alloc (.cells #[.int .i64 M, .slice B m d] 32)) := ((Below.refl _ _).alloc (Nat.le_refl _) _).alloc (by simp) _
    go_enter Tryd.func5, Tryd.ntmps5
    obtain ⟨p1, q1, r1, s1⟩ := k1.two
    have l1 := k1.lt
    obtain ⟨p2, q2, r2, s2⟩ := k2.two
    have l2 := k2.lt
    go_wp2_with fail
    refine (H1.out _ bw).mono ?_
    rintro e w1 ⟨A1, n1, c1, bs1, rfl, hn1, his1, hl1, y1, hB1, hF1⟩
    dsimp only at hn1 his1 hl1 y1 hB1 hF1
    have HN1 := Lib.hid hn1; have HI1 := Lib.hid his1; clear hn1 his1
    clear p1 q1 r1 s1 l1 p2 q2 r2 s2 l2
    replace k1 := k1.on hB1
    replace k2 := k2.on hB1
    replace bw := bw.trans (hB1.mono bw.size)
    have al_x1 := Below.al w1 (.cells #[.int .i64 (R2.length : Nat), .slice A1 n1 c1] 32)
    have x1 := Blk.new w1 32 #[.int .i64 (R2.length : Nat), .slice A1 n1 c1]
    replace k1 := k1.on al_x1
    replace k2 := k2.on al_x1
    replace y1 := y1.on al_x1
    replace bw := bw.trans (al_x1.mono bw.size)
    go_wp2_with fail
    refine (H5.out _ bw).mono ?_
    rintro e w2 ⟨rfl, hB2⟩
    try dsimp only
    replace k1 := k1.on hB2
    replace k2 := k2.on hB2
    replace x1 := x1.on hB2
    replace y1 := y1.on hB2
    replace bw := bw.trans (hB2.mono bw.size)
    go_wp2_with fail
    refine (H5.out _ bw).mono ?_
    rintro e w3 ⟨rfl, hB3⟩
    try dsimp only
    replace k1 := k1.on hB3
    replace k2 := k2.on hB3
    replace x1 := x1.on hB3
    replace y1 := y1.on hB3
    replace bw := bw.trans (hB3.mono bw.size)
    go_wp2
    go_ret
    exact ⟨rfl, bw⟩
end Go.Proofs.YtlmlbpnjkkfiaaaDoor
