/-
  The law of bursts: if some bits of what was sealed are turned, all within 24 bits one behind the other, that is told. Conditions: that the bytes can be read, and that the table holds what the program's text lays.
-/
import Derived.Test.YtlmlbpnjkkfiaaaDoorD4
namespace Go.Proofs.YtlmlbpnjkkfiaaaDoor
open Go.RowKit

theorem isBits_ne {X Y : List Bool} {bs bs' : List UInt8} (h : IsBits X bs) (h' : IsBits Y bs') (hl : X.length = Y.length) (hne : Y ≠ X) : bs ≠ bs' := by
  rintro rfl
  refine hne ?_
  rw [← isBits_listOf h, ← isBits_listOf h', hl]

set_option maxHeartbeats 4000000 in
theorem burst_law (N : Int) (A : Option Addr) (n c : Nat) (bs : List UInt8) (M : Int) (B : Option Addr) (m d : Nat) (us : List UInt8) (at_ : Int) (pat : Nat) (w : World) (hn : n = bs.length) (hm : n ≤ maxLen) (hA : Byt w.heap.size w A bs) (hn2 : m = us.length) (hm2 : m ≤ maxLen) (hB : Byt w.heap.size w B us) (hp : pat < 2 ^ 32) (hT : Tab w) :
    Calls Tryd.prog 6 #[.agg #[.int .i64 N, .slice A n c], .agg #[.int .i64 M, .slice B m d], .int .i64 at_, .int .u32 pat] w fun e w' => e = .returned (.bool true) ∧ Below w.heap.size w w' := by
  have h1 := fun (w1 : World) (h : Below w.heap.size w w1) => seal_any N A n c bs M B m d us w1 hn hm (hA.on h) hn2 hm2 (hB.on h) (hT.on h)
  have h5 := fun (w1 : World) (h : Below w.heap.size w w1) => begun_any w1 (hT.on h)
  obtain ⟨R, hR⟩ : ∃ R, R = sealS N bs M us := ⟨_, rfl⟩
  rw [← hR] at h1
  obtain ⟨R1, R2⟩ := R
  have H1 := Lib.hid h1; have H5 := Lib.hid h5
  clear h1 h5
  by_cases h0 : R1 = 0
  · subst h0
    obtain ⟨g1, g2, hR2⟩ := seal_zero hR rfl
    dsimp only at hR2
    clear hR
    have hsum := sealed_sum (listOf M us) (listOf N bs)
    rw [← hR2] at hsum
    have hl2 : 24 ≤ R2.length := by rw [hR2, List.length_append, numBits_length]; omega
    clear hR2 g1
    have hmask := u32_mask pat (by omega)
    obtain ⟨p, hpd⟩ : ∃ p, p = pat % 2 ^ 24 := ⟨_, rfl⟩
    have hp24 : p < 2 ^ 24 := by omega
    rw [← hpd] at hmask
    have h6 := fun (w1 : World) (A1 : Option Addr) (n1 c1 : Nat) (bs1 : List UInt8) (hn1 : n1 = bs1.length) (hi : IsBits R2 bs1) (hl : R2.length ≤ 4096) (y1 : Byt w1.heap.size w1 A1 bs1) => by
      have := burst_any (R2.length : Nat) at_ p A1 n1 c1 bs1 w1 hn1 (by rw [hn1]; exact bytes_small hi hl) y1 (by omega)
      rw [burst_more hi hl] at this
      exact this
    by_cases hat : 0 ≤ at_ ∧ at_ ≤ (R2.length : Int)
    · rw [if_pos hat] at h6
      have hbt := burst_told (listOf M us) R2 at_.toNat p (min 32 ((R2.length : Int) - at_).toNat) hp24 hsum
      have hyl := flips_length (places at_.toNat p (min 32 ((R2.length : Int) - at_).toNat)) R2
      generalize flips R2 (places at_.toNat p (min 32 ((R2.length : Int) - at_).toNat)) = Y at *
      have H6 := Lib.hid h6; clear h6
      by_cases hYX : Y = R2
      · subst hYX
        clear hA hn hB hn2 hT hsum hbt hyl g2 hpd hat
        unfold maxLen at hm hm2
        have k1 : Blk ((w.alloc (.cells #[.int .i64 N, .slice A n c] 32)).alloc (.cells #[.int .i64 M, .slice B m d] 32)) w.heap.size 32 #[.int .i64 N, .slice A n c] := (Blk.new w 32 _).alloc _
        have k2 : Blk ((w.alloc (.cells #[.int .i64 N, .slice A n c] 32)).alloc (.cells #[.int .i64 M, .slice B m d] 32)) (w.heap.size + 1) 32 #[.int .i64 M, .slice B m d] := by simpa using Blk.new (w.alloc (.cells #[.int .i64 N, .slice A n c] 32)) 32 #[.int .i64 M, .slice B m d]
        have bw : Below w.heap.size w ((w.alloc (.cells #[.int .i64 N, .slice A n c] 32)).alloc (.cells #[.int .i64 M, .slice B m d] 32)) := ((Below.refl _ _).alloc (Nat.le_refl _) _).alloc (by simp) _
        go_enter Tryd.func6, Tryd.ntmps6
        obtain ⟨p1, q1, r1, s1⟩ := k1.two
        have l1 := k1.lt
        obtain ⟨p2, q2, r2, s2⟩ := k2.two
        have l2 := k2.lt
        go_wp2_with fail
        refine (H1.out _ bw).mono ?_
        rintro e w1 ⟨A1, n1, c1, bs1, rfl, hn1, his1, hl1, y1, hB1, hF1⟩
        dsimp only at hn1 his1 hl1 y1 hB1 hF1
        have HN1 := Lib.hid hn1; have HI1 := Lib.hid his1; clear hn1 his1
        clear p1 q1 r1 s1 l1 p2 q2 r2 s2 l2
        replace k1 := k1.on hB1
        replace k2 := k2.on hB1
        replace bw := bw.trans (hB1.mono bw.size)
        have al_x1 := Below.al w1 (.cells #[.int .i64 (Y.length : Nat), .slice A1 n1 c1] 32)
        have x1 := Blk.new w1 32 #[.int .i64 (Y.length : Nat), .slice A1 n1 c1]
        replace k1 := k1.on al_x1
        replace k2 := k2.on al_x1
        replace y1 := y1.on al_x1
        replace bw := bw.trans (al_x1.mono bw.size)
        go_wp2_with fail
        refine (H5.out _ bw).mono ?_
        rintro e w2 ⟨rfl, hB2⟩
        try dsimp only
        replace k1 := k1.on hB2
        replace k2 := k2.on hB2
        replace x1 := x1.on hB2
        replace y1 := y1.on hB2
        replace bw := bw.trans (hB2.mono bw.size)
        obtain ⟨p3, q3, r3, s3⟩ := x1.two
        have l3 := x1.lt
        go_wp2_with fail
        refine (H6.out _ A1 n1 c1 bs1 HN1.out HI1.out hl1 y1).mono ?_
        rintro e w3 ⟨A3, n3, c3, bs3, rfl, hn3, his3, hl3, y3, hB3, hF3⟩
        dsimp only at hn3 his3 hl3 y3 hB3 hF3
        have HN3 := Lib.hid hn3; have HI3 := Lib.hid his3; clear hn3 his3
        clear p3 q3 r3 s3 l3
        replace k1 := k1.on hB3
        replace k2 := k2.on hB3
        replace x1 := x1.on hB3
        replace y1 := y1.on hB3
        replace bw := bw.trans (hB3.mono bw.size)
        have al_x3 := Below.al w3 (.cells #[.int .i64 (Y.length : Nat), .slice A3 n3 c3] 32)
        have x3 := Blk.new w3 32 #[.int .i64 (Y.length : Nat), .slice A3 n3 c3]
        replace k1 := k1.on al_x3
        replace k2 := k2.on al_x3
        replace x1 := x1.on al_x3
        replace y1 := y1.on al_x3
        replace y3 := y3.on al_x3
        replace bw := bw.trans (al_x3.mono bw.size)
        obtain ⟨p4, q4, r4, s4⟩ := x1.two
        have l4 := x1.lt
        obtain ⟨p5, q5, r5, s5⟩ := x3.two
        have l5 := x3.lt
        go_wp2_with fail
        refine (same_res HI1.out HI3.out HN1.out HN3.out y1 y3).mono ?_
        rintro e w4 ⟨rfl, hB4⟩
        try dsimp only
        clear p4 q4 r4 s4 l4 p5 q5 r5 s5 l5
        replace k1 := k1.on hB4
        replace k2 := k2.on hB4
        replace x1 := x1.on hB4
        replace x3 := x3.on hB4
        replace y1 := y1.on hB4
        replace y3 := y3.on hB4
        replace bw := bw.trans (hB4.mono bw.size)
        obtain ⟨p6, q6, r6, s6⟩ := x1.two
        have l6 := x1.lt
        go_wp2
        go_ret
        exact ⟨rfl, bw⟩
      · have h3 := fun (w1 : World) (A3 : Option Addr) (n3 c3 : Nat) (bs3 : List UInt8) (h : Below w.heap.size w w1) (hn3 : n3 = bs3.length) (hi : IsBits Y bs3) (hl : Y.length ≤ 4096) (y3 : Byt w1.heap.size w1 A3 bs3) => by
          have := open_any (Y.length : Nat) A3 n3 c3 bs3 M B m d us w1 hn3 (by rw [hn3]; exact bytes_small hi hl) y3 hn2 hm2 (hB.on h) (hT.on h)
          rw [open_more hi hl g2 (by omega), if_neg (fun h => hYX (hbt h))] at this
          exact this
        have h4 := fun (w1 : World) (A1 A3 : Option Addr) (n1 n3 c1 c3 : Nat) (bs1 bs3 : List UInt8) (hn1 : n1 = bs1.length) (hn3 : n3 = bs3.length) (hi : IsBits R2 bs1) (hi3 : IsBits Y bs3) (y1 : Byt w1.heap.size w1 A1 bs1) (y3 : Byt w1.heap.size w1 A3 bs3) => by
          have := rsame_any (R2.length : Nat) (Y.length : Nat) A1 A3 n1 n3 c1 c3 bs1 bs3 w1 hn1 hn3 y1 y3
          have hsm : sameB (R2.length : Nat) bs1 (Y.length : Nat) bs3 = false := by
            have := isBits_ne hi hi3 hyl.symm hYX
            simp [sameB, this]
          rw [hsm] at this
          exact this
        have H3 := Lib.hid h3; have H4 := Lib.hid h4
        clear h3 h4 hA hn hB hn2 hT hsum hbt hyl g2 hpd hat hYX
        unfold maxLen at hm hm2
        have k1 : Blk ((w.alloc (.cells #[.int .i64 N, .slice A n c] 32)).alloc (.cells #[.int .i64 M, .slice B m d] 32)) w.heap.size 32 #[.int .i64 N, .slice A n c] := (Blk.new w 32 _).alloc _
        have k2 : Blk ((w.alloc (.cells #[.int .i64 N, .slice A n c] 32)).alloc (.cells #[.int .i64 M, .slice B m d] 32)) (w.heap.size + 1) 32 #[.int .i64 M, .slice B m d] := by simpa using Blk.new (w.alloc (.cells #[.int .i64 N, .slice A n c] 32)) 32 #[.int .i64 M, .slice B m d]
        have bw : Below w.heap.size w ((w.alloc (.cells #[.int .i64 N, .slice A n c] 32)).alloc (.cells #[.int .i64 M, .slice B m d] 32)) := ((Below.refl _ _).alloc (Nat.le_refl _) _).alloc (by simp) _
        go_enter Tryd.func6, Tryd.ntmps6
        obtain ⟨p1, q1, r1, s1⟩ := k1.two
        have l1 := k1.lt
        obtain ⟨p2, q2, r2, s2⟩ := k2.two
        have l2 := k2.lt
        go_wp2_with fail
        refine (H1.out _ bw).mono ?_
        rintro e w1 ⟨A1, n1, c1, bs1, rfl, hn1, his1, hl1, y1, hB1, hF1⟩
        dsimp only at hn1 his1 hl1 y1 hB1 hF1
        have HN1 := Lib.hid hn1; have HI1 := Lib.hid his1; clear hn1 his1
        clear p1 q1 r1 s1 l1 p2 q2 r2 s2 l2
        replace k1 := k1.on hB1
        replace k2 := k2.on hB1
        replace bw := bw.trans (hB1.mono bw.size)
        have al_x1 := Below.al w1 (.cells #[.int .i64 (R2.length : Nat), .slice A1 n1 c1] 32)
        have x1 := Blk.new w1 32 #[.int .i64 (R2.length : Nat), .slice A1 n1 c1]
        replace k1 := k1.on al_x1
        replace k2 := k2.on al_x1
        replace y1 := y1.on al_x1
        replace bw := bw.trans (al_x1.mono bw.size)
        go_wp2_with fail
        refine (H5.out _ bw).mono ?_
        rintro e w2 ⟨rfl, hB2⟩
        try dsimp only
        replace k1 := k1.on hB2
        replace k2 := k2.on hB2
        replace x1 := x1.on hB2
        replace y1 := y1.on hB2
        replace bw := bw.trans (hB2.mono bw.size)
        obtain ⟨p3, q3, r3, s3⟩ := x1.two
        have l3 := x1.lt
        go_wp2_with fail
        refine (H6.out _ A1 n1 c1 bs1 HN1.out HI1.out hl1 y1).mono ?_
        rintro e w3 ⟨A3, n3, c3, bs3, rfl, hn3, his3, hl3, y3, hB3, hF3⟩
        dsimp only at hn3 his3 hl3 y3 hB3 hF3
        have HN3 := Lib.hid hn3; have HI3 := Lib.hid his3; clear hn3 his3
        clear p3 q3 r3 s3 l3
        replace k1 := k1.on hB3
        replace k2 := k2.on hB3
        replace x1 := x1.on hB3
        replace y1 := y1.on hB3
        replace bw := bw.trans (hB3.mono bw.size)
        have al_x3 := Below.al w3 (.cells #[.int .i64 (Y.length : Nat), .slice A3 n3 c3] 32)
        have x3 := Blk.new w3 32 #[.int .i64 (Y.length : Nat), .slice A3 n3 c3]
        replace k1 := k1.on al_x3
        replace k2 := k2.on al_x3
        replace x1 := x1.on al_x3
        replace y1 := y1.on al_x3
        replace y3 := y3.on al_x3
        replace bw := bw.trans (al_x3.mono bw.size)
        obtain ⟨p4, q4, r4, s4⟩ := x1.two
        have l4 := x1.lt
        obtain ⟨p5, q5, r5, s5⟩ := x3.two
        have l5 := x3.lt
        go_wp2_with fail
        refine (H4.out _ A1 A3 n1 n3 c1 c3 bs1 bs3 HN1.out HN3.out HI1.out HI3.out y1 y3).mono ?_
        rintro e w4 ⟨rfl, hB4⟩
        try dsimp only
        clear p4 q4 r4 s4 l4 p5 q5 r5 s5 l5
        replace k1 := k1.on hB4
        replace k2 := k2.on hB4
        replace x1 := x1.on hB4
        replace x3 := x3.on hB4
        replace y1 := y1.on hB4
        replace y3 := y3.on hB4
        replace bw := bw.trans (hB4.mono bw.size)
        obtain ⟨p6, q6, r6, s6⟩ := x3.two
        have l6 := x3.lt
        obtain ⟨p7, q7, r7, s7⟩ := k2.two
        have l7 := k2.lt
        go_wp2_with fail
        refine (H3.out _ A3 n3 c3 bs3 bw HN3.out HI3.out hl3 y3).mono ?_
        rintro e w5 ⟨A5, n5, c5, bs5, rfl, hn5, his5, hl5, y5, hB5, hF5⟩
        dsimp only at hn5 his5 hl5 y5 hB5 hF5
        have HN5 := Lib.hid hn5; have HI5 := Lib.hid his5; clear hn5 his5
        clear p6 q6 r6 s6 l6 p7 q7 r7 s7 l7
        replace k1 := k1.on hB5
        replace k2 := k2.on hB5
        replace x1 := x1.on hB5
        replace x3 := x3.on hB5
        replace y1 := y1.on hB5
        replace y3 := y3.on hB5
        replace bw := bw.trans (hB5.mono bw.size)
        go_wp2
        go_ret
        exact ⟨rfl, bw.alloc bw.size _⟩
    · rw [if_neg hat] at h6
      have H6 := Lib.hid h6; clear h6
      have hor : at_ < 0 ∨ (¬ at_ < 0 ∧ (R2.length : Int) < at_) := by omega
      clear hA hn hB hn2 hT hsum g2 hpd hat
      unfold maxLen at hm hm2
      have k1 : Blk ((w.alloc (.cells #[.int .i64 N, .slice A n c] 32)).alloc (.cells #[.int .i64 M, .slice B m d] 32)) w.heap.size 32 #[.int .i64 N, .slice A n c] := (Blk.new w 32 _).alloc _
      have k2 : Blk ((w.alloc (.cells #[.int .i64 N, .slice A n c] 32)).alloc (.cells #[.int .i64 M, .slice B m d] 32)) (w.heap.size + 1) 32 #[.int .i64 M, .slice B m d] := by simpa using Blk.new (w.alloc (.cells #[.int .i64 N, .slice A n c] 32)) 32 #[.int .i64 M, .slice B m d]
      have bw : Below w.heap.size w ((w.alloc (.cells #[.int .i64 N, .slice A n c] 32)).alloc (.cells #[.int .i64 M, .slice B m d] 32)) := ((Below.refl _ _).alloc (Nat.le_refl _) _).alloc (by simp) _
      rcases hor with hneg | ⟨hneg, hbig⟩
      · have hd1 : decide (at_ < 0) = true := by simpa using hneg
        go_enter Tryd.func6, Tryd.ntmps6
        obtain ⟨p1, q1, r1, s1⟩ := k1.two
        have l1 := k1.lt
        obtain ⟨p2, q2, r2, s2⟩ := k2.two
        have l2 := k2.lt
        go_wp2_with fail
        refine (H1.out _ bw).mono ?_
        rintro e w1 ⟨A1, n1, c1, bs1, rfl, hn1, his1, hl1, y1, hB1, hF1⟩
        dsimp only at hn1 his1 hl1 y1 hB1 hF1
        have HN1 := Lib.hid hn1; have HI1 := Lib.hid his1; clear hn1 his1
        clear p1 q1 r1 s1 l1 p2 q2 r2 s2 l2
        replace k1 := k1.on hB1
        replace k2 := k2.on hB1
        replace bw := bw.trans (hB1.mono bw.size)
        have al_x1 := Below.al w1 (.cells #[.int .i64 (R2.length : Nat), .slice A1 n1 c1] 32)
        have x1 := Blk.new w1 32 #[.int .i64 (R2.length : Nat), .slice A1 n1 c1]
        replace k1 := k1.on al_x1
        replace k2 := k2.on al_x1
        replace y1 := y1.on al_x1
        replace bw := bw.trans (al_x1.mono bw.size)
        go_wp2_with fail
        refine (H5.out _ bw).mono ?_
        rintro e w2 ⟨rfl, hB2⟩
        try dsimp only
        replace k1 := k1.on hB2
        replace k2 := k2.on hB2
        replace x1 := x1.on hB2
        replace y1 := y1.on hB2
        replace bw := bw.trans (hB2.mono bw.size)
        obtain ⟨p3, q3, r3, s3⟩ := x1.two
        have l3 := x1.lt
        go_wp2_with fail
        refine (H6.out _ A1 n1 c1 bs1 HN1.out HI1.out hl1 y1).mono ?_
        rintro e w3 ⟨A3, n3, c3, bs3, rfl, hn3, his3, hl3, y3, hB3, hF3⟩
        dsimp only at hn3 his3 hl3 y3 hB3 hF3
        have HN3 := Lib.hid hn3; have HI3 := Lib.hid his3; clear hn3 his3
        clear p3 q3 r3 s3 l3
        replace k1 := k1.on hB3
        replace k2 := k2.on hB3
        replace x1 := x1.on hB3
        replace y1 := y1.on hB3
        replace bw := bw.trans (hB3.mono bw.size)
        obtain ⟨p4, q4, r4, s4⟩ := x1.two
        have l4 := x1.lt
        go_wp2
        go_ret
        exact ⟨rfl, bw.alloc bw.size _⟩
      · have hd1 : decide (at_ < 0) = false := by simpa using hneg
        have hd2 : decide ((R2.length : Int) < at_) = true := by simpa using hbig
        go_enter Tryd.func6, Tryd.ntmps6
        obtain ⟨p1, q1, r1, s1⟩ := k1.two
        have l1 := k1.lt
        obtain ⟨p2, q2, r2, s2⟩ := k2.two
        have l2 := k2.lt
        go_wp2_with fail
        refine (H1.out _ bw).mono ?_
        rintro e w1 ⟨A1, n1, c1, bs1, rfl, hn1, his1, hl1, y1, hB1, hF1⟩
        dsimp only at hn1 his1 hl1 y1 hB1 hF1
        have HN1 := Lib.hid hn1; have HI1 := Lib.hid his1; clear hn1 his1
        clear p1 q1 r1 s1 l1 p2 q2 r2 s2 l2
        replace k1 := k1.on hB1
        replace k2 := k2.on hB1
        replace bw := bw.trans (hB1.mono bw.size)
        have al_x1 := Below.al w1 (.cells #[.int .i64 (R2.length : Nat), .slice A1 n1 c1] 32)
        have x1 := Blk.new w1 32 #[.int .i64 (R2.length : Nat), .slice A1 n1 c1]
        replace k1 := k1.on al_x1
        replace k2 := k2.on al_x1
        replace y1 := y1.on al_x1
        replace bw := bw.trans (al_x1.mono bw.size)
        go_wp2_with fail
        refine (H5.out _ bw).mono ?_
        rintro e w2 ⟨rfl, hB2⟩
        try dsimp only
        replace k1 := k1.on hB2
        replace k2 := k2.on hB2
        replace x1 := x1.on hB2
        replace y1 := y1.on hB2
        replace bw := bw.trans (hB2.mono bw.size)
        obtain ⟨p3, q3, r3, s3⟩ := x1.two
        have l3 := x1.lt
        go_wp2_with fail
        refine (H6.out _ A1 n1 c1 bs1 HN1.out HI1.out hl1 y1).mono ?_
        rintro e w3 ⟨A3, n3, c3, bs3, rfl, hn3, his3, hl3, y3, hB3, hF3⟩
        dsimp only at hn3 his3 hl3 y3 hB3 hF3
        have HN3 := Lib.hid hn3; have HI3 := Lib.hid his3; clear hn3 his3
        clear p3 q3 r3 s3 l3
        replace k1 := k1.on hB3
        replace k2 := k2.on hB3
        replace x1 := x1.on hB3
        replace y1 := y1.on hB3
        replace bw := bw.trans (hB3.mono bw.size)
        obtain ⟨p4, q4, r4, s4⟩ := x1.two
        have l4 := x1.lt
        go_wp2
        go_ret
        exact ⟨rfl, bw.alloc bw.size _⟩
  · have hne : (R1 == 0) = false := by simpa using h0
    clear hA hn hB hn2 hT hR h0 hp
    unfold maxLen at hm hm2
    have k1 : Blk ((w.alloc (.cells #[.int .i64 N, .slice A n c] 32)).alloc (.cells #[.int .i64 M, .slice B m d] 32)) w.heap.size 32 #[.int .i64 N, .slice A n c] := (Blk.new w 32 _).alloc _
    have k2 : Blk ((w.alloc (.cells #[.int .i64 N, .slice A n c] 32)).alloc (.cells #[.int .i64 M, .slice B m d] 32)) (w.heap.size + 1) 32 #[.int .i64 M, .slice B m d] := by simpa using Blk.new (w.alloc (.cells #[.int .i64 N, .slice A n c] 32)) 32 #[.int .i64 M, .slice B m d]
    have bw : Below w.heap.size w ((w.alloc (.cells #[.int .i64 N, .slice A n c] 32)).alloc (.cells #[.int .i64 M, .slice B m d] 32)) := ((Below.refl _ _).alloc (Nat.le_refl _) _).alloc (by simp) _
    go_enter Tryd.func6, Tryd.ntmps6
    obtain ⟨p1, q1, r1, s1⟩ := k1.two
    have l1 := k1.lt
    obtain ⟨p2, q2, r2, s2⟩ := k2.two
    have l2 := k2.lt
    go_wp2_with fail
    refine (H1.out _ bw).mono ?_
    rintro e w1 ⟨A1, n1, c1, bs1, rfl, hn1, his1, hl1, y1, hB1, hF1⟩
    dsimp only at hn1 his1 hl1 y1 hB1 hF1
    have HN1 := Lib.hid hn1; have HI1 := Lib.hid his1; clear hn1 his1
    clear p1 q1 r1 s1 l1 p2 q2 r2 s2 l2
    replace k1 := k1.on hB1
    replace k2 := k2.on hB1
    replace bw := bw.trans (hB1.mono bw.size)
    have al_x1 := Below.al w1 (.cells #[.int .i64 (R2.length : Nat), .slice A1 n1 c1] 32)
    have x1 := Blk.new w1 32 #[.int .i64 (R2.length : Nat), .slice A1 n1 c1]
    replace k1 := k1.on al_x1
    replace k2 := k2.on al_x1
    replace y1 := y1.on al_x1
    replace bw := bw.trans (al_x1.mono bw.size)
    go_wp2_with fail
    refine (H5.out _ bw).mono ?_
    rintro e w2 ⟨rfl, hB2⟩
    try dsimp only
    replace k1 := k1.on hB2
    replace k2 := k2.on hB2
    replace x1 := x1.on hB2
    replace y1 := y1.on hB2
    replace bw := bw.trans (hB2.mono bw.size)
    go_wp2_with fail
    refine (H5.out _ bw).mono ?_
    rintro e w3 ⟨rfl, hB3⟩
    try dsimp only
    replace k1 := k1.on hB3
    replace k2 := k2.on hB3
    replace x1 := x1.on hB3
    replace y1 := y1.on hB3
    replace bw := bw.trans (hB3.mono bw.size)
    go_wp2
    go_ret
    exact ⟨rfl, bw⟩
end Go.Proofs.YtlmlbpnjkkfiaaaDoor
