/-
  The law of the xor: the sum of the xor of two strings is the xor of their sums. Conditions: that the bytes can be read, and that the table holds what the program's text lays.
-/
import Derived.Test.YtlmlbpnjkkfiaaaDoorD7
namespace Go.Proofs.YtlmlbpnjkkfiaaaDoor
open Go.RowKit

theorem slice_first {N : Int} {bs : List UInt8} (hg : goodB N bs = true) (K : Nat) (h : (K : Int) ≤ N) : sliceS N bs 0 (K : Nat) = (0, (listOf N bs).take K) := by
  unfold sliceS
  rw [if_pos hg, if_pos (by omega)]
  simp
theorem take_len {N : Int} {bs : List UInt8} (hg : goodB N bs = true) (K : Nat) (h : (K : Int) ≤ N) : ((listOf N bs).take K).length = K := by
  have := good_length hg
  rw [List.length_take]; omega
theorem sum_xor (l m : List Bool) (h : l.length = m.length) : bits .xor .u32 ((rem 0 l : Nat) : Int) ((rem 0 m : Nat) : Int) = ((rem 0 (List.zipWith (· ^^ ·) l m) : Nat) : Int) := by
  have h1 := rem_lt l 0 (by decide)
  have h2 := rem_lt m 0 (by decide)
  have h3 := crcOver_xor 6122955 l m 0 0 h
  rw [u32_xor_nat _ _ (by omega) (by omega)]
  congr 1
  exact h3.symm

set_option maxHeartbeats 4000000 in
theorem linear_law (N : Int) (A : Option Addr) (n c : Nat) (bs : List UInt8) (M : Int) (B : Option Addr) (m d : Nat) (us : List UInt8) (w : World) (hn : n = bs.length) (hm : n ≤ maxLen) (hA : Byt w.heap.size w A bs) (hn2 : m = us.length) (hm2 : m ≤ maxLen) (hB : Byt w.heap.size w B us) (hT : Tab w) :
    Calls Tryd.prog 8 #[.agg #[.int .i64 N, .slice A n c], .agg #[.int .i64 M, .slice B m d]] w fun e w' => e = .returned (.bool true) ∧ Below w.heap.size w w' := by
  have h5 := fun (w1 : World) (h : Below w.heap.size w w1) => begun_any w1 (hT.on h)
  have h6 := fun (w1 : World) (h : Below w.heap.size w w1) => rcheck_any N A n c bs w1 hn hm (hA.on h)
  have h7 := fun (w1 : World) (h : Below w.heap.size w w1) => rcheck_any M B m d us w1 hn2 hm2 (hB.on h)
  have h3 := fun (w1 : World) (K : Int) (h : Below w.heap.size w w1) => rslice_any N 0 K A n c bs w1 hn hm (hA.on h)
  have h4 := fun (w1 : World) (K : Int) (h : Below w.heap.size w w1) => rslice_any M 0 K B m d us w1 hn2 hm2 (hB.on h)
  have h8 := fun (w1 : World) (g : Nat) (l : List Bool) (A1 : Option Addr) (n1 c1 : Nat) (bs1 : List UInt8) (h : Below w.heap.size w w1) (hn1 : n1 = bs1.length) (hi : IsBits l bs1) (hl : l.length ≤ 4096) (y1 : Byt w1.heap.size w1 A1 bs1) (hb : Blk w1 g 32 #[.int .i64 (l.length : Nat), .slice A1 n1 c1]) => by
    have := sum_any (some ⟨g, 0, none⟩) 1 1 [⟨(l.length : Nat), A1, n1, c1, bs1⟩] w1 rfl (by decide) (one_bvs hb) (fun x hx => by
      simp at hx
      subst hx
      exact ⟨hn1, by rw [hn1]; exact bytes_small hi hl, y1⟩) (hT.on h)
    rw [one_sum _ (isBits_good hi hl), isBits_listOf hi] at this
    exact this
  have H5 := Lib.hid h5; have H8 := Lib.hid h8
  clear h5 h8
  have k1 : Blk ((w.alloc (.cells #[.int .i64 N, .slice A n c] 32)).alloc (.cells #[.int .i64 M, .slice B m d] 32)) w.heap.size 32 #[.int .i64 N, .slice A n c] := (Blk.new w 32 _).alloc _
  have k2 : Blk ((w.alloc (.cells #[.int .i64 N, .slice A n c] 32)).alloc (.cells #[.int .i64 M, .slice B m d] 32)) (w.heap.size + 1) 32 #[.int .i64 M, .slice B m d] := by simpa using Blk.new (w.alloc (.cells #[.int .i64 N, .slice A n c] 32)) 32 #[.int .i64 M, .slice B m d]
  have bw : Below w.heap.size w ((w.alloc (.cells #[.int .i64 N, .slice A n c] 32)).alloc (.cells #[.int .i64 M, .slice B m d] 32)) := ((Below.refl _ _).alloc (Nat.le_refl _) _).alloc (by simp) _
  by_cases g1 : goodB N bs = true
  · rw [chk_yes g1] at h6
    have H6 := Lib.hid h6; clear h6
    by_cases g2 : goodB M us = true
    · rw [chk_yes g2] at h7
      have H7 := Lib.hid h7; clear h7
      have hN := (good_iff N bs).1 g1
      have hM := (good_iff M us).1 g2
      obtain ⟨a, rfl⟩ := Int.eq_ofNat_of_zero_le hN.1
      obtain ⟨b, rfl⟩ := Int.eq_ofNat_of_zero_le hM.1
      have ha : a ≤ 4096 := by have := hN.2.1; omega
      have hb : b ≤ 4096 := by have := hM.2.1; omega
      clear hN hM
      by_cases hab : a ≤ b
      · have h3' := fun (w1 : World) (h : Below w.heap.size w w1) => h3 w1 (a : Nat) h
        have h4' := fun (w1 : World) (h : Below w.heap.size w w1) => h4 w1 (a : Nat) h
        rw [slice_first g1 a (by omega)] at h3'
        rw [slice_first g2 a (by omega)] at h4'
        have hla := take_len g1 a (by omega)
        have hlb := take_len g2 a (by omega)
        have hsx := sum_xor ((listOf (a : Int) bs).take a) ((listOf (b : Int) us).take a) (by omega)
        generalize (listOf (a : Int) bs).take a = la at *
        generalize (listOf (b : Int) us).take a = lb at *
        have h9 := fun (w1 : World) (A1 A2 : Option Addr) (n1 n2 c1 c2 : Nat) (bs1 bs2 : List UInt8) (hl : la.length ≤ 4096) (hi : IsBits la bs1) (hi2 : IsBits lb bs2) (hn1 : n1 = bs1.length) (hn2 : n2 = bs2.length) (y1 : Byt w1.heap.size w1 A1 bs1) (y2 : Byt w1.heap.size w1 A2 bs2) => xor_any la lb A1 A2 n1 c1 n2 c2 bs1 bs2 w1 hl (by omega) hi hi2 hn1 y1 hn2 y2
        have H3 := Lib.hid h3'; have H4 := Lib.hid h4'; have H9 := Lib.hid h9; have HSX := Lib.hid hsx
        clear h3 h4 h3' h4' h9 hsx hla hlb hA hB hn hn2 hT g1 g2
        generalize List.zipWith (· ^^ ·) la lb = X at *
        unfold maxLen at hm hm2
        have hmn : min (a : Int) (b : Int) = (a : Int) := by omega
        go_enter Tryd.func8, Tryd.ntmps8
        go_wp2_with fail
        refine (H5.out _ bw).mono ?_
        rintro e w1 ⟨rfl, hB1⟩
        try dsimp only
        replace k1 := k1.on hB1
        replace k2 := k2.on hB1
        replace bw := bw.trans (hB1.mono bw.size)
        obtain ⟨p1, q1, r1, s1⟩ := k1.two
        have l1 := k1.lt
        go_wp2_with fail
        refine (H6.out _ bw).mono ?_
        rintro e w2 ⟨rfl, hB2⟩
        try dsimp only
        clear p1 q1 r1 s1 l1
        replace k1 := k1.on hB2
        replace k2 := k2.on hB2
        replace bw := bw.trans (hB2.mono bw.size)
        obtain ⟨p2, q2, r2, s2⟩ := k2.two
        have l2 := k2.lt
        go_wp2_with fail
        refine (H7.out _ bw).mono ?_
        rintro e w3 ⟨rfl, hB3⟩
        try dsimp only
        clear p2 q2 r2 s2 l2
        replace k1 := k1.on hB3
        replace k2 := k2.on hB3
        replace bw := bw.trans (hB3.mono bw.size)
        obtain ⟨p3, q3, r3, s3⟩ := k1.two
        have l3 := k1.lt
        obtain ⟨p4, q4, r4, s4⟩ := k2.two
        have l4 := k2.lt
        have g0 : w.heap.size + 2 ≤ w3.heap.size := by have := k2.lt; omega
        go_wp2_with fail
        refine (H3.out _ bw).mono ?_
        rintro e w4 ⟨A4, n4, c4, bs4, rfl, hn4, his4, hl4, y4, hB4, hF4⟩
        try dsimp only at hn4 his4 hl4 y4 hB4 hF4
        have HN4 := Lib.hid hn4; have HI4 := Lib.hid his4; clear hn4 his4
        clear p3 q3 r3 s3 l3 p4 q4 r4 s4 l4
        replace k1 := k1.on hB4
        replace k2 := k2.on hB4
        replace bw := bw.trans (hB4.mono bw.size)
        obtain ⟨p5, q5, r5, s5⟩ := k1.two
        have l5 := k1.lt
        obtain ⟨p6, q6, r6, s6⟩ := k2.two
        have l6 := k2.lt
        go_wp2_with fail
        clear p5 q5 r5 s5 l5 p6 q6 r6 s6 l6
        replace k1 := k1.put2 (.int .i64 (la.length : Nat)) (.slice A4 n4 c4)
        replace k2 := k2.far2 (g' := w.heap.size) (by omega) (.int .i64 (la.length : Nat)) (.slice A4 n4 c4)
        replace y4 := y4.low2 hF4 (g := w.heap.size) (by first | omega | (simp; omega)) (.int .i64 (la.length : Nat)) (.slice A4 n4 c4)
        replace bw := below_stored bw (g := w.heap.size) (Nat.le_refl _) (.int .i64 (la.length : Nat)) (.slice A4 n4 c4)
        have g3 := hB4.size
        refine (H4.out _ bw).mono ?_
        rintro e w5 ⟨A5, n5, c5, bs5, rfl, hn5, his5, hl5, y5, hB5, hF5⟩
        try dsimp only at hn5 his5 hl5 y5 hB5 hF5
        have HN5 := Lib.hid hn5; have HI5 := Lib.hid his5; clear hn5 his5
        replace k1 := k1.on hB5
        replace k2 := k2.on hB5
        replace y4 := y4.on hB5
        replace bw := bw.trans (hB5.mono bw.size)
        obtain ⟨p7, q7, r7, s7⟩ := k2.two
        have l7 := k2.lt
        obtain ⟨p8, q8, r8, s8⟩ := k1.two
        have l8 := k1.lt
        go_wp2_with fail
        clear p7 q7 r7 s7 l7 p8 q8 r8 s8 l8
        replace k1 := k1.far2 (g' := (w.heap.size + 1)) (by omega) (.int .i64 (lb.length : Nat)) (.slice A5 n5 c5)
        replace k2 := k2.put2 (.int .i64 (lb.length : Nat)) (.slice A5 n5 c5)
        replace y4 := y4.low2 hF4 (g := (w.heap.size + 1)) (by first | omega | (simp; omega)) (.int .i64 (lb.length : Nat)) (.slice A5 n5 c5)
        replace y5 := y5.low2 hF5 (g := (w.heap.size + 1)) (by first | omega | (simp; omega)) (.int .i64 (lb.length : Nat)) (.slice A5 n5 c5)
        replace bw := below_stored bw (g := (w.heap.size + 1)) (by omega) (.int .i64 (lb.length : Nat)) (.slice A5 n5 c5)
        have g4 : w4.heap.size ≤ w5.heap.size := by have := hB5.size; simpa using this
        have al_x6 := Below.al ((w5.setCell ⟨(w.heap.size + 1), 0, none⟩ (.int .i64 (lb.length : Nat))).setCell ⟨(w.heap.size + 1), 1, none⟩ (.slice A5 n5 c5)) (.cells #[.int .i64 (la.length : Nat), .slice A4 n4 c4] 32)
        have x6 : Blk (((w5.setCell ⟨(w.heap.size + 1), 0, none⟩ (.int .i64 (lb.length : Nat))).setCell ⟨(w.heap.size + 1), 1, none⟩ (.slice A5 n5 c5)).alloc (.cells #[.int .i64 (la.length : Nat), .slice A4 n4 c4] 32)) w5.heap.size 32 #[.int .i64 (la.length : Nat), .slice A4 n4 c4] := by simpa using Blk.new ((w5.setCell ⟨(w.heap.size + 1), 0, none⟩ (.int .i64 (lb.length : Nat))).setCell ⟨(w.heap.size + 1), 1, none⟩ (.slice A5 n5 c5)) 32 #[.int .i64 (la.length : Nat), .slice A4 n4 c4]
        replace k1 := k1.on al_x6
        replace k2 := k2.on al_x6
        replace y4 := y4.on al_x6
        replace y5 := y5.on al_x6
        replace bw := bw.trans (al_x6.mono bw.size)
        refine (H8.out _ _ la A4 n4 c4 bs4 bw HN4.out HI4.out hl4 y4 x6).mono ?_
        rintro e w6 ⟨rfl, hB6⟩
        try dsimp only
        replace k1 := k1.on hB6
        replace k2 := k2.on hB6
        replace y4 := y4.on hB6
        replace y5 := y5.on hB6
        replace bw := bw.trans (hB6.mono bw.size)
        clear x6
        obtain ⟨p9, q9, r9, s9⟩ := k2.two
        have l9 := k2.lt
        go_wp2_with fail
        have al_x7 := Below.al w6 (.cells #[.int .i64 (lb.length : Nat), .slice A5 n5 c5] 32)
        have x7 : Blk (w6.alloc (.cells #[.int .i64 (lb.length : Nat), .slice A5 n5 c5] 32)) w6.heap.size 32 #[.int .i64 (lb.length : Nat), .slice A5 n5 c5] := by simpa using Blk.new w6 32 #[.int .i64 (lb.length : Nat), .slice A5 n5 c5]
        replace k1 := k1.on al_x7
        replace k2 := k2.on al_x7
        replace y4 := y4.on al_x7
        replace y5 := y5.on al_x7
        replace bw := bw.trans (al_x7.mono bw.size)
        refine (H8.out _ _ lb A5 n5 c5 bs5 bw HN5.out HI5.out hl5 y5 x7).mono ?_
        rintro e w7 ⟨rfl, hB7⟩
        try dsimp only
        clear p9 q9 r9 s9 l9
        replace k1 := k1.on hB7
        replace k2 := k2.on hB7
        replace y4 := y4.on hB7
        replace y5 := y5.on hB7
        replace bw := bw.trans (hB7.mono bw.size)
        clear x7
        obtain ⟨p10, q10, r10, s10⟩ := k1.two
        have l10 := k1.lt
        obtain ⟨p11, q11, r11, s11⟩ := k2.two
        have l11 := k2.lt
        go_wp2_with fail
        refine (H9.out _ A4 A5 n4 n5 c4 c5 bs4 bs5 hl4 HI4.out HI5.out HN4.out HN5.out y4 y5).mono ?_
        rintro e w8 ⟨A8, n8, c8, bs8, rfl, hn8, his8, hl8, y8, hB8, hF8⟩
        try dsimp only at hn8 his8 hl8 y8 hB8 hF8
        have HN8 := Lib.hid hn8; have HI8 := Lib.hid his8; clear hn8 his8
        clear p10 q10 r10 s10 l10 p11 q11 r11 s11 l11
        replace k1 := k1.on hB8
        replace k2 := k2.on hB8
        replace y4 := y4.on hB8
        replace y5 := y5.on hB8
        replace bw := bw.trans (hB8.mono bw.size)
        go_wp2_with fail
        have al_x9 := Below.al w8 (.cells #[.int .i64 (X.length : Nat), .slice A8 n8 c8] 32)
        have x9 : Blk (w8.alloc (.cells #[.int .i64 (X.length : Nat), .slice A8 n8 c8] 32)) w8.heap.size 32 #[.int .i64 (X.length : Nat), .slice A8 n8 c8] := by simpa using Blk.new w8 32 #[.int .i64 (X.length : Nat), .slice A8 n8 c8]
        replace k1 := k1.on al_x9
        replace k2 := k2.on al_x9
        replace y4 := y4.on al_x9
        replace y5 := y5.on al_x9
        replace y8 := y8.on al_x9
        replace bw := bw.trans (al_x9.mono bw.size)
        refine (H8.out _ _ X A8 n8 c8 bs8 bw HN8.out HI8.out hl8 y8 x9).mono ?_
        rintro e w9 ⟨rfl, hB9⟩
        try dsimp only
        replace k1 := k1.on hB9
        replace k2 := k2.on hB9
        replace y4 := y4.on hB9
        replace y5 := y5.on hB9
        replace y8 := y8.on hB9
        replace bw := bw.trans (hB9.mono bw.size)
        have hsx := HSX.out
        generalize rem 0 la = s1 at *
        generalize rem 0 lb = s2 at *
        generalize rem 0 X = s3 at *
        go_wp2
        go_ret
        exact ⟨rfl, bw⟩
      · have h3' := fun (w1 : World) (h : Below w.heap.size w w1) => h3 w1 (b : Nat) h
        have h4' := fun (w1 : World) (h : Below w.heap.size w w1) => h4 w1 (b : Nat) h
        rw [slice_first g1 b (by omega)] at h3'
        rw [slice_first g2 b (by omega)] at h4'
        have hla := take_len g1 b (by omega)
        have hlb := take_len g2 b (by omega)
        have hsx := sum_xor ((listOf (a : Int) bs).take b) ((listOf (b : Int) us).take b) (by omega)
        generalize (listOf (a : Int) bs).take b = la at *
        generalize (listOf (b : Int) us).take b = lb at *
        have h9 := fun (w1 : World) (A1 A2 : Option Addr) (n1 n2 c1 c2 : Nat) (bs1 bs2 : List UInt8) (hl : la.length ≤ 4096) (hi : IsBits la bs1) (hi2 : IsBits lb bs2) (hn1 : n1 = bs1.length) (hn2 : n2 = bs2.length) (y1 : Byt w1.heap.size w1 A1 bs1) (y2 : Byt w1.heap.size w1 A2 bs2) => xor_any la lb A1 A2 n1 c1 n2 c2 bs1 bs2 w1 hl (by omega) hi hi2 hn1 y1 hn2 y2
        have H3 := Lib.hid h3'; have H4 := Lib.hid h4'; have H9 := Lib.hid h9; have HSX := Lib.hid hsx
        clear h3 h4 h3' h4' h9 hsx hla hlb hA hB hn hn2 hT g1 g2
        generalize List.zipWith (· ^^ ·) la lb = X at *
        unfold maxLen at hm hm2
        have hmn : min (a : Int) (b : Int) = (b : Int) := by omega
        go_enter Tryd.func8, Tryd.ntmps8
        go_wp2_with fail
        refine (H5.out _ bw).mono ?_
        rintro e w1 ⟨rfl, hB1⟩
        try dsimp only
        replace k1 := k1.on hB1
        replace k2 := k2.on hB1
        replace bw := bw.trans (hB1.mono bw.size)
        obtain ⟨p1, q1, r1, s1⟩ := k1.two
        have l1 := k1.lt
        go_wp2_with fail
        refine (H6.out _ bw).mono ?_
        rintro e w2 ⟨rfl, hB2⟩
        try dsimp only
        clear p1 q1 r1 s1 l1
        replace k1 := k1.on hB2
        replace k2 := k2.on hB2
        replace bw := bw.trans (hB2.mono bw.size)
        obtain ⟨p2, q2, r2, s2⟩ := k2.two
        have l2 := k2.lt
        go_wp2_with fail
        refine (H7.out _ bw).mono ?_
        rintro e w3 ⟨rfl, hB3⟩
        try dsimp only
        clear p2 q2 r2 s2 l2
        replace k1 := k1.on hB3
        replace k2 := k2.on hB3
        replace bw := bw.trans (hB3.mono bw.size)
        obtain ⟨p3, q3, r3, s3⟩ := k1.two
        have l3 := k1.lt
        obtain ⟨p4, q4, r4, s4⟩ := k2.two
        have l4 := k2.lt
        have g0 : w.heap.size + 2 ≤ w3.heap.size := by have := k2.lt; omega
        go_wp2_with fail
        refine (H3.out _ bw).mono ?_
        rintro e w4 ⟨A4, n4, c4, bs4, rfl, hn4, his4, hl4, y4, hB4, hF4⟩
        try dsimp only at hn4 his4 hl4 y4 hB4 hF4
        have HN4 := Lib.hid hn4; have HI4 := Lib.hid his4; clear hn4 his4
        clear p3 q3 r3 s3 l3 p4 q4 r4 s4 l4
        replace k1 := k1.on hB4
        replace k2 := k2.on hB4
        replace bw := bw.trans (hB4.mono bw.size)
        obtain ⟨p5, q5, r5, s5⟩ := k1.two
        have l5 := k1.lt
        obtain ⟨p6, q6, r6, s6⟩ := k2.two
        have l6 := k2.lt
        go_wp2_with fail
        clear p5 q5 r5 s5 l5 p6 q6 r6 s6 l6
        replace k1 := k1.put2 (.int .i64 (la.length : Nat)) (.slice A4 n4 c4)
        replace k2 := k2.far2 (g' := w.heap.size) (by omega) (.int .i64 (la.length : Nat)) (.slice A4 n4 c4)
        replace y4 := y4.low2 hF4 (g := w.heap.size) (by first | omega | (simp; omega)) (.int .i64 (la.length : Nat)) (.slice A4 n4 c4)
        replace bw := below_stored bw (g := w.heap.size) (Nat.le_refl _) (.int .i64 (la.length : Nat)) (.slice A4 n4 c4)
        have g3 := hB4.size
        refine (H4.out _ bw).mono ?_
        rintro e w5 ⟨A5, n5, c5, bs5, rfl, hn5, his5, hl5, y5, hB5, hF5⟩
        try dsimp only at hn5 his5 hl5 y5 hB5 hF5
        have HN5 := Lib.hid hn5; have HI5 := Lib.hid his5; clear hn5 his5
        replace k1 := k1.on hB5
        replace k2 := k2.on hB5
        replace y4 := y4.on hB5
        replace bw := bw.trans (hB5.mono bw.size)
        obtain ⟨p7, q7, r7, s7⟩ := k2.two
        have l7 := k2.lt
        obtain ⟨p8, q8, r8, s8⟩ := k1.two
        have l8 := k1.lt
        go_wp2_with fail
        clear p7 q7 r7 s7 l7 p8 q8 r8 s8 l8
        replace k1 := k1.far2 (g' := (w.heap.size + 1)) (by omega) (.int .i64 (lb.length : Nat)) (.slice A5 n5 c5)
        replace k2 := k2.put2 (.int .i64 (lb.length : Nat)) (.slice A5 n5 c5)
        replace y4 := y4.low2 hF4 (g := (w.heap.size + 1)) (by first | omega | (simp; omega)) (.int .i64 (lb.length : Nat)) (.slice A5 n5 c5)
        replace y5 := y5.low2 hF5 (g := (w.heap.size + 1)) (by first | omega | (simp; omega)) (.int .i64 (lb.length : Nat)) (.slice A5 n5 c5)
        replace bw := below_stored bw (g := (w.heap.size + 1)) (by omega) (.int .i64 (lb.length : Nat)) (.slice A5 n5 c5)
        have g4 : w4.heap.size ≤ w5.heap.size := by have := hB5.size; simpa using this
        have al_x6 := Below.al ((w5.setCell ⟨(w.heap.size + 1), 0, none⟩ (.int .i64 (lb.length : Nat))).setCell ⟨(w.heap.size + 1), 1, none⟩ (.slice A5 n5 c5)) (.cells #[.int .i64 (la.length : Nat), .slice A4 n4 c4] 32)
        have x6 : Blk (((w5.setCell ⟨(w.heap.size + 1), 0, none⟩ (.int .i64 (lb.length : Nat))).setCell ⟨(w.heap.size + 1), 1, none⟩ (.slice A5 n5 c5)).alloc (.cells #[.int .i64 (la.length : Nat), .slice A4 n4 c4] 32)) w5.heap.size 32 #[.int .i64 (la.length : Nat), .slice A4 n4 c4] := by simpa using Blk.new ((w5.setCell ⟨(w.heap.size + 1), 0, none⟩ (.int .i64 (lb.length : Nat))).setCell ⟨(w.heap.size + 1), 1, none⟩ (.slice A5 n5 c5)) 32 #[.int .i64 (la.length : Nat), .slice A4 n4 c4]
        replace k1 := k1.on al_x6
        replace k2 := k2.on al_x6
        replace y4 := y4.on al_x6
        replace y5 := y5.on al_x6
        replace bw := bw.trans (al_x6.mono bw.size)
        refine (H8.out _ _ la A4 n4 c4 bs4 bw HN4.out HI4.out hl4 y4 x6).mono ?_
        rintro e w6 ⟨rfl, hB6⟩
        try dsimp only
        replace k1 := k1.on hB6
        replace k2 := k2.on hB6
        replace y4 := y4.on hB6
        replace y5 := y5.on hB6
        replace bw := bw.trans (hB6.mono bw.size)
        clear x6
        obtain ⟨p9, q9, r9, s9⟩ := k2.two
        have l9 := k2.lt
        go_wp2_with fail
        have al_x7 := Below.al w6 (.cells #[.int .i64 (lb.length : Nat), .slice A5 n5 c5] 32)
        have x7 : Blk (w6.alloc (.cells #[.int .i64 (lb.length : Nat), .slice A5 n5 c5] 32)) w6.heap.size 32 #[.int .i64 (lb.length : Nat), .slice A5 n5 c5] := by simpa using Blk.new w6 32 #[.int .i64 (lb.length : Nat), .slice A5 n5 c5]
        replace k1 := k1.on al_x7
        replace k2 := k2.on al_x7
        replace y4 := y4.on al_x7
        replace y5 := y5.on al_x7
        replace bw := bw.trans (al_x7.mono bw.size)
        refine (H8.out _ _ lb A5 n5 c5 bs5 bw HN5.out HI5.out hl5 y5 x7).mono ?_
        rintro e w7 ⟨rfl, hB7⟩
        try dsimp only
        clear p9 q9 r9 s9 l9
        replace k1 := k1.on hB7
        replace k2 := k2.on hB7
        replace y4 := y4.on hB7
        replace y5 := y5.on hB7
        replace bw := bw.trans (hB7.mono bw.size)
        clear x7
        obtain ⟨p10, q10, r10, s10⟩ := k1.two
        have l10 := k1.lt
        obtain ⟨p11, q11, r11, s11⟩ := k2.two
        have l11 := k2.lt
        go_wp2_with fail
        refine (H9.out _ A4 A5 n4 n5 c4 c5 bs4 bs5 hl4 HI4.out HI5.out HN4.out HN5.out y4 y5).mono ?_
        rintro e w8 ⟨A8, n8, c8, bs8, rfl, hn8, his8, hl8, y8, hB8, hF8⟩
        try dsimp only at hn8 his8 hl8 y8 hB8 hF8
        have HN8 := Lib.hid hn8; have HI8 := Lib.hid his8; clear hn8 his8
        clear p10 q10 r10 s10 l10 p11 q11 r11 s11 l11
        replace k1 := k1.on hB8
        replace k2 := k2.on hB8
        replace y4 := y4.on hB8
        replace y5 := y5.on hB8
        replace bw := bw.trans (hB8.mono bw.size)
        go_wp2_with fail
        have al_x9 := Below.al w8 (.cells #[.int .i64 (X.length : Nat), .slice A8 n8 c8] 32)
        have x9 : Blk (w8.alloc (.cells #[.int .i64 (X.length : Nat), .slice A8 n8 c8] 32)) w8.heap.size 32 #[.int .i64 (X.length : Nat), .slice A8 n8 c8] := by simpa using Blk.new w8 32 #[.int .i64 (X.length : Nat), .slice A8 n8 c8]
        replace k1 := k1.on al_x9
        replace k2 := k2.on al_x9
        replace y4 := y4.on al_x9
        replace y5 := y5.on al_x9
        replace y8 := y8.on al_x9
        replace bw := bw.trans (al_x9.mono bw.size)
        refine (H8.out _ _ X A8 n8 c8 bs8 bw HN8.out HI8.out hl8 y8 x9).mono ?_
        rintro e w9 ⟨rfl, hB9⟩
        try dsimp only
        replace k1 := k1.on hB9
        replace k2 := k2.on hB9
        replace y4 := y4.on hB9
        replace y5 := y5.on hB9
        replace y8 := y8.on hB9
        replace bw := bw.trans (hB9.mono bw.size)
        have hsx := HSX.out
        generalize rem 0 la = s1 at *
        generalize rem 0 lb = s2 at *
        generalize rem 0 X = s3 at *
        go_wp2
        go_ret
        exact ⟨rfl, bw⟩
    · rw [chk_no (by simpa using g2)] at h7
      have H7 := Lib.hid h7; clear h7
      clear h3 h4 hA hB hn hn2 hT g1 g2
      unfold maxLen at hm hm2
      go_enter Tryd.func8, Tryd.ntmps8
      go_wp2_with fail
      refine (H5.out _ bw).mono ?_
      rintro e w1 ⟨rfl, hB1⟩
      try dsimp only
      replace k1 := k1.on hB1
      replace k2 := k2.on hB1
      replace bw := bw.trans (hB1.mono bw.size)
      obtain ⟨p1, q1, r1, s1⟩ := k1.two
      have l1 := k1.lt
      go_wp2_with fail
      refine (H6.out _ bw).mono ?_
      rintro e w2 ⟨rfl, hB2⟩
      try dsimp only
      clear p1 q1 r1 s1 l1
      replace k1 := k1.on hB2
      replace k2 := k2.on hB2
      replace bw := bw.trans (hB2.mono bw.size)
      obtain ⟨p2, q2, r2, s2⟩ := k2.two
      have l2 := k2.lt
      go_wp2_with fail
      refine (H7.out _ bw).mono ?_
      rintro e w3 ⟨rfl, hB3⟩
      try dsimp only
      clear p2 q2 r2 s2 l2
      replace k1 := k1.on hB3
      replace k2 := k2.on hB3
      replace bw := bw.trans (hB3.mono bw.size)
      go_wp2_with fail
      refine (H5.out _ bw).mono ?_
      rintro e w4 ⟨rfl, hB4⟩
      try dsimp only
      replace k1 := k1.on hB4
      replace k2 := k2.on hB4
      replace bw := bw.trans (hB4.mono bw.size)
      go_wp2
      go_ret
      exact ⟨rfl, bw⟩
  · rw [chk_no (by simpa using g1)] at h6
    have H6 := Lib.hid h6; clear h6 h7
    clear h3 h4 hA hB hn hn2 hT g1
    unfold maxLen at hm hm2
    go_enter Tryd.func8, Tryd.ntmps8
    go_wp2_with fail
    refine (H5.out _ bw).mono ?_
    rintro e w1 ⟨rfl, hB1⟩
    try dsimp only
    replace k1 := k1.on hB1
    replace k2 := k2.on hB1
    replace bw := bw.trans (hB1.mono bw.size)
    obtain ⟨p1, q1, r1, s1⟩ := k1.two
    have l1 := k1.lt
    go_wp2_with fail
    refine (H6.out _ bw).mono ?_
    rintro e w2 ⟨rfl, hB2⟩
    try dsimp only
    clear p1 q1 r1 s1 l1
    replace k1 := k1.on hB2
    replace k2 := k2.on hB2
    replace bw := bw.trans (hB2.mono bw.size)
    go_wp2_with fail
    refine (H5.out _ bw).mono ?_
    rintro e w4 ⟨rfl, hB4⟩
    try dsimp only
    replace k1 := k1.on hB4
    replace k2 := k2.on hB4
    replace bw := bw.trans (hB4.mono bw.size)
    go_wp2
    go_ret
    exact ⟨rfl, bw⟩
end Go.Proofs.YtlmlbpnjkkfiaaaDoor
