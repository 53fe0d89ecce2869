/-
  The law of what is not sent: if up to 24 bits that are not sent are others, that is told. Conditions: that the bytes can be read, and that the table holds what the program's text lays.
-/
import Derived.Test.YtlmlbpnjkkfiaaaDoorD5
namespace Go.Proofs.YtlmlbpnjkkfiaaaDoor
open Go.RowKit

/-- Seal over bits that are not sent, by their truths. -/
def sealL (N : Int) (bs : List UInt8) (o : List Bool) : Int × List Bool := if goodB N bs = true then putS N bs (rem 0 (o ++ listOf N bs)) 24 else (10, [])
theorem seal_more {N : Int} {bs : List UInt8} {o : List Bool} {us : List UInt8} (h : IsBits o us) (hl : o.length ≤ 4096) : sealS N bs o.length us = sealL N bs o := by
  unfold sealS sealL
  rw [isBits_listOf h]
  by_cases hg : goodB N bs = true
  · rw [if_pos hg, if_pos ⟨isBits_good h hl, hg⟩]
  · rw [if_neg hg, if_neg (fun h => hg h.2)]
theorem sealL_zero {N : Int} {bs : List UInt8} {o : List Bool} {R : Int × List Bool} (hR : R = sealL N bs o) (h : R.1 = 0) : R.2 = listOf N bs ++ numBits (rem 0 (o ++ listOf N bs)) 24 := by
  unfold sealL at hR
  split at hR
  · exact (put_zero hR h).2.2.2.2
  · subst hR; cases h
theorem put_none (x v : Nat) (hv : v ≤ 24) (hx : x < 2 ^ v) : putS 0 [] x v = (0, numBits x v) := by
  unfold putS
  rw [if_pos goodB_nil, if_pos ⟨by omega, by rw [Int.toNat_natCast]; exact Nat.div_eq_of_lt hx⟩, if_neg (by omega), Int.toNat_natCast]
  rfl

set_option maxHeartbeats 4000000 in
theorem unsent_law (N : Int) (A : Option Addr) (n c : Nat) (bs : List UInt8) (x y wd : Nat) (w : World) (hn : n = bs.length) (hm : n ≤ maxLen) (hA : Byt w.heap.size w A bs) (hx : x < 2 ^ 32) (hy : y < 2 ^ 32) (hw : wd < 256) (hT : Tab w) :
    Calls Tryd.prog 7 #[.agg #[.int .i64 N, .slice A n c], .int .u32 x, .int .u32 y, .int .u8 wd] w fun e w' => e = .returned (.bool true) ∧ Below w.heap.size w w' := by
  obtain ⟨v, hvd⟩ : ∃ v : Nat, v = wd % 25 := ⟨_, rfl⟩
  have hv : v ≤ 24 := by omega
  have hrem : ((wd : Int)).tmod 25 = (v : Int) := by rw [Int.tmod_eq_emod_of_nonneg (by omega)]; omega
  clear hvd
  obtain ⟨q, hq⟩ : ∃ q : Nat, q = 2 ^ v := ⟨_, rfl⟩
  have hq0 : 0 < q := by rw [hq]; exact Nat.pos_of_ne_zero (by simp)
  have hq24 : q ≤ 2 ^ 24 := by rw [hq]; exact Nat.pow_le_pow_right (by omega) hv
  have hq1 : IntKind.u64.wrap ((2 : Int) ^ v) = (q : Int) := by
    rw [show ((2 : Int) ^ v) = (q : Int) by rw [hq]; norm_cast, IntKind.wrap_u64]; omega
  have hq2 : IntKind.u64.wrap ((q : Int) - 1) = ((q - 1 : Nat) : Int) := by rw [IntKind.wrap_u64]; omega
  have hand : ∀ z : Nat, z < 2 ^ 32 → bits .and .u64 (z : Int) ((q - 1 : Nat) : Int) = ((z % q : Nat) : Int) := fun z hz => by
    rw [u64_and_nat _ _ (by omega) (by omega), hq]
    congr 1
    exact Nat.and_two_pow_sub_one_eq_mod z v
  have hax := hand x hx
  have hay := hand y hy
  have hxl : x % q < 2 ^ v := by rw [← hq]; exact Nat.mod_lt _ hq0
  have hyl : y % q < 2 ^ v := by rw [← hq]; exact Nat.mod_lt _ hq0
  have hxq : x % q < 2 ^ 24 := Nat.lt_of_lt_of_le (Nat.mod_lt _ hq0) hq24
  have hyq : y % q < 2 ^ 24 := Nat.lt_of_lt_of_le (Nat.mod_lt _ hq0) hq24
  clear hand
  generalize x % q = x' at *
  generalize y % q = y' at *
  generalize hqr : q - 1 = qr at *
  have h7 := fun (w1 : World) => rput_any 0 (v : Nat) x' none 0 0 [] w1 rfl (by decide) (fun h => absurd rfl h) (by omega)
  have h8 := fun (w1 : World) => rput_any 0 (v : Nat) y' none 0 0 [] w1 rfl (by decide) (fun h => absurd rfl h) (by omega)
  rw [put_none x' v hv hxl] at h7
  rw [put_none y' v hv hyl] at h8
  have ho1 := numBits_length x' v
  have ho2 := numBits_length y' v
  generalize numBits x' v = o at *
  generalize numBits y' v = o2 at *
  have h1 := fun (w1 : World) (A1 : Option Addr) (n1 c1 : Nat) (bs1 : List UInt8) (h : Below w.heap.size w w1) (hn1 : n1 = bs1.length) (hi : IsBits o bs1) (hl : o.length ≤ 4096) (y1 : Byt w1.heap.size w1 A1 bs1) => by
    have := seal_any N A n c bs (o.length : Nat) A1 n1 c1 bs1 w1 hn hm (hA.on h) hn1 (by rw [hn1]; exact bytes_small hi hl) y1 (hT.on h)
    rw [seal_more hi hl] at this
    exact this
  have h5 := fun (w1 : World) (h : Below w.heap.size w w1) => begun_any w1 (hT.on h)
  obtain ⟨R, hR⟩ : ∃ R, R = sealL N bs o := ⟨_, rfl⟩
  rw [← hR] at h1
  obtain ⟨R1, R2⟩ := R
  have H1 := Lib.hid h1; have H5 := Lib.hid h5; have H7 := Lib.hid h7; have H8 := Lib.hid h8; have HQ := Lib.hid hq; have HQR := Lib.hid hqr
  clear h1 h5 h7 h8 hq hqr hxl hyl hq0 hq24
  have k1 := Blk.new w 32 #[.int .i64 N, .slice A n c]
  have bw := Below.al w (.cells #[.int .i64 N, .slice A n c] 32)
  by_cases h0 : R1 = 0
  · subst h0
    have hR2 := sealL_zero hR rfl
    dsimp only at hR2
    have hsum := sealed_sum o (listOf N bs)
    rw [← hR2] at hsum
    have hl2 : 24 ≤ R2.length := by rw [hR2, List.length_append, numBits_length]; omega
    clear hR2 hR
    have h3 := fun (w1 : World) (A2 A4 : Option Addr) (n2 n4 c2 c4 : Nat) (bs2 bs4 : List UInt8) (h : Below w.heap.size w w1) (hn2 : n2 = bs2.length) (hn4 : n4 = bs4.length) (hi2 : IsBits o2 bs2) (hi : IsBits R2 bs4) (hl : R2.length ≤ 4096) (y2 : Byt w1.heap.size w1 A2 bs2) (y4 : Byt w1.heap.size w1 A4 bs4) => by
      have := open_any (R2.length : Nat) A4 n4 c4 bs4 (o2.length : Nat) A2 n2 c2 bs2 w1 hn4 (by rw [hn4]; exact bytes_small hi hl) y4 hn2 (by rw [hn2]; exact bytes_small hi2 (by omega)) y2 (hT.on h)
      rw [open_more hi hl (isBits_good hi2 (by omega)) hl2, isBits_listOf hi2] at this
      exact this
    by_cases hoo : o = o2
    · subst hoo
      rw [if_pos hsum] at h3
      have H3 := Lib.hid h3
      clear h3 hA hn hT hsum hl2 ho1 ho2
      unfold maxLen at hm
      generalize frontOf R2 = fr at *
      go_enter Tryd.func7, Tryd.ntmps7
      obtain ⟨p1, q1, r1, s1⟩ := k1.two
      have l1 := k1.lt
      go_wp2_with fail
      refine (H7.out _).mono ?_
      rintro e w1 ⟨A1, n1, c1, bs1, rfl, hn1, his1, hl1, y1, hB1, hF1⟩
      dsimp only at hn1 his1 hl1 y1 hB1 hF1
      have HN1 := Lib.hid hn1; have HI1 := Lib.hid his1; clear hn1 his1
      clear p1 q1 r1 s1 l1
      replace k1 := k1.on hB1
      replace bw := bw.trans (hB1.mono bw.size)
      have al_x1 := Below.al w1 (.cells #[.int .i64 (o.length : Nat), .slice A1 n1 c1] 32)
      have x1 := Blk.new w1 32 #[.int .i64 (o.length : Nat), .slice A1 n1 c1]
      replace k1 := k1.on al_x1
      replace y1 := y1.on al_x1
      replace bw := bw.trans (al_x1.mono bw.size)
      go_wp2_with fail
      refine (H8.out _).mono ?_
      rintro e w2 ⟨A2, n2, c2, bs2, rfl, hn2, his2, hl2, y2, hB2, hF2⟩
      dsimp only at hn2 his2 hl2 y2 hB2 hF2
      have HN2 := Lib.hid hn2; have HI2 := Lib.hid his2; clear hn2 his2
      replace k1 := k1.on hB2
      replace x1 := x1.on hB2
      replace y1 := y1.on hB2
      replace bw := bw.trans (hB2.mono bw.size)
      have al_x2 := Below.al w2 (.cells #[.int .i64 (o.length : Nat), .slice A2 n2 c2] 32)
      have x2 := Blk.new w2 32 #[.int .i64 (o.length : Nat), .slice A2 n2 c2]
      replace k1 := k1.on al_x2
      replace x1 := x1.on al_x2
      replace y1 := y1.on al_x2
      replace y2 := y2.on al_x2
      replace bw := bw.trans (al_x2.mono bw.size)
      go_wp2_with fail
      refine (H5.out _ bw).mono ?_
      rintro e w3 ⟨rfl, hB3⟩
      try dsimp only
      replace k1 := k1.on hB3
      replace x1 := x1.on hB3
      replace x2 := x2.on hB3
      replace y1 := y1.on hB3
      replace y2 := y2.on hB3
      replace bw := bw.trans (hB3.mono bw.size)
      obtain ⟨p2, q2, r2, s2⟩ := k1.two
      have l2 := k1.lt
      obtain ⟨p3, q3, r3, s3⟩ := x1.two
      have l3 := x1.lt
      go_wp2_with fail
      refine (H1.out _ A1 n1 c1 bs1 bw HN1.out HI1.out hl1 y1).mono ?_
      rintro e w4 ⟨A4, n4, c4, bs4, rfl, hn4, his4, hl4, y4, hB4, hF4⟩
      dsimp only at hn4 his4 hl4 y4 hB4 hF4
      have HN4 := Lib.hid hn4; have HI4 := Lib.hid his4; clear hn4 his4
      clear p2 q2 r2 s2 l2 p3 q3 r3 s3 l3
      replace k1 := k1.on hB4
      replace x1 := x1.on hB4
      replace x2 := x2.on hB4
      replace y1 := y1.on hB4
      replace y2 := y2.on hB4
      replace bw := bw.trans (hB4.mono bw.size)
      have al_x4 := Below.al w4 (.cells #[.int .i64 (R2.length : Nat), .slice A4 n4 c4] 32)
      have x4 := Blk.new w4 32 #[.int .i64 (R2.length : Nat), .slice A4 n4 c4]
      replace k1 := k1.on al_x4
      replace x1 := x1.on al_x4
      replace x2 := x2.on al_x4
      replace y1 := y1.on al_x4
      replace y2 := y2.on al_x4
      replace y4 := y4.on al_x4
      replace bw := bw.trans (al_x4.mono bw.size)
      obtain ⟨p4, q4, r4, s4⟩ := x4.two
      have l4 := x4.lt
      obtain ⟨p5, q5, r5, s5⟩ := x2.two
      have l5 := x2.lt
      go_wp2_with fail
      refine (H3.out _ A2 A4 n2 n4 c2 c4 bs2 bs4 bw HN2.out HN4.out HI2.out HI4.out hl4 y2 y4).mono ?_
      rintro e w5 ⟨A5, n5, c5, bs5, rfl, hn5, his5, hl5, y5, hB5, hF5⟩
      dsimp only at hn5 his5 hl5 y5 hB5 hF5
      have HN5 := Lib.hid hn5; have HI5 := Lib.hid his5; clear hn5 his5
      clear p4 q4 r4 s4 l4 p5 q5 r5 s5 l5
      replace k1 := k1.on hB5
      replace x1 := x1.on hB5
      replace x2 := x2.on hB5
      replace x4 := x4.on hB5
      replace y1 := y1.on hB5
      replace y2 := y2.on hB5
      replace y4 := y4.on hB5
      replace bw := bw.trans (hB5.mono bw.size)
      have al_x5 := Below.al w5 (.cells #[.int .i64 (fr.length : Nat), .slice A5 n5 c5] 32)
      have x5 := Blk.new w5 32 #[.int .i64 (fr.length : Nat), .slice A5 n5 c5]
      replace k1 := k1.on al_x5
      replace x1 := x1.on al_x5
      replace x2 := x2.on al_x5
      replace x4 := x4.on al_x5
      replace y1 := y1.on al_x5
      replace y2 := y2.on al_x5
      replace y4 := y4.on al_x5
      replace y5 := y5.on al_x5
      replace bw := bw.trans (al_x5.mono bw.size)
      obtain ⟨p6, q6, r6, s6⟩ := x1.two
      have l6 := x1.lt
      obtain ⟨p7, q7, r7, s7⟩ := x2.two
      have l7 := x2.lt
      go_wp2_with fail
      refine (same_res HI1.out HI2.out HN1.out HN2.out y1 y2).mono ?_
      rintro e w6 ⟨rfl, hB6⟩
      try dsimp only
      clear p6 q6 r6 s6 l6 p7 q7 r7 s7 l7
      replace k1 := k1.on hB6
      replace x1 := x1.on hB6
      replace x2 := x2.on hB6
      replace x4 := x4.on hB6
      replace x5 := x5.on hB6
      replace y1 := y1.on hB6
      replace y2 := y2.on hB6
      replace y4 := y4.on hB6
      replace y5 := y5.on hB6
      replace bw := bw.trans (hB6.mono bw.size)
      go_wp2
      go_ret
      exact ⟨rfl, bw⟩
    · rw [if_neg (fun h => hoo (unsent_told o o2 R2 (by omega) (by omega) hsum h))] at h3
      have h4 := fun (w1 : World) (A1 A3 : Option Addr) (n1 n3 c1 c3 : Nat) (bs1 bs3 : List UInt8) (hn1 : n1 = bs1.length) (hn3 : n3 = bs3.length) (hi : IsBits o bs1) (hi3 : IsBits o2 bs3) (y1 : Byt w1.heap.size w1 A1 bs1) (y3 : Byt w1.heap.size w1 A3 bs3) => by
        have := rsame_any (o.length : Nat) (o2.length : Nat) A1 A3 n1 n3 c1 c3 bs1 bs3 w1 hn1 hn3 y1 y3
        have hsm : sameB (o.length : Nat) bs1 (o2.length : Nat) bs3 = false := by
          have := isBits_ne hi hi3 (by omega) (fun h => hoo h.symm)
          simp [sameB, this]
        rw [hsm] at this
        exact this
      have H3 := Lib.hid h3; have H4 := Lib.hid h4
      clear h3 h4 hA hn hT hsum hl2 ho1 ho2 hoo
      unfold maxLen at hm
      go_enter Tryd.func7, Tryd.ntmps7
      obtain ⟨p1, q1, r1, s1⟩ := k1.two
      have l1 := k1.lt
      go_wp2_with fail
      refine (H7.out _).mono ?_
      rintro e w1 ⟨A1, n1, c1, bs1, rfl, hn1, his1, hl1, y1, hB1, hF1⟩
      dsimp only at hn1 his1 hl1 y1 hB1 hF1
      have HN1 := Lib.hid hn1; have HI1 := Lib.hid his1; clear hn1 his1
      clear p1 q1 r1 s1 l1
      replace k1 := k1.on hB1
      replace bw := bw.trans (hB1.mono bw.size)
      have al_x1 := Below.al w1 (.cells #[.int .i64 (o.length : Nat), .slice A1 n1 c1] 32)
      have x1 := Blk.new w1 32 #[.int .i64 (o.length : Nat), .slice A1 n1 c1]
      replace k1 := k1.on al_x1
      replace y1 := y1.on al_x1
      replace bw := bw.trans (al_x1.mono bw.size)
      go_wp2_with fail
      refine (H8.out _).mono ?_
      rintro e w2 ⟨A2, n2, c2, bs2, rfl, hn2, his2, hl2, y2, hB2, hF2⟩
      dsimp only at hn2 his2 hl2 y2 hB2 hF2
      have HN2 := Lib.hid hn2; have HI2 := Lib.hid his2; clear hn2 his2
      replace k1 := k1.on hB2
      replace x1 := x1.on hB2
      replace y1 := y1.on hB2
      replace bw := bw.trans (hB2.mono bw.size)
      have al_x2 := Below.al w2 (.cells #[.int .i64 (o2.length : Nat), .slice A2 n2 c2] 32)
      have x2 := Blk.new w2 32 #[.int .i64 (o2.length : Nat), .slice A2 n2 c2]
      replace k1 := k1.on al_x2
      replace x1 := x1.on al_x2
      replace y1 := y1.on al_x2
      replace y2 := y2.on al_x2
      replace bw := bw.trans (al_x2.mono bw.size)
      go_wp2_with fail
      refine (H5.out _ bw).mono ?_
      rintro e w3 ⟨rfl, hB3⟩
      try dsimp only
      replace k1 := k1.on hB3
      replace x1 := x1.on hB3
      replace x2 := x2.on hB3
      replace y1 := y1.on hB3
      replace y2 := y2.on hB3
      replace bw := bw.trans (hB3.mono bw.size)
      obtain ⟨p2, q2, r2, s2⟩ := k1.two
      have l2 := k1.lt
      obtain ⟨p3, q3, r3, s3⟩ := x1.two
      have l3 := x1.lt
      go_wp2_with fail
      refine (H1.out _ A1 n1 c1 bs1 bw HN1.out HI1.out hl1 y1).mono ?_
      rintro e w4 ⟨A4, n4, c4, bs4, rfl, hn4, his4, hl4, y4, hB4, hF4⟩
      dsimp only at hn4 his4 hl4 y4 hB4 hF4
      have HN4 := Lib.hid hn4; have HI4 := Lib.hid his4; clear hn4 his4
      clear p2 q2 r2 s2 l2 p3 q3 r3 s3 l3
      replace k1 := k1.on hB4
      replace x1 := x1.on hB4
      replace x2 := x2.on hB4
      replace y1 := y1.on hB4
      replace y2 := y2.on hB4
      replace bw := bw.trans (hB4.mono bw.size)
      have al_x4 := Below.al w4 (.cells #[.int .i64 (R2.length : Nat), .slice A4 n4 c4] 32)
      have x4 := Blk.new w4 32 #[.int .i64 (R2.length : Nat), .slice A4 n4 c4]
      replace k1 := k1.on al_x4
      replace x1 := x1.on al_x4
      replace x2 := x2.on al_x4
      replace y1 := y1.on al_x4
      replace y2 := y2.on al_x4
      replace y4 := y4.on al_x4
      replace bw := bw.trans (al_x4.mono bw.size)
      obtain ⟨p4, q4, r4, s4⟩ := x4.two
      have l4 := x4.lt
      obtain ⟨p5, q5, r5, s5⟩ := x2.two
      have l5 := x2.lt
      go_wp2_with fail
      refine (H3.out _ A2 A4 n2 n4 c2 c4 bs2 bs4 bw HN2.out HN4.out HI2.out HI4.out hl4 y2 y4).mono ?_
      rintro e w5 ⟨A5, n5, c5, bs5, rfl, hn5, his5, hl5, y5, hB5, hF5⟩
      dsimp only at hn5 his5 hl5 y5 hB5 hF5
      have HN5 := Lib.hid hn5; have HI5 := Lib.hid his5; clear hn5 his5
      clear p4 q4 r4 s4 l4 p5 q5 r5 s5 l5
      replace k1 := k1.on hB5
      replace x1 := x1.on hB5
      replace x2 := x2.on hB5
      replace x4 := x4.on hB5
      replace y1 := y1.on hB5
      replace y2 := y2.on hB5
      replace y4 := y4.on hB5
      replace bw := bw.trans (hB5.mono bw.size)
      dsimp only [List.length_nil]
      have al_x5 := Below.al w5 (.cells #[.int .i64 0, .slice A5 n5 c5] 32)
      have x5 := Blk.new w5 32 #[.int .i64 0, .slice A5 n5 c5]
      replace k1 := k1.on al_x5
      replace x1 := x1.on al_x5
      replace x2 := x2.on al_x5
      replace x4 := x4.on al_x5
      replace y1 := y1.on al_x5
      replace y2 := y2.on al_x5
      replace y4 := y4.on al_x5
      replace y5 := y5.on al_x5
      replace bw := bw.trans (al_x5.mono bw.size)
      obtain ⟨p6, q6, r6, s6⟩ := x1.two
      have l6 := x1.lt
      obtain ⟨p7, q7, r7, s7⟩ := x2.two
      have l7 := x2.lt
      go_wp2_with fail
      refine (H4.out _ A1 A2 n1 n2 c1 c2 bs1 bs2 HN1.out HN2.out HI1.out HI2.out y1 y2).mono ?_
      rintro e w6 ⟨rfl, hB6⟩
      try dsimp only
      clear p6 q6 r6 s6 l6 p7 q7 r7 s7 l7
      replace k1 := k1.on hB6
      replace x1 := x1.on hB6
      replace x2 := x2.on hB6
      replace x4 := x4.on hB6
      replace x5 := x5.on hB6
      replace y1 := y1.on hB6
      replace y2 := y2.on hB6
      replace y4 := y4.on hB6
      replace y5 := y5.on hB6
      replace bw := bw.trans (hB6.mono bw.size)
      go_wp2
      go_ret
      exact ⟨rfl, bw⟩
  · have hne : (R1 == 0) = false := by simpa using h0
    clear hA hn hT ho1 ho2 hR h0
    unfold maxLen at hm
    go_enter Tryd.func7, Tryd.ntmps7
    obtain ⟨p1, q1, r1, s1⟩ := k1.two
    have l1 := k1.lt
    go_wp2_with fail
    refine (H7.out _).mono ?_
    rintro e w1 ⟨A1, n1, c1, bs1, rfl, hn1, his1, hl1, y1, hB1, hF1⟩
    dsimp only at hn1 his1 hl1 y1 hB1 hF1
    have HN1 := Lib.hid hn1; have HI1 := Lib.hid his1; clear hn1 his1
    clear p1 q1 r1 s1 l1
    replace k1 := k1.on hB1
    replace bw := bw.trans (hB1.mono bw.size)
    have al_x1 := Below.al w1 (.cells #[.int .i64 (o.length : Nat), .slice A1 n1 c1] 32)
    have x1 := Blk.new w1 32 #[.int .i64 (o.length : Nat), .slice A1 n1 c1]
    replace k1 := k1.on al_x1
    replace y1 := y1.on al_x1
    replace bw := bw.trans (al_x1.mono bw.size)
    go_wp2_with fail
    refine (H8.out _).mono ?_
    rintro e w2 ⟨A2, n2, c2, bs2, rfl, hn2, his2, hl2, y2, hB2, hF2⟩
    dsimp only at hn2 his2 hl2 y2 hB2 hF2
    have HN2 := Lib.hid hn2; have HI2 := Lib.hid his2; clear hn2 his2
    replace k1 := k1.on hB2
    replace x1 := x1.on hB2
    replace y1 := y1.on hB2
    replace bw := bw.trans (hB2.mono bw.size)
    have al_x2 := Below.al w2 (.cells #[.int .i64 (o2.length : Nat), .slice A2 n2 c2] 32)
    have x2 := Blk.new w2 32 #[.int .i64 (o2.length : Nat), .slice A2 n2 c2]
    replace k1 := k1.on al_x2
    replace x1 := x1.on al_x2
    replace y1 := y1.on al_x2
    replace y2 := y2.on al_x2
    replace bw := bw.trans (al_x2.mono bw.size)
    go_wp2_with fail
    refine (H5.out _ bw).mono ?_
    rintro e w3 ⟨rfl, hB3⟩
    try dsimp only
    replace k1 := k1.on hB3
    replace x1 := x1.on hB3
    replace x2 := x2.on hB3
    replace y1 := y1.on hB3
    replace y2 := y2.on hB3
    replace bw := bw.trans (hB3.mono bw.size)
    obtain ⟨p2, q2, r2, s2⟩ := k1.two
    have l2 := k1.lt
    obtain ⟨p3, q3, r3, s3⟩ := x1.two
    have l3 := x1.lt
    go_wp2_with fail
    refine (H1.out _ A1 n1 c1 bs1 bw HN1.out HI1.out hl1 y1).mono ?_
    rintro e w4 ⟨A4, n4, c4, bs4, rfl, hn4, his4, hl4, y4, hB4, hF4⟩
    dsimp only at hn4 his4 hl4 y4 hB4 hF4
    have HN4 := Lib.hid hn4; have HI4 := Lib.hid his4; clear hn4 his4
    clear p2 q2 r2 s2 l2 p3 q3 r3 s3 l3
    replace k1 := k1.on hB4
    replace x1 := x1.on hB4
    replace x2 := x2.on hB4
    replace y1 := y1.on hB4
    replace y2 := y2.on hB4
    replace bw := bw.trans (hB4.mono bw.size)
    have al_x4 := Below.al w4 (.cells #[.int .i64 (R2.length : Nat), .slice A4 n4 c4] 32)
    have x4 := Blk.new w4 32 #[.int .i64 (R2.length : Nat), .slice A4 n4 c4]
    replace k1 := k1.on al_x4
    replace x1 := x1.on al_x4
    replace x2 := x2.on al_x4
    replace y1 := y1.on al_x4
    replace y2 := y2.on al_x4
    replace y4 := y4.on al_x4
    replace bw := bw.trans (al_x4.mono bw.size)
    go_wp2
    go_ret
    exact ⟨rfl, bw⟩
end Go.Proofs.YtlmlbpnjkkfiaaaDoor
