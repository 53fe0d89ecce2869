/-
  PhasorReads returns true and leaves all memory that was there as it was, for all samples, places and quarters. Condition: samples that can be read.
-/
import Derived.Test.YtdmedhklcicpeaaY4
namespace Go.Proofs.Ytdmedhklcicpeaa
open Go.RowKit

/-- Bits that are the same are told so. -/
theorem same_res (R : List Bool) (A A' : Option Addr) (n n' c c' : Nat) (bs bs' : List UInt8) (w : World) (hn : n = bs.length) (hn' : n' = bs'.length) (hi : IsBits R bs) (hi' : IsBits R bs') (hA : Byt w.heap.size w A bs) (hA' : Byt w.heap.size w A' bs') :
    Calls Try.prog 32 #[.agg #[.int .i64 R.length, .slice A n c], .agg #[.int .i64 R.length, .slice A' n' c']] w fun e w' => e = .returned (.bool true) ∧ Below w.heap.size w w' := by
  have e : bs = bs' := hi.unique hi'
  subst e
  have := rsame_any (R.length : Int) (R.length : Int) A A' n n' c c' bs bs w hn hn' hA hA'
  rw [sameB_self] at this
  exact this

set_option maxRecDepth 8000 in
set_option maxHeartbeats 4000000 in
theorem reads_law (A : Option Addr) (n c : Nat) (l : List Sp) (at_ q : Int) (w : World) (hn : n = l.length) (hm : n ≤ maxLen) (hcap : n ≤ c) (hA : Smps w.heap.size w A l) :
    Calls Try.prog 6 #[.slice A n c, .int .i64 at_, .int .i64 q] w fun e w' => e = .returned (.bool true) ∧ Below w.heap.size w w' := by
  have HBG := Lib.hid begun_any
  have HFW := Lib.hid (fun w1 => few_s A n c w1 hm)
  have HN := Lib.hid hn; have HA := Lib.hid hA
  clear hn hA hm
  go_enter Try.func6, Try.ntmps6
  go_wp2_with fail
  refine (HBG.out _).mono ?_
  rintro e w1 ⟨rfl, b1⟩
  go_wp2_with fail
  refine (HFW.out _).mono ?_
  rintro e w2 ⟨rfl, rfl⟩
  have b2 := b1.alloc b1.size (.cells #[.slice A n c] 25)
  by_cases h5 : n ≤ 5000
  · have hd : decide (n ≤ 5000) = true := by simpa using h5
    rw [hd]
    have h1 := fun w1 (h : Below w.heap.size w w1) => decode_any A n c l at_ q w1 HN.out (by omega) hcap (HA.out.on h)
    have h2 := fun w1 (h : Below w.heap.size w w1) => rdecode_any A n c l at_ q w1 HN.out (by omega) hcap (HA.out.on h)
    have h3 := fun w1 (h : Below w.heap.size w w1) => receive_any A n c l w1 HN.out (by omega) hcap (HA.out.on h)
    have h4 := fun w1 (h : Below w.heap.size w w1) => rreceive_any A n c l w1 HN.out (by omega) hcap (HA.out.on h)
    generalize decodeS l at_ q = R at *
    generalize receiveS l = S at *
    obtain ⟨re, rl⟩ := R
    obtain ⟨se, sl⟩ := S
    have H1 := Lib.hid h1; have H2 := Lib.hid h2; have H3 := Lib.hid h3; have H4 := Lib.hid h4
    clear h1 h2 h3 h4
    go_wp2_with fail
    refine (H1.out _ b2).mono ?_
    rintro e w3 ⟨A1, n1, c1, bs1, rfl, hn1, hi1, _, hA1, hB3, _⟩
    have HN1 := Lib.hid hn1; have HI1 := Lib.hid hi1; have HA1 := Lib.hid hA1; clear hn1 hi1 hA1
    dsimp only
    have hB3' := hB3.alloc hB3.size (.cells #[.int .i64 rl.length, .slice A1 n1 c1] 24)
    have b3 := b2.trans (hB3'.mono b2.size)
    have k1 := Blk.new w3 24 #[.int .i64 rl.length, .slice A1 n1 c1]
    have HA1' := Lib.hid (HA1.out.on ((Below.refl _ _).alloc (Nat.le_refl _) (.cells #[.int .i64 rl.length, .slice A1 n1 c1] 24)))
    go_wp2_with fail
    refine (H2.out _ b3).mono ?_
    rintro e w4 ⟨A2, n2, c2, bs2, rfl, hn2, hi2, _, hA2, hB4, _⟩
    have HN2 := Lib.hid hn2; have HI2 := Lib.hid hi2; have HA2 := Lib.hid hA2; clear hn2 hi2 hA2
    dsimp only
    have hB4' := hB4.alloc hB4.size (.cells #[.int .i64 rl.length, .slice A2 n2 c2] 24)
    have b4 := b3.trans (hB4'.mono b3.size)
    replace k1 := k1.on hB4'
    have k2 := Blk.new w4 24 #[.int .i64 rl.length, .slice A2 n2 c2]
    have HA1'' := Lib.hid (HA1'.out.on hB4')
    have HA2' := Lib.hid (HA2.out.on ((Below.refl _ _).alloc (Nat.le_refl _) (.cells #[.int .i64 rl.length, .slice A2 n2 c2] 24)))
    go_wp2_with fail
    refine (H3.out _ b4).mono ?_
    rintro e w5 ⟨A3, n3, c3, bs3, rfl, hn3, hi3, _, hA3, hB5, _⟩
    have HN3 := Lib.hid hn3; have HI3 := Lib.hid hi3; have HA3 := Lib.hid hA3; clear hn3 hi3 hA3
    dsimp only
    have hB5' := hB5.alloc hB5.size (.cells #[.int .i64 sl.length, .slice A3 n3 c3] 24)
    have b5 := b4.trans (hB5'.mono b4.size)
    replace k1 := k1.on hB5'
    replace k2 := k2.on hB5'
    have k3 := Blk.new w5 24 #[.int .i64 sl.length, .slice A3 n3 c3]
    have HA15 := Lib.hid (HA1''.out.on hB5')
    have HA25 := Lib.hid (HA2'.out.on hB5')
    have HA3' := Lib.hid (HA3.out.on ((Below.refl _ _).alloc (Nat.le_refl _) (.cells #[.int .i64 sl.length, .slice A3 n3 c3] 24)))
    go_wp2_with fail
    refine (H4.out _ b5).mono ?_
    rintro e w6 ⟨A4, n4, c4, bs4, rfl, hn4, hi4, _, hA4, hB6, _⟩
    have HN4 := Lib.hid hn4; have HI4 := Lib.hid hi4; have HA4 := Lib.hid hA4; clear hn4 hi4 hA4
    dsimp only
    have hB6' := hB6.alloc hB6.size (.cells #[.int .i64 sl.length, .slice A4 n4 c4] 24)
    have b6 := b5.trans (hB6'.mono b5.size)
    replace k1 := k1.on hB6'
    replace k2 := k2.on hB6'
    replace k3 := k3.on hB6'
    have k4 := Blk.new w6 24 #[.int .i64 sl.length, .slice A4 n4 c4]
    have HA16 := Lib.hid (HA15.out.on hB6')
    have HA26 := Lib.hid (HA25.out.on hB6')
    have HA36 := Lib.hid (HA3'.out.on hB6')
    have HA4' := Lib.hid (HA4.out.on ((Below.refl _ _).alloc (Nat.le_refl _) (.cells #[.int .i64 sl.length, .slice A4 n4 c4] 24)))
    obtain ⟨p1, p2, _⟩ := k1.two
    obtain ⟨p3, p4, _⟩ := k2.two
    have y1 := k1.lt
    have y2 := k2.lt
    go_wp2_with fail
    refine (same_res rl A1 A2 n1 n2 c1 c2 bs1 bs2 _ HN1.out HN2.out HI1.out HI2.out HA16.out HA26.out).mono ?_
    rintro e w7 ⟨rfl, hB7⟩
    have b7 := b6.trans (hB7.mono b6.size)
    replace k3 := k3.on hB7
    replace k4 := k4.on hB7
    obtain ⟨p5, p6, _⟩ := k3.two
    obtain ⟨p7, p8, _⟩ := k4.two
    have y3 := k3.lt
    have y4 := k4.lt
    have HA37 := Lib.hid (HA36.out.on hB7)
    have HA47 := Lib.hid (HA4'.out.on hB7)
    go_wp2_with fail
    refine (same_res sl A3 A4 n3 n4 c3 c4 bs3 bs4 _ HN3.out HN4.out HI3.out HI4.out HA37.out HA47.out).mono ?_
    rintro e w8 ⟨rfl, hB8⟩
    have b8 := b7.trans (hB8.mono b7.size)
    go_wp2
    go_ret
    exact ⟨rfl, b8⟩
  · have hd : decide (n ≤ 5000) = false := by simpa using h5
    rw [hd]
    go_wp2_with fail
    refine (HBG.out _).mono ?_
    rintro e w3 ⟨rfl, hB3⟩
    go_wp2
    go_ret
    exact ⟨rfl, b2.trans (hB3.mono b2.size)⟩
end Go.Proofs.Ytdmedhklcicpeaa
