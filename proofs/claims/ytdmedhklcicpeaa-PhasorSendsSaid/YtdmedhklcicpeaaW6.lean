/-
  PhasorFinds returns true and leaves all memory that was there as it was, for all samples and places. Condition: samples that can be read.
-/
import Derived.Test.YtdmedhklcicpeaaW5
namespace Go.Proofs.Ytdmedhklcicpeaa
open Go.RowKit

theorem few_one (A : Option Addr) (n c : Nat) : fewS [(A, n, c)] = decide (n ≤ 5000) := by simp [fewS]
theorem few_s (A : Option Addr) (n c : Nat) (w : World) (hm : n ≤ maxLen) :
    Calls Try.prog 18 #[.slice (some ⟨w.heap.size, 0, none⟩) 1 1] (w.alloc (.cells #[.slice A n c] 25)) fun e w' => e = .returned (.bool (decide (n ≤ 5000))) ∧ (w.alloc (.cells #[.slice A n c] 25)) = w' := by
  have := few_any (some ⟨w.heap.size, 0, none⟩) 1 1 [(A, n, c)] (w.alloc (.cells #[.slice A n c] 25)) rfl (by decide) (by decide) (one_svs (x := (A, n, c)) (Blk.new w _ _)) (fun x hx => by simp at hx; subst hx; exact hm)
  rw [few_one] at this
  exact this

set_option maxRecDepth 8000 in
set_option maxHeartbeats 2000000 in
theorem finds_law (A : Option Addr) (n c : Nat) (l : List Sp) (at_ : Int) (w : World) (hn : n = l.length) (hm : n ≤ maxLen) (hcap : n ≤ c) (hA : Smps w.heap.size w A l) :
    Calls Try.prog 5 #[.slice A n c, .int .i64 at_] w fun e w' => e = .returned (.bool true) ∧ Below w.heap.size w w' := by
  have HBG := Lib.hid begun_any
  have HFW := Lib.hid (fun w1 => few_s A n c w1 hm)
  have HN := Lib.hid hn; have HA := Lib.hid hA
  clear hn hA hm
  go_enter Try.func5, Try.ntmps5
  go_wp2_with fail
  refine (HBG.out _).mono ?_
  rintro e w1 ⟨rfl, b1⟩
  go_wp2_with fail
  refine (HFW.out _).mono ?_
  rintro e w2 ⟨rfl, rfl⟩
  have b2 := b1.alloc b1.size (.cells #[.slice A n c] 25)
  by_cases h5 : n ≤ 5000
  · have hd : decide (n ≤ 5000) = true := by simpa using h5
    rw [hd]
    have hma := fun w1 (h : Below w.heap.size w w1) => match_any A n c l at_ w1 HN.out (by omega) hcap (HA.out.on h)
    have hra := fun w1 (h : Below w.heap.size w w1) => rmatch_any A n c l at_ w1 HN.out (by omega) hcap (HA.out.on h)
    have hfa := fun w1 (h : Below w.heap.size w w1) => find_any A n c l at_ w1 HN.out (by omega) hcap (HA.out.on h)
    have hrf := fun w1 (h : Below w.heap.size w w1) => rfind_any A n c l at_ w1 HN.out (by omega) hcap (HA.out.on h)
    generalize matchS l at_ = mm at *
    generalize findS l at_ = ff at *
    obtain ⟨⟨mI, mQ⟩, mn, mb⟩ := mm
    obtain ⟨f1, f2, f3⟩ := ff
    dsimp only at hma hra hfa hrf
    have HMA := Lib.hid hma; have HRA := Lib.hid hra; have HFA := Lib.hid hfa; have HRF := Lib.hid hrf
    clear hma hra hfa hrf
    go_wp2_with fail
    refine (HMA.out _ b2).mono ?_
    rintro e w3 ⟨rfl, hB3⟩
    have b3 := b2.trans (hB3.mono b2.size)
    have k5 := Blk.new w3 38 #[.int .i64 mI, .int .i64 mQ]
    have b4 := b3.alloc b3.size (.cells #[.int .i64 mI, .int .i64 mQ] 38)
    go_wp2_with fail
    refine (HRA.out _ b4).mono ?_
    rintro e w5 ⟨rfl, hB5⟩
    have b5 := b4.trans (hB5.mono b4.size)
    replace k5 := k5.on hB5
    have hlt5 := k5.lt
    have k6 := Blk.new w5 38 #[.int .i64 mI, .int .i64 mQ]
    replace k5 := k5.alloc (.cells #[.int .i64 mI, .int .i64 mQ] 38)
    have b6 := b5.alloc b5.size (.cells #[.int .i64 mI, .int .i64 mQ] 38)
    go_wp2_with fail
    refine (HFA.out _ b6).mono ?_
    rintro e w7 ⟨rfl, hB7⟩
    have b7 := b6.trans (hB7.mono b6.size)
    replace k5 := k5.on hB7
    replace k6 := k6.on hB7
    go_wp2_with fail
    refine (HRF.out _ b7).mono ?_
    rintro e w8 ⟨rfl, hB8⟩
    have b8 := b7.trans (hB8.mono b7.size)
    replace k5 := k5.on hB8
    replace k6 := k6.on hB8
    obtain ⟨c1, c2, _⟩ := k5.two
    obtain ⟨c3, c4, _⟩ := k6.two
    have z1 := k5.lt
    have z2 := k6.lt
    go_wp2
    go_ret
    exact ⟨rfl, b8⟩
  · have hd : decide (n ≤ 5000) = false := by simpa using h5
    rw [hd]
    go_wp2_with fail
    refine (HBG.out _).mono ?_
    rintro e w3 ⟨rfl, hB3⟩
    go_wp2
    go_ret
    exact ⟨rfl, b2.trans (hB3.mono b2.size)⟩
end Go.Proofs.Ytdmedhklcicpeaa
