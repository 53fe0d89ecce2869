/-
  Open of package crc, and the document's: both answer as the document says, for all bits. Conditions: that the bytes can be read, and (package crc) that the table holds what the program's text lays.
-/
import Derived.Test.YtlmlbpnjkkfiaaaDoorC7
namespace Go.Proofs.YtlmlbpnjkkfiaaaDoor
open Go.RowKit

/-- What was sealed: all but the last 24. -/
def frontOf (l : List Bool) : List Bool := l.take (l.length - 24)
/-- The last 24. -/
def lastOf (l : List Bool) : List Bool := l.drop (l.length - 24)
/-- Open, by the document. -/
def openS (N : Int) (bs : List UInt8) (M : Int) (us : List UInt8) : Int × List Bool :=
  if goodB N bs = true ∧ goodB M us = true then
    if N < 24 then (20, [])
    else if numOf (lastOf (listOf N bs)) = rem 0 (listOf M us ++ frontOf (listOf N bs)) then (0, frontOf (listOf N bs)) else (21, [])
  else (10, [])
theorem slice_front {N : Int} {bs : List UInt8} (hg : goodB N bs = true) (h : ¬ N < 24) : sliceS N bs 0 (N - 24) = (0, frontOf (listOf N bs)) := by
  have h1 := good_length hg
  unfold sliceS frontOf
  rw [if_pos hg, if_pos (by omega)]
  simp
  congr 1
  omega
theorem get_last {N : Int} {bs : List UInt8} (hg : goodB N bs = true) (h : ¬ N < 24) : getS N bs (N - 24) 24 = (0, numOf (lastOf (listOf N bs))) := by
  have h1 := good_length hg
  unfold getS lastOf
  rw [if_pos hg, if_pos (by omega)]
  simp only [Prod.mk.injEq, true_and]
  congr 1
  rw [List.take_of_length_le (by simp; omega)]
  congr 1
  omega
theorem front_length {N : Int} {bs : List UInt8} (hg : goodB N bs = true) (h : ¬ N < 24) : ((frontOf (listOf N bs)).length : Int) = N - 24 := by
  have h1 := good_length hg
  unfold frontOf
  rw [List.length_take]
  omega
theorem last_lt (l : List Bool) : numOf (lastOf l) < 2 ^ 24 := by
  have h1 := numOf_lt (lastOf l)
  have h2 : (lastOf l).length ≤ 24 := by simp [lastOf]; omega
  exact Nat.lt_of_lt_of_le h1 (Nat.pow_le_pow_right (by omega) h2)
theorem front_le (l : List Bool) : (frontOf l).length ≤ l.length := by simp [frontOf]

set_option maxHeartbeats 2000000 in
theorem open_any (N : Int) (A : Option Addr) (n c : Nat) (bs : List UInt8) (M : Int) (B : Option Addr) (m d : Nat) (us : List UInt8) (w : World) (hn : n = bs.length) (hm : n ≤ maxLen) (hA : Byt w.heap.size w A bs) (hn' : m = us.length) (hm' : m ≤ maxLen) (hB : Byt w.heap.size w B us) (hT : Tab w) :
    Calls Tryd.prog 15 #[.agg #[.int .i64 N, .slice A n c], .agg #[.int .i64 M, .slice B m d]] w (Res w (openS N bs M us)) := by
  have hck1 := fun (w1 : World) (h : Below w.heap.size w w1) => check_any N A n c bs w1 hn hm ((hA.below h).mono h.size)
  have hck2 := fun (w1 : World) (h : Below w.heap.size w w1) => check_any M B m d us w1 hn' hm' ((hB.below h).mono h.size)
  have b3 : Below w.heap.size w (((w.alloc (.cells #[.int .i64 N, .slice A n c] 32)).alloc (.cells #[.int .i64 M, .slice B m d] 32)).alloc (.cells #[.int .i64 0, .slice none 0 0] 32)) := (((Below.refl _ _).alloc (Nat.le_refl _) _).alloc (by simp) _).alloc (by simp; omega) _
  have B3 := Lib.hid b3; clear b3
  unfold openS
  by_cases g1 : goodB N bs = true
  · rw [chk_yes g1] at hck1
    have HC1 := Lib.hid hck1; clear hck1
    by_cases g2 : goodB M us = true
    · rw [chk_yes g2] at hck2
      have HC2 := Lib.hid hck2; clear hck2
      rw [if_pos ⟨g1, g2⟩]
      have hg1 := (good_iff N bs).1 g1
      have hN0 := hg1.1; have hN1 := hg1.2.1; clear hg1
      by_cases h24 : N < 24
      · rw [if_pos h24]
        clear hA hB hT hn hn'
        have hd : decide (N < 24) = true := by simpa using h24
        unfold maxLen at hm hm'
        go_enter Tryd.func15, Tryd.ntmps15
        go_wp2_with fail
        refine (HC1.out _ B3.out).mono ?_
        rintro e w1 ⟨rfl, hB1⟩
        obtain ⟨k1, k2, k3, hs1, hBw1⟩ := boxes3 hB1
        obtain ⟨c1, c2, f1, f2⟩ := k2.two
        go_wp2_with fail
        refine (HC2.out _ hBw1).mono ?_
        rintro e w2 ⟨rfl, hB2⟩
        have hBw2 := hBw1.trans (hB2.mono hBw1.size)
        replace k1 := k1.below hB2 k1.lt; replace k2 := k2.below hB2 k2.lt; replace k3 := k3.below hB2 k3.lt
        clear c1 c2 f1 f2
        obtain ⟨c1, c2, f1, f2⟩ := k1.two
        obtain ⟨c3, c4, f3, f4⟩ := k3.two
        have hlt := k3.lt
        go_wp2
        exact bodyPost_ret (v := .tuple #[.agg #[.int .i64 0, .slice none 0 0], .int .i64 20]) (by simp [results, Tryd.results15, go_sem, c3, c4]) rfl
          (res_err 20 ((hBw2.setCell (p := ⟨w.heap.size + 1 + 1, 0, none⟩) (by simp; omega) _).setCell (p := ⟨w.heap.size + 1 + 1, 1, none⟩) (by simp; omega) _))
      · rw [if_neg h24]
        have hsl := fun (w1 : World) (h : Below w.heap.size w w1) => slice_any N 0 (N - 24) A n c bs w1 hn hm ((hA.below h).mono h.size)
        rw [slice_front g1 h24] at hsl
        have hgt := fun (w1 : World) (h : Below w.heap.size w w1) => get_any N (N - 24) 24 A n c bs w1 hn hm ((hA.below h).mono h.size)
        rw [get_last g1 h24] at hgt
        have hfl := front_length g1 h24
        have hll := last_lt (listOf N bs)
        generalize frontOf (listOf N bs) = fr at *
        generalize numOf (lastOf (listOf N bs)) = L at *
        have hsum := fun (w1 : World) (g : Nat) (A1 : Option Addr) (n1 c1 : Nat) (bs1 : List UInt8) (h : Below w.heap.size w w1) (h1 : n1 = bs1.length) (h2 : n1 ≤ maxLen) (h3 : IsBits fr bs1) (h4 : fr.length ≤ 4096) (h5 : Byt w1.heap.size w1 A1 bs1) (hb : Blk w1 g 32 #[.int .i64 M, .slice B m d, .int .i64 (fr.length : Nat), .slice A1 n1 c1]) => by
          have := sum_any (some ⟨g, 0, none⟩) 2 2 [⟨M, B, m, d, us⟩, ⟨(fr.length : Nat), A1, n1, c1, bs1⟩] w1 rfl (by decide) (pair_bvs hb) (fun x hx => by
            simp at hx
            rcases hx with rfl | rfl
            · exact ⟨hn', hm', (hB.below h).mono h.size⟩
            · exact ⟨h1, h2, h5⟩) (hT.below h (.inl (Nat.le_refl _)))
          rw [pair_sum, if_pos ⟨g2, isBits_good h3 h4⟩] at this
          dsimp only at this
          rw [isBits_listOf h3] at this
          exact this
        have hrl := rem_lt (listOf M us ++ fr) 0 (by decide)
        generalize rem 0 (listOf M us ++ fr) = S at *
        have HSL := Lib.hid hsl; have HGT := Lib.hid hgt; have HSM := Lib.hid hsum; have HFL := Lib.hid hfl
        clear hsl hgt hsum hfl hA hB hT hn hn'
        obtain ⟨R, hR⟩ : ∃ R, R = (if L = S then ((0 : Int), fr) else (21, [])) := ⟨_, rfl⟩
        rw [← hR]
        have HR := Lib.hid hR; clear hR
        have hd : decide (N < 24) = false := by simpa using h24
        unfold maxLen at hm hm'
        go_enter Tryd.func15, Tryd.ntmps15
        go_wp2_with fail
        refine (HC1.out _ B3.out).mono ?_
        rintro e w1 ⟨rfl, hB1⟩
        obtain ⟨k1, k2, k3, hs1, hBw1⟩ := boxes3 hB1
        obtain ⟨c1, c2, f1, f2⟩ := k2.two
        go_wp2_with fail
        refine (HC2.out _ hBw1).mono ?_
        rintro e w2 ⟨rfl, hB2⟩
        have hBw2 := hBw1.trans (hB2.mono hBw1.size)
        replace k1 := k1.below hB2 k1.lt; replace k2 := k2.below hB2 k2.lt; replace k3 := k3.below hB2 k3.lt
        clear c1 c2 f1 f2
        obtain ⟨c1, c2, f1, f2⟩ := k1.two
        have hlt2 := k3.lt
        go_wp2_with fail
        refine (HSL.out _ hBw2).mono ?_
        rintro e w3 ⟨A1, n1, c5, bs1, rfl, hn1, his1, hl1, hA1, hB3, hF1⟩
        dsimp only at *
        have HN1 := Lib.hid hn1; have HI1 := Lib.hid his1; clear hn1 his1
        have hBw3 := hBw2.trans (hB3.mono hBw2.size)
        replace k1 := k1.below hB3 k1.lt; replace k2 := k2.below hB3 k2.lt; replace k3 := k3.below hB3 k3.lt
        clear c1 c2 f1 f2 hB1 hB2
        have k4 := Blk.new w3 32 #[.int .i64 (fr.length : Nat), .slice A1 n1 c5]
        replace k1 := k1.alloc (.cells #[.int .i64 (fr.length : Nat), .slice A1 n1 c5] 32)
        replace k2 := k2.alloc (.cells #[.int .i64 (fr.length : Nat), .slice A1 n1 c5] 32)
        replace k3 := k3.alloc (.cells #[.int .i64 (fr.length : Nat), .slice A1 n1 c5] 32)
        obtain ⟨c1, c2, f1, f2⟩ := k1.two
        have hlt3 := k3.lt
        have y1 := (hA1.below ((Below.refl _ _).alloc (Nat.le_refl _) (.cells #[.int .i64 (fr.length : Nat), .slice A1 n1 c5] 32)))
        have hBw4 := hBw3.alloc hBw3.size (.cells #[.int .i64 (fr.length : Nat), .slice A1 n1 c5] 32)
        go_wp2_with fail
        refine (HGT.out _ hBw4).mono ?_
        rintro e w4 ⟨rfl, hB4⟩
        dsimp only
        have hBw5 := hBw4.trans (hB4.mono hBw4.size)
        replace k2 := k2.below hB4 k2.lt; replace k3 := k3.below hB4 k3.lt; replace k4 := k4.below hB4 k4.lt
        replace y1 := (y1.below (hB4.mono (by simp))).mono (Nat.le_trans (by simp) hB4.size)
        clear c1 c2 f1 f2 k1
        obtain ⟨c1, c2, f1, f2⟩ := k2.two
        obtain ⟨c3, c4, f3, f4⟩ := k4.two
        have hlt4 := k4.lt
        go_wp2_with fail
        refine (HSM.out _ _ A1 n1 c5 bs1 (hBw5.alloc hBw5.size _) HN1.out (by rw [HN1.out]; exact bytes_small HI1.out hl1) HI1.out hl1 (by
          have hq := (Below.refl w4.heap.size w4).alloc (Nat.le_refl _) (.cells #[.int .i64 M, .slice B m d, .int .i64 (fr.length : Nat), .slice A1 n1 c5] 32)
          exact (y1.below hq).mono hq.size) (Blk.new w4 32 _)).mono ?_
        rintro e w5 ⟨rfl, hB5⟩
        dsimp only
        have hal : Below w4.heap.size w4 (w4.alloc (.cells #[.int .i64 M, .slice B m d, .int .i64 (fr.length : Nat), .slice A1 n1 c5] 32)) := (Below.refl _ _).alloc (Nat.le_refl _) _
        have hB45 := hal.trans (hB5.mono hal.size)
        have hBw6 := hBw5.trans (hB45.mono hBw5.size)
        replace k3 := k3.below hB45 k3.lt; replace k4 := k4.below hB45 k4.lt
        replace y1 := (y1.below hB45).mono hB45.size
        clear c1 c2 f1 f2 c3 c4 f3 f4 hal
        obtain ⟨c1, c2, f1, f2⟩ := k3.two
        obtain ⟨c3, c4, f3, f4⟩ := k4.two
        have hlt5 := k3.lt
        by_cases hLS : L = S
        · have hRR := HR.out
          rw [if_pos hLS] at hRR
          have HRR := Lib.hid hRR
          clear hRR HR
          subst hLS
          go_wp2
          rw [HRR.out]
          have hF2 : Fresh w2.heap.size A1 bs1 := hF1
          have hBq := (Below.refl w3.heap.size w3).alloc (Nat.le_refl _) (.cells #[.int .i64 (fr.length : Nat), .slice A1 n1 c5] 32)
          have hB25 := hB3.trans (((hBq.trans (hB4.mono hBq.size)).trans (hB45.mono (hBq.trans (hB4.mono hBq.size)).size)).mono hB3.size)
          exact bodyPost_ret (v := .tuple #[.agg #[.int .i64 fr.length, .slice A1 n1 c5], .int .i64 0]) (by simp [results, Tryd.results15, go_sem, c1, c2]) rfl
            (res_stored (R := (0, fr)) HN1.out HI1.out hl1 y1 hBw2 hB25 hF2 (by omega) hlt2)
        · have hRR := HR.out
          rw [if_neg hLS] at hRR
          have HRR := Lib.hid hRR
          clear hRR HR
          have hne : ((S : Int) == (L : Int)) = false := by rw [beq_eq_false_iff_ne]; omega
          clear hLS
          go_wp2
          rw [HRR.out]
          exact bodyPost_ret (v := .tuple #[.agg #[.int .i64 0, .slice none 0 0], .int .i64 21]) (by simp [results, Tryd.results15, go_sem, c1, c2]) rfl
            (res_err 21 ((hBw6.setCell (p := ⟨w.heap.size + 1 + 1, 0, none⟩) (by simp; omega) _).setCell (p := ⟨w.heap.size + 1 + 1, 1, none⟩) (by simp; omega) _))
    · rw [if_neg (fun h => g2 h.2)]
      rw [chk_no (by simpa using g2)] at hck2
      have HC2 := Lib.hid hck2; clear hck2
      clear hA hB hT hn hn' g1 g2
      unfold maxLen at hm hm'
      go_enter Tryd.func15, Tryd.ntmps15
      go_wp2_with fail
      refine (HC1.out _ B3.out).mono ?_
      rintro e w1 ⟨rfl, hB1⟩
      obtain ⟨k1, k2, k3, hs1, hBw1⟩ := boxes3 hB1
      obtain ⟨c1, c2, f1, f2⟩ := k2.two
      go_wp2_with fail
      refine (HC2.out _ hBw1).mono ?_
      rintro e w2 ⟨rfl, hB2⟩
      have hBw2 := hBw1.trans (hB2.mono hBw1.size)
      replace k3 := k3.below hB2 k3.lt
      clear c1 c2 f1 f2
      obtain ⟨c3, c4, f3, f4⟩ := k3.two
      have hlt := k3.lt
      go_wp2
      exact bodyPost_ret (v := .tuple #[.agg #[.int .i64 0, .slice none 0 0], .int .i64 10]) (by simp [results, Tryd.results15, go_sem, c3, c4]) rfl
        (res_err 10 ((hBw2.setCell (p := ⟨w.heap.size + 1 + 1, 0, none⟩) (by simp; omega) _).setCell (p := ⟨w.heap.size + 1 + 1, 1, none⟩) (by simp; omega) _))
  · rw [if_neg (fun h => g1 h.1)]
    rw [chk_no (by simpa using g1)] at hck1
    have HC1 := Lib.hid hck1; clear hck1
    clear hA hB hT hn hn' g1 hck2
    unfold maxLen at hm hm'
    go_enter Tryd.func15, Tryd.ntmps15
    go_wp2_with fail
    refine (HC1.out _ B3.out).mono ?_
    rintro e w1 ⟨rfl, hB1⟩
    obtain ⟨k1, k2, k3, hs1, hBw1⟩ := boxes3 hB1
    obtain ⟨c3, c4, f3, f4⟩ := k3.two
    have hlt := k3.lt
    go_wp2
    exact bodyPost_ret (v := .tuple #[.agg #[.int .i64 0, .slice none 0 0], .int .i64 10]) (by simp [results, Tryd.results15, go_sem, c3, c4]) rfl
      (res_err 10 ((hBw1.setCell (p := ⟨w.heap.size + 1 + 1, 0, none⟩) (by simp; omega) _).setCell (p := ⟨w.heap.size + 1 + 1, 1, none⟩) (by simp; omega) _))
end Go.Proofs.YtlmlbpnjkkfiaaaDoor
