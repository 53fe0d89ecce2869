/-
  The document itself: Put. No condition but that the bytes can be read.
-/
import Derived.Test.YteigekhfamapmaaDoorF3
namespace Go.Proofs.YteigekhfamapmaaDoor
open Go.RowKit

theorem numBits_take (v W k : Nat) (h : k < W) : (numBits v W).take (k + 1) = (numBits v W).take k ++ [v.testBit (W - 1 - k)] := by
  rw [List.take_add_one, List.getElem?_eq_getElem (by simp [numBits, h])]
  simp [numBits]

set_option maxRecDepth 4000 in
set_option maxHeartbeats 1000000 in
theorem rput_any (N width : Int) (v : Nat) (A : Option Addr) (n c : Nat) (bs : List UInt8) (w : World) (hn : n = bs.length) (hm : n ≤ maxLen) (hA : Byt w.heap.size w A bs) (hv : v < 2 ^ 64) :
    Calls Tryd.prog 32 #[.agg #[.int .i64 N, .slice A n c], .int .u64 v, .int .i64 width] w (Res w (putS N bs v width)) := by
  have hck := fun w1 (h : Below w.heap.size w w1) => rcheck_any N A n c bs w1 hn hm ((hA.below h).mono h.size)
  have hli := fun w1 (h : Below w.heap.size w w1) => list_any N A n c bs w1 hn hm ((hA.below h).mono h.size)
  have HCK := Lib.hid hck; have HLI := Lib.hid hli; clear hck hli hA hn
  unfold maxLen at hm
  by_cases hgood : goodB N bs = true
  · obtain ⟨hg0, hg1, hg2, hg3⟩ := (good_iff N bs).1 hgood
    have hk := chk_yes hgood
    have HK := Lib.hid hk; clear hk hg3
    have HG2 := Lib.hid hg2; clear hg2
    by_cases hwid : 0 ≤ width ∧ width ≤ 64
    · obtain ⟨hw0, hw1⟩ := hwid
      obtain ⟨wd, rfl⟩ := Int.eq_ofNat_of_zero_le hw0
      have hwd : wd ≤ 64 := by omega
      have hd1 : decide ((wd : Int) < 0) = false := by simp
      have hd2 : decide ((64 : Int) < (wd : Int)) = false := by simp; omega
      by_cases hsh : v / 2 ^ wd = 0
      · have hshb : ((v : Int) / 2 ^ wd != 0) = false := by
          have : ((v : Int) / 2 ^ wd) = ((v / 2 ^ wd : Nat) : Int) := by norm_cast
          rw [this, hsh]; rfl
        have hr : putS N bs v wd = ofS (lst N bs ++ numBits v wd) := by
          have h1 := good_length hgood
          have h2 : lst N bs = listOf N bs := by simp [lst, hgood]
          unfold putS ofS
          rw [if_pos hgood, Int.toNat_natCast, if_pos ⟨⟨hw0, hw1⟩, hsh⟩, List.length_append, numBits_length, h2]
          by_cases hq : 4096 - N < (wd : Int)
          · rw [if_pos hq, if_pos (by omega)]
          · rw [if_neg hq, if_neg (by omega)]
        have hll := lst_length N bs
        rw [hr]; clear hr hgood
        generalize lst N bs = l at *
        have HSH := Lib.hid hsh; clear hsh
        obtain ⟨i0, hi, hz0, hz1, hz2⟩ := info_parts Tryd.info4
        go_enter Tryd.func32, Tryd.ntmps32
        go_wp2_with (first
            | (go_at_call 36; refine (HCK.out _ (((Below.refl _ _).alloc (Nat.le_refl _) _).alloc (by simp) _)).mono ?_; rintro e w1 ⟨rfl, hB⟩; rw [HK.out]; obtain ⟨k1, k2, hs, hBw⟩ := boxes2 hB; obtain ⟨c1, c2, f1, f2⟩ := k2.two; obtain ⟨c3, c4, f3, f4⟩ := k1.two; have hl1 : w.heap.size + 1 < w1.heap.size := by omega)
            | (go_at_call 47; refine (HLI.out _ hBw).mono ?_; rintro e w2 ⟨lv, rfl, hown, hB2⟩))
        all_goals
          have j1 := k1.below hB2 k1.lt
          have j2 := k2.below hB2 k2.lt
          have hBw2 := hBw.trans (hB2.mono hBw.size)
          have hs2 := hB2.size
          clear c1 c2 c3 c4 f1 f2 f3 f4 k1 k2 hB hd1 hd2 hshb hB2
          go_loopw [8, 9] (fun lv i wr => ∃ k : Nat, k ≤ wd ∧ i = .int .i64 ((wd : Int) - 1 - k) ∧ wr.ownsRow w1.heap.size 4 1 lv (l.length + k) ((l ++ (numBits v wd).take k).map Value.bool) ∧ Blk wr w.heap.size 26 #[.int .i64 N, .slice A n c] ∧ Blk wr (w.heap.size + 1) 26 #[.int .i64 0, .slice none 0 0] ∧ Below w.heap.size w wr ∧ w1.heap.size ≤ wr.heap.size)
            (fun _ i _ => (intOf i + 1).toNat)
          case atStart => exact ⟨0, by omega, by simp, by simpa using hown, j1, j2, hBw2, hs2⟩
          case round =>
            obtain ⟨k, hk, rfl, hrow, q1, q2, hBr, hsr⟩ := hrel
            by_cases hlt : k < wd
            · have hbt := shr_test v (wd - 1 - k)
              have hnt := numBits_take v wd k hlt
              obtain ⟨bk, hbk⟩ : ∃ bk, bk = v.testBit (wd - 1 - k) := ⟨_, rfl⟩
              rw [← hbk] at hbt hnt
              have hx : (wd : Int) - 1 - k = ((wd - 1 - k : Nat) : Int) := by omega
              rw [hx]
              obtain ⟨j, hj⟩ : ∃ j : Nat, j = wd - 1 - k := ⟨_, rfl⟩
              rw [← hj] at hbt ⊢
              have hjl : j < 64 := by omega
              have HJ := Lib.hid hj; have HNT := Lib.hid hnt; have HX := Lib.hid hx
              clear hj hnt hbk hx
              go_wp2_with (at_builtin; refine wpList_append_own _ rfl _ _ 68 rfl w1.heap.size 4 i0 (.bool false) 1 1 Tryd.underlying68 hi hz0 hz1 hz2 rfl (by decide) u8 _ _ rfl (hrow.alloc _) ⟨wr.heap.size, 0, none⟩ 1 1 [.bool bk] rfl rfl (cell_one_new _ _ _) (by simp [Value.oneCell']) (by unfold maxLen; omega) (by omega) (by simp; omega) ?_; intro v' w2 hown' hgrow _; have hq1 := own_grown_low hrow hgrow w.heap.size (by omega) q1.lt; have hq2 := own_grown_low hrow hgrow (w.heap.size + 1) (by omega) q2.lt; have hgs := hgrow.size)
              go_roundw
              case rel =>
                refine ⟨k + 1, by omega, ?_, ?_, hq1.trans q1, hq2.trans q2, own_below hrow hgrow hBr (by omega) hBr.size, by simp at hgs; omega⟩
                · have := HJ.out; congr 1; omega
                · rw [HNT.out, ← List.append_assoc, List.map_append (l₂ := [bk])]; exact hown'
              case measure => have := HJ.out; simp [intOf]
            · have hneg : (wd : Int) - 1 - k < 0 := by omega
              have hall : (numBits v wd).take k = numBits v wd := List.take_of_length_le (by rw [numBits_length]; omega)
              rw [hall] at hrow
              obtain ⟨LA, lc, rfl, hLA⟩ := bools_of_own hrow
              have hof := rof_any LA _ lc _ wr rfl (by rw [List.length_append, numBits_length]; unfold maxLen; omega) hLA
              have HOF := Lib.hid hof; clear hof hLA hall
              generalize (l ++ numBits v wd).length = LL at *
              generalize ofS (l ++ numBits v wd) = R at *
              obtain ⟨c3, c4, f3, f4⟩ := q2.two
              go_wp2_with (go_at_call 48; refine HOF.out.mono ?_; rintro e w3 ⟨A3, n3, c5, bs3, rfl, hn3, his3, hl3, hA3, hB3, hF3⟩; have HN3 := Lib.hid hn3; clear hn3; have q3 := q2.below hB3 q2.lt; obtain ⟨d1, d2, g1, g2⟩ := q3.two)
              have hBf := (hBr.trans (hB3.mono hBr.size))
              refine bodyPost_ret (v := .tuple #[.agg #[.int .i64 R.2.length, .slice A3 n3 c5], .int .i64 R.1]) (by simp [results, Tryd.results32, go_sem, d1, d2]) rfl
                ⟨A3, n3, c5, bs3, rfl, HN3.out, his3, hl3, ?_, (hBf.setCell (p := ⟨w.heap.size + 1, 0, none⟩) (by simp) _).setCell (p := ⟨w.heap.size + 1, 1, none⟩) (by simp) _, fun a ha hb => Nat.le_trans hBr.size (hF3 a ha hb)⟩
              have h1 := q2.lt
              have h2 := (hA3.set_low hF3 (p := ⟨w.heap.size + 1, 0, none⟩) h1 (.int .i64 R.2.length)).set_low hF3 (p := ⟨w.heap.size + 1, 1, none⟩) h1 (.slice A3 n3 c5)
              simpa using h2
      · have hr : putS N bs v wd = (2, []) := by
          unfold putS
          rw [if_pos hgood, Int.toNat_natCast, if_neg (fun h => hsh h.2)]
        have hw3 : wd < 64 := by
          rcases Nat.lt_or_ge wd 64 with h | h
          · exact h
          · obtain rfl : wd = 64 := by omega
            exact absurd (Nat.div_eq_of_lt hv) hsh
        have hshb : ((v : Int) / 2 ^ wd != 0) = true := by
          have : ((v : Int) / 2 ^ wd) = ((v / 2 ^ wd : Nat) : Int) := by norm_cast
          rw [this]; rw [bne_iff_ne]; exact_mod_cast hsh
        rw [hr]; clear hr hgood hsh
        go_enter Tryd.func32, Tryd.ntmps32
        go_wp2_with (first
            | (go_at_call 36; refine (HCK.out _ (((Below.refl _ _).alloc (Nat.le_refl _) _).alloc (by simp) _)).mono ?_; rintro e w1 ⟨rfl, hB⟩; rw [HK.out]; obtain ⟨k1, k2, hs, hBw⟩ := boxes2 hB; obtain ⟨c1, c2, f1, f2⟩ := k2.two; obtain ⟨c3, c4, f3, f4⟩ := k1.two; have hl1 : w.heap.size + 1 < w1.heap.size := by omega)
            | fail)
        refine bodyPost_ret (v := .tuple #[.agg #[.int .i64 0, .slice none 0 0], .int .i64 2]) (by simp [results, Tryd.results32, go_sem, c1, c2]) rfl
          (res_err 2 ((hBw.setCell (p := ⟨w.heap.size + 1, 0, none⟩) (by simp) _).setCell (p := ⟨w.heap.size + 1, 1, none⟩) (by simp) _))
    · have hr : putS N bs v width = (2, []) := by
        unfold putS
        rw [if_pos hgood, if_neg (fun h => hwid h.1)]
      rw [hr]; clear hr hgood
      by_cases hw0 : width < 0
      · have hd1 : decide (width < 0) = true := by simpa using hw0
        clear hwid
        go_enter Tryd.func32, Tryd.ntmps32
        go_wp2_with (first
            | (go_at_call 36; refine (HCK.out _ (((Below.refl _ _).alloc (Nat.le_refl _) _).alloc (by simp) _)).mono ?_; rintro e w1 ⟨rfl, hB⟩; rw [HK.out]; obtain ⟨k1, k2, hs, hBw⟩ := boxes2 hB; obtain ⟨c1, c2, f1, f2⟩ := k2.two; obtain ⟨c3, c4, f3, f4⟩ := k1.two; have hl1 : w.heap.size + 1 < w1.heap.size := by omega)
            | fail)
        refine bodyPost_ret (v := .tuple #[.agg #[.int .i64 0, .slice none 0 0], .int .i64 2]) (by simp [results, Tryd.results32, go_sem, c1, c2]) rfl
          (res_err 2 ((hBw.setCell (p := ⟨w.heap.size + 1, 0, none⟩) (by simp) _).setCell (p := ⟨w.heap.size + 1, 1, none⟩) (by simp) _))
      · have hd1 : decide (width < 0) = false := by simpa using hw0
        have hd2 : decide ((64 : Int) < width) = true := by simp; omega
        clear hwid
        go_enter Tryd.func32, Tryd.ntmps32
        go_wp2_with (first
            | (go_at_call 36; refine (HCK.out _ (((Below.refl _ _).alloc (Nat.le_refl _) _).alloc (by simp) _)).mono ?_; rintro e w1 ⟨rfl, hB⟩; rw [HK.out]; obtain ⟨k1, k2, hs, hBw⟩ := boxes2 hB; obtain ⟨c1, c2, f1, f2⟩ := k2.two; obtain ⟨c3, c4, f3, f4⟩ := k1.two; have hl1 : w.heap.size + 1 < w1.heap.size := by omega)
            | fail)
        refine bodyPost_ret (v := .tuple #[.agg #[.int .i64 0, .slice none 0 0], .int .i64 2]) (by simp [results, Tryd.results32, go_sem, c1, c2]) rfl
          (res_err 2 ((hBw.setCell (p := ⟨w.heap.size + 1, 0, none⟩) (by simp) _).setCell (p := ⟨w.heap.size + 1, 1, none⟩) (by simp) _))
  · have hr : putS N bs v width = (10, []) := by simp [putS, hgood]
    have hk := chk_no (N := N) (bs := bs) (by simpa using hgood)
    rw [hr]; clear hr hgood
    have HK := Lib.hid hk; clear hk
    go_enter Tryd.func32, Tryd.ntmps32
    go_wp2_with (first
            | (go_at_call 36; refine (HCK.out _ (((Below.refl _ _).alloc (Nat.le_refl _) _).alloc (by simp) _)).mono ?_; rintro e w1 ⟨rfl, hB⟩; rw [HK.out]; obtain ⟨k1, k2, hs, hBw⟩ := boxes2 hB; obtain ⟨c1, c2, f1, f2⟩ := k2.two; obtain ⟨c3, c4, f3, f4⟩ := k1.two; have hl1 : w.heap.size + 1 < w1.heap.size := by omega)
            | fail)
    refine bodyPost_ret (v := .tuple #[.agg #[.int .i64 0, .slice none 0 0], .int .i64 10]) (by simp [results, Tryd.results32, go_sem, c1, c2]) rfl
          (res_err 10 ((hBw.setCell (p := ⟨w.heap.size + 1, 0, none⟩) (by simp) _).setCell (p := ⟨w.heap.size + 1, 1, none⟩) (by simp) _))
end Go.Proofs.YteigekhfamapmaaDoor
