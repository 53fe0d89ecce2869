/-
  The document itself: Flip. No condition but that the bytes and the places can be read.
-/
import Derived.Test.YtlmlbpnjkkfiaaaDoorH3
namespace Go.Proofs.YtlmlbpnjkkfiaaaDoor
open Go.RowKit

theorem flip_row {w : World} {base g cap zz n : Nat} {lk : List Bool} (h : w.ownsRow base 4 1 (.slice (some ⟨g, 0, none⟩) lk.length cap) n (lk.map Value.bool)) (hn : lk.length = n) (q : Nat) :
    ((w.drewN q).setCell ⟨g, zz, none⟩ (.bool (!(lk[zz]?.getD false)))).ownsRow base 4 1 (.slice (some ⟨g, 0, none⟩) lk.length cap) n ((flip1 lk zz).map Value.bool) ∧ w.grownBy ((w.drewN q).setCell ⟨g, zz, none⟩ (.bool (!(lk[zz]?.getD false)))) (some g) := by
  subst hn
  have hd : (w.drewN q).ownsRow base 4 1 (.slice (some ⟨g, 0, none⟩) lk.length cap) lk.length (lk.map Value.bool) := h
  obtain ⟨h1, h2⟩ := hd.stored zz (.bool (!(lk[zz]?.getD false)))
  refine ⟨?_, h2.os, h2.tape, h2.output, h2.size, h2.block⟩
  unfold flip1
  rw [Int.toNat_natCast, List.map_set]
  exact h1

set_option maxHeartbeats 1000000 in
theorem rflip_any (N : Int) (A Z : Option Addr) (n c zn zc : Nat) (bs : List UInt8) (zs : List Int) (w : World) (hn : n = bs.length) (hm : n ≤ maxLen) (hA : Byt w.heap.size w A bs) (hzn : zn = zs.length) (hzm : zn ≤ maxLen) (hZ : Ints w.heap.size w Z zs) :
    Calls Tryd.prog 34 #[.agg #[.int .i64 N, .slice A n c], .slice Z zn zc] w (Res w (flipS N bs zs)) := by
  have hck := fun w1 (h : Below w.heap.size w w1) => rcheck_any N A n c bs w1 hn hm ((hA.below h).mono h.size)
  have hli := fun w1 (h : Below w.heap.size w w1) => list_any N A n c bs w1 hn hm ((hA.below h).mono h.size)
  by_cases hgood : goodB N bs = true
  · obtain ⟨hg0, hg1, hg2, hg3⟩ := (good_iff N bs).1 hgood
    rw [chk_yes hgood] at hck
    have hgl := good_length hgood
    have hls : lst N bs = listOf N bs := by simp [lst, hgood]
    rw [hls] at hli
    have hr : flipS N bs zs = (if okAt N zs = true then (0, flips (listOf N bs) zs) else (2, [])) := by unfold flipS; rw [if_pos hgood]
    rw [hr]; clear hr hgood hls
    generalize listOf N bs = l at *
    obtain ⟨R, hR⟩ : ∃ R, R = (if okAt N zs = true then ((0 : Int), flips l zs) else (2, [])) := ⟨_, rfl⟩
    rw [← hR]
    have HRR := Lib.hid hR; clear hR
    have HCK := Lib.hid hck; have HLI := Lib.hid hli; have HGL := Lib.hid hgl; have HZ := Lib.hid hZ; have HZN := Lib.hid hzn
    clear hck hli hg2 hg3 hA hn hgl hZ hzn
    unfold maxLen at hm hzm
    go_enter Tryd.func34, Tryd.ntmps34
    go_wp2_with (first
      | (go_at_call 21; refine (HCK.out _ (((Below.refl _ _).alloc (Nat.le_refl _) _).alloc (by simp) _)).mono ?_; rintro e w1 ⟨rfl, hB⟩; obtain ⟨k1, k2, hs, hBw⟩ := boxes2 hB; obtain ⟨c1, c2, f1, f2⟩ := k2.two; obtain ⟨c3, c4, f3, f4⟩ := k1.two; have hl1 : w.heap.size + 1 < w1.heap.size := by omega)
      | (go_at_call 28; refine (HLI.out _ hBw).mono ?_; rintro e w2 ⟨lv, rfl, hown, hB2⟩))
    have j1 := k1.below hB2 k1.lt
    have j2 := k2.below hB2 k2.lt
    have hBw2 := hBw.trans (hB2.mono hBw.size)
    clear c1 c2 c3 c4 f1 f2 f3 f4 k1 k2 hB hB2
    go_loopw [7] (fun i wr => ∃ (k : Nat), k ≤ zn ∧ i = .int .i64 k ∧ okAt N (zs.take k) = true ∧ wr.ownsRow w1.heap.size 4 1 lv l.length ((flips l (zs.take k)).map Value.bool) ∧
        Blk wr w.heap.size 32 #[.int .i64 N, .slice A n c] ∧ Blk wr (w.heap.size + 1) 32 #[.int .i64 0, .slice none 0 0] ∧ Below w.heap.size w wr)
      (fun i _ => zn - (intOf i).toNat)
    case atStart => exact ⟨0, by omega, rfl, rfl, hown, j1, j2, hBw2⟩
    case round =>
      obtain ⟨k, hk, rfl, hok, hrow, q1, q2, hBr⟩ := hrel
      clear j1 j2 hown
      have HOK := Lib.hid hok; clear hok
      obtain ⟨c1, c2, f1, f2⟩ := q1.two
      obtain ⟨c3, c4, f3, f4⟩ := q2.two
      have hfl := flips_length (zs.take k) l
      by_cases hlt : k < zn
      · obtain ⟨zb, zo, rfl, hzl, hzc⟩ := (HZ.out.below hBr).at_ (k := k) (by have := HZN.out; omega)
        have hta := int_at zs k (by have := HZN.out; omega)
        have hnot := ok_not N zs k (by have := HZN.out; omega)
        generalize zs[k]?.getD 0 = z at *
        have hki : (k : Int) < (zn : Int) := by omega
        have hk0 : (0 : Int) ≤ (k : Int) := by omega
        by_cases hz : 0 ≤ z ∧ z < N
        · obtain ⟨hz0, hz1⟩ := hz
          have hd1 : decide (z < 0) = false := by simpa using hz0
          have hd2 : decide (N ≤ z) = false := by simpa using hz1
          have hok2 : okAt N (zs.take (k + 1)) = true := by rw [hta, ok_snoc, HOK.out]; simp [hz0, hz1]
          have hfl2 : flips l (zs.take (k + 1)) = flip1 (flips l (zs.take k)) z := by rw [hta, flips_snoc]
          generalize flips l (zs.take k) = lk at *
          have HOK2 := Lib.hid hok2; have HFL := Lib.hid hfl2; have HFF := Lib.hid hfl
          clear hok2 hfl2 hta hnot hfl
          rcases own_bools hrow with ⟨rfl, hl0⟩ | ⟨g, cap, rfl, hgb, hgl, hlc, hcm, hcell, hfr⟩
          · have h1 := HFF.out; have h2 := HGL.out; subst hl0; simp at h1; omega
          · obtain ⟨zz, rfl⟩ := Int.eq_ofNat_of_zero_le hz0
            have hcz := hcell zz (by have := HFF.out; have := HGL.out; omega)
            have hfz := hfr zz
            have hzl2 : (zz : Int) < (lk.length : Int) := by have := HFF.out; have := HGL.out; omega
            generalize hbz : lk[zz]?.getD false = bz at *
            have HBZ := Lib.hid hbz
            clear hcell hfr hbz
            go_wp2
            go_quiet (fail)
            go_wp2
            refine wp_region_still_tail 14 (by kernel_rfl) (by kernel_rfl) ?_
            simp only [List.take_succ_cons, List.take_zero, List.drop_succ_cons, List.drop_zero]
            change wpStill _ _ ((wr.drewN nq).drew) (fun a' => wpList _ _ _ _ a' ((wr.drewN nq).drew)) _ _
            repeat still_step
            refine wpStill_nil ?_
            go_wp2
            go_roundw
            case rel =>
              have hst := flip_row (zz := zz) hrow HFF.out (nq + 1)
              rw [HBZ.out] at hst
              exact ⟨k + 1, by omega, by go_num, HOK2.out, by rw [HFL.out]; exact hst.1, q1.grown hst.2 (by simp; omega), q2.grown hst.2 (by simp; omega), hBr.grown hst.2 hBr.size (fun j e => by injection e with e; have := hBw.size; omega)⟩
            case measure => simp [intOf]; omega
        · have hr : okAt N zs = false := hnot hz
          have hzz : z < 0 ∨ N ≤ z := by omega
          clear hnot hz hta
          have HR := Lib.hid hr; have HFF := Lib.hid hfl; clear hr hfl
          rcases hzz with hz0 | hz0
          · have hd1 : decide (z < 0) = true := by simpa using hz0
            go_wp2
            go_quiet (fail)
            go_wp2
            rw [HRR.out, HR.out, if_neg (by decide)]
            refine bodyPost_ret (v := .tuple #[.agg #[.int .i64 0, .slice none 0 0], .int .i64 2]) (by simp [results, Tryd.results34, go_sem, c3, c4]) rfl
              (res_err 2 (((below_drewN hBr _).setCell (p := ⟨w.heap.size + 1, 0, none⟩) (by simp) _).setCell (p := ⟨w.heap.size + 1, 1, none⟩) (by simp) _))
          · have hd1 : decide (z < 0) = false := by simp; omega
            have hd2 : decide (N ≤ z) = true := by simpa using hz0
            go_wp2
            go_quiet (fail)
            go_wp2
            rw [HRR.out, HR.out, if_neg (by decide)]
            refine bodyPost_ret (v := .tuple #[.agg #[.int .i64 0, .slice none 0 0], .int .i64 2]) (by simp [results, Tryd.results34, go_sem, c3, c4]) rfl
              (res_err 2 (((below_drewN hBr _).setCell (p := ⟨w.heap.size + 1, 0, none⟩) (by simp) _).setCell (p := ⟨w.heap.size + 1, 1, none⟩) (by simp) _))
      · have htk : zs.take k = zs := List.take_of_length_le (by have := HZN.out; omega)
        have hr := HOK.out
        rw [htk] at hr hrow hfl
        have hro : R = ofS (flips l zs) := by
          rw [HRR.out, hr]; unfold ofS; rw [if_pos rfl, hfl, if_neg (by have := HGL.out; omega)]
        obtain ⟨LA, lc, rfl, hLA⟩ := bools_of_own hrow
        have hof := rof_any LA _ lc _ wr rfl (by rw [hfl]; have := HGL.out; unfold maxLen; omega) hLA
        rw [← hro] at hof
        have HOF := Lib.hid hof
        clear hof hLA htk hr hro hfl HRR hrow
        generalize (flips l zs).length = LL at *
        go_wp2_with (go_at_call 35; refine HOF.out.mono ?_; rintro e w3 ⟨A3, n3, c5, bs3, rfl, hn3, his3, hl3, hA3, hB3, hF3⟩; have HN3 := Lib.hid hn3; clear hn3; have q3 := q2.below hB3 q2.lt; obtain ⟨d1, d2, g1, g2⟩ := q3.two)
        have hBf := (hBr.trans (hB3.mono hBr.size))
        refine bodyPost_ret (v := .tuple #[.agg #[.int .i64 R.2.length, .slice A3 n3 c5], .int .i64 R.1]) (by simp [results, Tryd.results34, go_sem, d1, d2]) rfl
          ⟨A3, n3, c5, bs3, rfl, HN3.out, his3, hl3, ?_, (hBf.setCell (p := ⟨w.heap.size + 1, 0, none⟩) (by simp) _).setCell (p := ⟨w.heap.size + 1, 1, none⟩) (by simp) _, fun a ha hb => Nat.le_trans hBr.size (hF3 a ha hb)⟩
        have h1 := q2.lt
        have h2 := (hA3.set_low hF3 (p := ⟨w.heap.size + 1, 0, none⟩) h1 (.int .i64 R.2.length)).set_low hF3 (p := ⟨w.heap.size + 1, 1, none⟩) h1 (.slice A3 n3 c5)
        simpa using h2
  · have hr : flipS N bs zs = (10, []) := by simp [flipS, hgood]
    rw [chk_no (by simpa using hgood)] at hck
    rw [hr]
    have HCK := Lib.hid hck
    clear hck hgood hA hn hr hZ hzn hli
    unfold maxLen at hm hzm
    go_enter Tryd.func34, Tryd.ntmps34
    go_wp2_with (go_at_call 21; refine (HCK.out _ (((Below.refl _ _).alloc (Nat.le_refl _) _).alloc (by simp) _)).mono ?_; rintro e w1 ⟨rfl, hB⟩; obtain ⟨k1, k2, hs, hBw⟩ := boxes2 hB; obtain ⟨c1, c2, f1, f2⟩ := k2.two; obtain ⟨c3, c4, f3, f4⟩ := k1.two; have hl1 : w.heap.size + 1 < w1.heap.size := by omega)
    refine bodyPost_ret (v := .tuple #[.agg #[.int .i64 0, .slice none 0 0], .int .i64 10]) (by simp [results, Tryd.results34, go_sem, c1, c2]) rfl
      (res_err 10 ((hBw.setCell (p := ⟨w.heap.size + 1, 0, none⟩) (by simp) _).setCell (p := ⟨w.heap.size + 1, 1, none⟩) (by simp) _))
end Go.Proofs.YtlmlbpnjkkfiaaaDoor
