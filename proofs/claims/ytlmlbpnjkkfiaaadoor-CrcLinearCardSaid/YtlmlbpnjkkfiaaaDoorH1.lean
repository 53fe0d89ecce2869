/-
  Slice of package bits answers as the document says, for all bits and places. No condition but that the bytes can be read.
-/
import Derived.Test.YtlmlbpnjkkfiaaaDoorG4
namespace Go.Proofs.YtlmlbpnjkkfiaaaDoor
open Go.RowKit

/-- Slice, by the document. -/
def sliceS (N : Int) (bs : List UInt8) (fr to : Int) : Int × List Bool :=
  if goodB N bs = true then
    if 0 ≤ fr ∧ fr ≤ to ∧ to ≤ N then (0, ((listOf N bs).drop fr.toNat).take (to.toNat - fr.toNat)) else (2, [])
  else (10, [])

theorem part_length (l : List Bool) (f t : Nat) (h : t ≤ l.length) : ((l.drop f).take (t - f)).length = t - f := by simp; omega
theorem part_get (l : List Bool) (f t k : Nat) (hk : k < t - f) : ((l.drop f).take (t - f))[k]?.getD false = l[f + k]?.getD false := by
  rw [List.getElem?_take_of_lt hk, List.getElem?_drop]

set_option maxHeartbeats 1000000 in
theorem slice_any (N fr to : Int) (A : Option Addr) (n c : Nat) (bs : List UInt8) (w : World) (hn : n = bs.length) (hm : n ≤ maxLen) (hA : Byt w.heap.size w A bs) :
    Calls Tryd.prog 30 #[.agg #[.int .i64 N, .slice A n c], .int .i64 fr, .int .i64 to] w (Res w (sliceS N bs fr to)) := by
  have HA := Lib.hid hA
  have HN := Lib.hid hn; clear hn
  have hck := fun w1 (h : Below w.heap.size w w1) => check_any N A n c bs w1 HN.out hm ((hA.below h).mono h.size)
  have HCK := Lib.hid hck; clear hck hA
  unfold maxLen at hm
  by_cases hgood : goodB N bs = true
  · obtain ⟨hg0, hg1, hg2, hg3⟩ := (good_iff N bs).1 hgood
    clear hg3
    have hk := chk_yes hgood
    have HK := Lib.hid hk; clear hk
    have HG2 := Lib.hid hg2; clear hg2
    by_cases hbad : 0 ≤ fr ∧ fr ≤ to ∧ to ≤ N
    · obtain ⟨hb0, hb1, hb2⟩ := hbad
      have hr : sliceS N bs fr to = (0, ((listOf N bs).drop fr.toNat).take (to.toNat - fr.toNat)) := by simp [sliceS, hgood, hb0, hb1, hb2]
      rw [hr]; clear hr
      have hib := good_isBits hgood
      have hll : (listOf N bs).length = N.toNat := listOf_length N bs
      generalize hl : listOf N bs = l at *
      have HIB := Lib.hid hib; clear hib
      have HLL := Lib.hid hll; clear hll hl hgood
      have hd1 : decide (fr < 0) = false := by simpa using hb0
      have hd2 : decide (to < fr) = false := by simpa using hb1
      have hd3 : decide (N < to) = false := by simpa using hb2
      obtain ⟨f, rfl⟩ := Int.eq_ofNat_of_zero_le hb0
      obtain ⟨t, rfl⟩ := Int.eq_ofNat_of_zero_le (Int.le_trans hb0 hb1)
      simp only [Int.toNat_natCast] at *
      have hft : f ≤ t := by omega
      have htl := part_length l f t (by have := HLL.out; omega)
      have hpg := part_get l f t
      generalize (l.drop f).take (t - f) = q at *
      have HTL := Lib.hid htl; have HPG := Lib.hid hpg; clear htl hpg
      go_enter Tryd.func30, Tryd.ntmps30
      go_wp2_with (first
        | (go_at_call 25; refine (HCK.out _ (((Below.refl _ _).alloc (Nat.le_refl _) _).alloc (by simp) _)).mono ?_; rintro e w1 ⟨rfl, hB⟩; rw [HK.out]; obtain ⟨k1, k2, hs, hBw⟩ := boxes2 hB; obtain ⟨c1, c2, f1, f2⟩ := k2.two; obtain ⟨c3, c4, f3, f4⟩ := k1.two; have hl1 : w.heap.size + 1 < w1.heap.size := by omega)
        | (go_at_call 44; refine (zeros_any _ _ (by omega) (by omega)).mono ?_
           rintro e w2 ⟨g, m, hmm, rfl, hgg, hgb, hgB⟩
           have HM := Lib.hid hmm; clear hmm
           have hgl := hgb.lt
           have j1 := k1.below hgB (by omega)
           have j2 := k2.below hgB (by omega)
           have hBw2 := hBw.trans (hgB.mono hBw.size)
           clear c1 c2 c3 c4 f1 f2 f3 f4 k1 k2 hl1))
      have hi0 : OutRel w g w2.heap.size m q 0 (List.replicate m 0) (w2.alloc (.cells #[.int .i64 (t - f : Int), .slice (some ⟨g, 0, none⟩) m m] 32)) := by
        have hz := isBits_zeros q.length
        have h2 := HM.out; have h3 := HTL.out
        refine ⟨by rw [paint_zero, show m = (q.length + 7) / 8 by omega]; exact hz, by simp, hgb.alloc _, ?_, hBw2.alloc hBw2.size _, by omega, hgl⟩
        have e : ((q.length : Nat) : Int) = (t : Int) - f := by omega
        rw [e]; exact Blk.new w2 32 _
      have hlt2 : w.heap.size + 2 ≤ w2.heap.size := by omega
      have hgg2 : w.heap.size + 2 ≤ g := by omega
      have j1' := j1.alloc (.cells #[.int .i64 (t - f : Int), .slice (some ⟨g, 0, none⟩) m m] 32)
      have j2' := j2.alloc (.cells #[.int .i64 (t - f : Int), .slice (some ⟨g, 0, none⟩) m m] 32)
      clear hd1 hd2 hd3 hgb hB hgB j1 j2
      generalize w2.heap.size = ob at *
      go_loopw [34] (fun i wr => ∃ (k : Nat) (bs' : List UInt8), k ≤ t - f ∧ i = .int .i64 k ∧ OutRel w g ob m q k bs' wr ∧
          Blk wr w.heap.size 32 #[.int .i64 N, .slice A n c] ∧ Blk wr (w.heap.size + 1) 32 #[.int .i64 0, .slice none 0 0])
        (fun i _ => t - f - (intOf i).toNat)
      case atStart => exact ⟨0, _, by omega, rfl, hi0, j1', j2'⟩
      case round =>
        obtain ⟨k, bs', hk, rfl, hO, q1, q2⟩ := hrel
        clear hi0 j1' j2'
        obtain ⟨c1, c2, f1, f2⟩ := q1.two
        obtain ⟨c3, c4, f3, f4⟩ := q2.two
        obtain ⟨c5, c6, f5, f6⟩ := hO.box.two
        have hN2 : ((q.length : Nat) : Int) = (t : Int) - f := by have := HTL.out; omega
        rw [hN2] at c5
        have HN2 := Lib.hid hN2; clear hN2
        have hqt := hO.low
        by_cases hlt : k < t - f
        · have hli : (k : Int) < (t : Int) - f := by omega
          have hone := isOne_any N ((f : Int) + k) A n c bs wr (by omega) (by omega) HN.out (by have := HG2.out; omega) ((HA.out.below hO.low).mono hO.low.size)
          have hgt := HPG.out k hlt
          rw [show ((f : Int) + k).toNat = f + k by omega, HIB.out.2, ← hgt] at hone
          by_cases hb : q[k]?.getD false = true
          · rw [hb] at hone
            have HB := Lib.hid hb; have HO := Lib.hid hone; clear hone hb hgt
            have hturn := fun w3 (h3 : Below wr.heap.size wr w3) => turn_any ((t : Int) - f) k g m m bs' w3 (by omega) (by omega) hO.len.symm (by
              have h1 := hO.len; have h2 := HM.out; omega) (hO.row.below h3 hO.row.lt)
            simp only [Int.toNat_natCast] at hturn
            have HT := Lib.hid hturn; clear hturn
            go_wp2_with (first
              | (go_at_call 38; refine HO.out.mono ?_; rintro e w3 ⟨rfl, hb3⟩
                 have r1 := q1.below hb3 q1.lt
                 have r2 := q2.below hb3 q2.lt
                 have r3 := hO.box.below hb3 hO.box.lt
                 obtain ⟨e5, e6, g5, g6⟩ := r3.two
                 rw [HN2.out] at e5)
              | (go_at_call 43; refine (HT.out _ hb3).mono ?_; rintro e w4 ⟨rfl, hr4, hg4⟩))
            go_roundw
            case rel =>
              have hO3 : OutRel w g ob m q k bs' w3 := ⟨hO.is_, hO.len, hO.row.below hb3 hO.row.lt, r3, hO.low.trans (hb3.mono hO.low.size), hO.ge, hO.lt⟩
              exact ⟨k + 1, _, by omega, by go_num, hO3.turned (by have := HTL.out; omega) HB.out hr4 hg4, r1.grown hg4 (by simp; omega), r2.grown hg4 (by simp; omega)⟩
            case measure => simp [intOf]; omega
          · rw [Bool.not_eq_true] at hb
            rw [hb] at hone
            have HB := Lib.hid hb; have HO := Lib.hid hone; clear hone hb hgt
            go_wp2_with (go_at_call 38; refine HO.out.mono ?_; rintro e w3 ⟨rfl, hb3⟩)
            go_roundw
            case rel =>
              have hO3 : OutRel w g ob m q k bs' w3 := ⟨hO.is_, hO.len, hO.row.below hb3 hO.row.lt, hO.box.below hb3 hO.box.lt, hO.low.trans (hb3.mono hO.low.size), hO.ge, hO.lt⟩
              exact ⟨k + 1, _, by omega, by go_num, hO3.stayed (by have := HTL.out; omega) HB.out, q1.below hb3 q1.lt, q2.below hb3 q2.lt⟩
            case measure => simp [intOf]; omega
        · have hlw : w.heap.size < wr.heap.size := q1.lt
          have hli : ¬ (k : Int) < (t : Int) - f := by omega
          go_wp2
          have hfin := hO.is_
          rw [show k = q.length by have := HTL.out; omega, paint_full] at hfin
          have hrow : Blk ((wr.setCell ⟨w.heap.size + 1, 0, none⟩ (.int .i64 ((t : Int) - f))).setCell ⟨w.heap.size + 1, 1, none⟩ (.slice (some ⟨g, 0, none⟩) m m)) g 5 (encB bs') := (hO.row.far (p := ⟨w.heap.size + 1, 0, none⟩) (by simp; omega) _).far (p := ⟨w.heap.size + 1, 1, none⟩) (by simp; omega) _
          refine bodyPost_ret (v := .tuple #[.agg #[.int .i64 ((t : Int) - f), .slice (some ⟨g, 0, none⟩) m m], .int .i64 0]) (by simp [results, Tryd.results30, go_sem, c3, c4]) rfl
            ⟨some ⟨g, 0, none⟩, m, m, bs', by rw [HN2.out], hO.len.symm, hfin, by have := HN2.out; dsimp only; omega, byt_of_blk hrow, (hO.low.setCell (p := ⟨w.heap.size + 1, 0, none⟩) (by simp) _).setCell (p := ⟨w.heap.size + 1, 1, none⟩) (by simp) _, fun a ha _ => by injection ha with ha; subst ha; exact hO.ge⟩
    · have hr : sliceS N bs fr to = (2, []) := by unfold sliceS; rw [if_pos hgood, if_neg hbad]
      rw [hr]; clear hr hgood
      have HBAD := Lib.hid hbad; clear hbad
      go_enter Tryd.func30, Tryd.ntmps30
      go_wp2_with (first
        | (go_at_call 25; refine (HCK.out _ (((Below.refl _ _).alloc (Nat.le_refl _) _).alloc (by simp) _)).mono ?_; rintro e w1 ⟨rfl, hB⟩; rw [HK.out]; obtain ⟨k1, k2, hs, hBw⟩ := boxes2 hB; obtain ⟨c1, c2, f1, f2⟩ := k2.two; obtain ⟨c3, c4, f3, f4⟩ := k1.two; have hl1 : w.heap.size + 1 < w1.heap.size := by omega)
        | (go_at_call 44; exfalso; have := HBAD.out; omega))
      all_goals first
        | (have := HBAD.out; exfalso; omega)
        | (refine bodyPost_ret (v := .tuple #[.agg #[.int .i64 0, .slice none 0 0], .int .i64 2]) (by simp [results, Tryd.results30, go_sem, c1, c2]) rfl
             (res_err 2 ((hBw.setCell (p := ⟨w.heap.size + 1, 0, none⟩) (by simp) _).setCell (p := ⟨w.heap.size + 1, 1, none⟩) (by simp) _)))
  · have hr : sliceS N bs fr to = (10, []) := by simp [sliceS, hgood]
    have hk := chk_no (N := N) (bs := bs) (by simpa using hgood)
    rw [hr]; clear hr hgood
    have HK := Lib.hid hk; clear hk
    go_enter Tryd.func30, Tryd.ntmps30
    go_wp2_with (go_at_call 25; refine (HCK.out _ (((Below.refl _ _).alloc (Nat.le_refl _) _).alloc (by simp) _)).mono ?_; rintro e w1 ⟨rfl, hB⟩; rw [HK.out]; obtain ⟨k1, k2, hs, hBw⟩ := boxes2 hB; obtain ⟨c1, c2, f1, f2⟩ := k2.two; obtain ⟨c3, c4, f3, f4⟩ := k1.two; have hl1 : w.heap.size + 1 < w1.heap.size := by omega)
    refine bodyPost_ret (v := .tuple #[.agg #[.int .i64 0, .slice none 0 0], .int .i64 10]) (by simp [results, Tryd.results30, go_sem, c1, c2]) rfl
      (res_err 10 ((hBw.setCell (p := ⟨w.heap.size + 1, 0, none⟩) (by simp) _).setCell (p := ⟨w.heap.size + 1, 1, none⟩) (by simp) _))
end Go.Proofs.YtlmlbpnjkkfiaaaDoor
