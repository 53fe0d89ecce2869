/-
  The document itself: Slice. No condition but that the bytes can be read.
-/
import Derived.Test.YtlmlbpnjkkfiaaaDoorH1
namespace Go.Proofs.YtlmlbpnjkkfiaaaDoor
open Go.RowKit

/-- Truths in a row of the call's own: nil, or a block. -/
theorem own_bools {w : World} {base : Nat} {v : Value} {k : Nat} {l : List Bool} (h : w.ownsRow base 4 1 v k (l.map Value.bool)) :
    (v = .slice none 0 0 ∧ l = []) ∨ ∃ g cap, v = .slice (some ⟨g, 0, none⟩) l.length cap ∧ base ≤ g ∧ g < w.heap.size ∧ l.length ≤ cap ∧ cap ≤ maxLen ∧ (∀ j, j < l.length → w.cell? ⟨g, j, none⟩ = some (.bool (l[j]?.getD false))) ∧ ∀ j, w.frozen? ⟨g, j, none⟩ = false := by
  have hk : l.length = k := by have := h.1; simpa using this
  rcases h.2 with ⟨rfl, h0⟩ | ⟨g, cap, cur, rfl, hb, hh, h1, h2, _⟩
  · exact .inl ⟨rfl, List.eq_nil_of_length_eq_zero (hk.trans h0)⟩
  · refine .inr ⟨g, cap, by rw [hk], hb, (Array.getElem?_eq_some_iff.1 hh).1, by omega, h2, fun j hj => ?_, fun j => by simp [World.frozen?, hh]⟩
    have := h.cells (g := g) rfl j (.bool (l[j]?.getD false)) (by simp [hj])
    rwa [addr_add, Nat.zero_add] at this

set_option maxHeartbeats 1000000 in
theorem rslice_any (N fr to : Int) (A : Option Addr) (n c : Nat) (bs : List UInt8) (w : World) (hn : n = bs.length) (hm : n ≤ maxLen) (hA : Byt w.heap.size w A bs) :
    Calls Tryd.prog 22 #[.agg #[.int .i64 N, .slice A n c], .int .i64 fr, .int .i64 to] w (Res w (sliceS N bs fr to)) := by
  have hck := fun w1 (h : Below w.heap.size w w1) => rcheck_any N A n c bs w1 hn hm ((hA.below h).mono h.size)
  have hli := fun w1 (h : Below w.heap.size w w1) => list_any N A n c bs w1 hn hm ((hA.below h).mono h.size)
  have HCK := Lib.hid hck; have HLI := Lib.hid hli; clear hck hli hA hn
  unfold maxLen at hm
  by_cases hgood : goodB N bs = true
  · obtain ⟨hg0, hg1, hg2, hg3⟩ := (good_iff N bs).1 hgood
    clear hg3 hg2
    have hk := chk_yes hgood
    have HK := Lib.hid hk; clear hk
    by_cases hbad : 0 ≤ fr ∧ fr ≤ to ∧ to ≤ N
    · obtain ⟨hb0, hb1, hb2⟩ := hbad
      have hgl := good_length hgood
      have hr : sliceS N bs fr to = ofS (((lst N bs).drop fr.toNat).take (to.toNat - fr.toNat)) := by
        have h2 : lst N bs = listOf N bs := by simp [lst, hgood]
        unfold ofS
        rw [h2, part_length _ _ _ (by omega), if_neg (by omega)]
        simp [sliceS, hgood, hb0, hb1, hb2]
      have h2 : (lst N bs).length = N.toNat := by simp [lst, hgood, listOf_length]
      rw [hr]; clear hr hgood hgl
      generalize lst N bs = l at *
      have HLL := Lib.hid h2; clear h2
      have hd1 : decide (fr < 0) = false := by simpa using hb0
      have hd2 : decide (to < fr) = false := by simpa using hb1
      have hd3 : decide (N < to) = false := by simpa using hb2
      obtain ⟨f, rfl⟩ := Int.eq_ofNat_of_zero_le hb0
      obtain ⟨t, rfl⟩ := Int.eq_ofNat_of_zero_le (Int.le_trans hb0 hb1)
      simp only [Int.toNat_natCast] at *
      have hft : f ≤ t := by omega
      have htl := part_length l f t (by have := HLL.out; omega)
      have hpg := part_get l f t
      generalize hq : (l.drop f).take (t - f) = q at *
      have HTL := Lib.hid htl; have HPG := Lib.hid hpg; have HQ := Lib.hid hq; clear htl hpg hq
      go_enter Tryd.func22, Tryd.ntmps22
      go_wp2_with (first
        | (go_at_call 21; refine (HCK.out _ (((Below.refl _ _).alloc (Nat.le_refl _) _).alloc (by simp) _)).mono ?_; rintro e w1 ⟨rfl, hB⟩; rw [HK.out]; obtain ⟨k1, k2, hs, hBw⟩ := boxes2 hB; obtain ⟨c1, c2, f1, f2⟩ := k2.two; obtain ⟨c3, c4, f3, f4⟩ := k1.two; have hl1 : w.heap.size + 1 < w1.heap.size := by omega))
      refine (HLI.out _ hBw).mono ?_
      rintro e w2 ⟨lv, rfl, hown, hB2⟩
      have j2 := k2.below hB2 k2.lt
      have hBw2 := hBw.trans (hB2.mono hBw.size)
      clear c1 c2 c3 c4 f1 f2 f3 f4 k1 k2 hB
      obtain ⟨c1, c2, f1, f2⟩ := j2.two
      have hof : ∀ (X : Option Addr) (Y : Nat), Bools w2.heap.size w2 X q → Calls Tryd.prog 35 #[.slice X (t - f) Y] w2 (Res w2 (ofS q)) := fun X Y hX => rof_any X (t - f) Y q w2 HTL.out.symm (by unfold maxLen; omega) hX
      generalize ofS q = R at *
      have HOF := Lib.hid hof; clear hof
      rcases own_bools hown with ⟨rfl, hl0⟩ | ⟨g, cap, rfl, hgb, hgl, hlc, hcm, hcell, hfr⟩
      · have ht0 : t = 0 := by have := HLL.out; subst hl0; simp at this; omega
        subst ht0
        obtain rfl : f = 0 := by omega
        clear hl0 hown
        go_wp2_with fail
        refine (HOF.out none 0 (fun hne => absurd (List.eq_nil_of_length_eq_zero HTL.out) hne)).mono ?_
        rintro e w3 ⟨A3, n3, c5, bs3, rfl, hn3, his3, hl3, hA3, hB3, hF3⟩
        have HN3 := Lib.hid hn3; clear hn3
        have q3 := j2.below hB3 j2.lt
        obtain ⟨d1, d2, g1, g2⟩ := q3.two
        go_wp2
        have hBf := (hBw2.trans (hB3.mono hBw2.size))
        refine bodyPost_ret (v := .tuple #[.agg #[.int .i64 R.2.length, .slice A3 n3 c5], .int .i64 R.1]) (by simp [results, Tryd.results22, go_sem, d1, d2]) rfl
          ⟨A3, n3, c5, bs3, rfl, HN3.out, his3, hl3, ?_, (hBf.setCell (p := ⟨w.heap.size + 1, 0, none⟩) (by simp) _).setCell (p := ⟨w.heap.size + 1, 1, none⟩) (by simp) _, fun a ha hb => Nat.le_trans hBw2.size (hF3 a ha hb)⟩
        have h1 := j2.lt
        have h2 := (hA3.set_low hF3 (p := ⟨w.heap.size + 1, 0, none⟩) h1 (.int .i64 R.2.length)).set_low hF3 (p := ⟨w.heap.size + 1, 1, none⟩) h1 (.slice A3 n3 c5)
        simpa using h2
      · have htc : t ≤ cap := by have := HLL.out; omega
        have hfc : f ≤ cap := by omega
        have HCELL := Lib.hid hcell
        clear hcell hfr hown hlc
        unfold maxLen at hcm
        by_cases hcf : cap = f
        · have hbo : Bools w2.heap.size w2 (some ⟨g, 0, none⟩) q := fun hne => by
            have := HTL.out
            exact absurd (List.eq_nil_of_length_eq_zero (by omega)) hne
          have HBO := Lib.hid hbo; clear hbo
          go_wp2_with fail
          refine (HOF.out (some ⟨g, 0, none⟩) 0 HBO.out).mono ?_
          rintro e w3 ⟨A3, n3, c5, bs3, rfl, hn3, his3, hl3, hA3, hB3, hF3⟩
          have HN3 := Lib.hid hn3; clear hn3
          have q3 := j2.below hB3 j2.lt
          obtain ⟨d1, d2, g1, g2⟩ := q3.two
          go_wp2
          have hBf := (hBw2.trans (hB3.mono hBw2.size))
          refine bodyPost_ret (v := .tuple #[.agg #[.int .i64 R.2.length, .slice A3 n3 c5], .int .i64 R.1]) (by simp [results, Tryd.results22, go_sem, d1, d2]) rfl
            ⟨A3, n3, c5, bs3, rfl, HN3.out, his3, hl3, ?_, (hBf.setCell (p := ⟨w.heap.size + 1, 0, none⟩) (by simp) _).setCell (p := ⟨w.heap.size + 1, 1, none⟩) (by simp) _, fun a ha hb => Nat.le_trans hBw2.size (hF3 a ha hb)⟩
          have h1 := j2.lt
          have h2 := (hA3.set_low hF3 (p := ⟨w.heap.size + 1, 0, none⟩) h1 (.int .i64 R.2.length)).set_low hF3 (p := ⟨w.heap.size + 1, 1, none⟩) h1 (.slice A3 n3 c5)
          simpa using h2
        · have hbo : Bools w2.heap.size w2 (some ⟨g, f, none⟩) q := fun _ => ⟨g, f, rfl, hgl, fun j hj => by
            have h1 := HTL.out
            rw [HPG.out j (by omega)]
            exact HCELL.out (f + j) (by have := HLL.out; omega)⟩
          have HBO := Lib.hid hbo; clear hbo
          go_wp2_with fail
          refine (HOF.out (some ⟨g, f, none⟩) (cap - f) HBO.out).mono ?_
          rintro e w3 ⟨A3, n3, c5, bs3, rfl, hn3, his3, hl3, hA3, hB3, hF3⟩
          have HN3 := Lib.hid hn3; clear hn3
          have q3 := j2.below hB3 j2.lt
          obtain ⟨d1, d2, g1, g2⟩ := q3.two
          go_wp2
          have hBf := (hBw2.trans (hB3.mono hBw2.size))
          refine bodyPost_ret (v := .tuple #[.agg #[.int .i64 R.2.length, .slice A3 n3 c5], .int .i64 R.1]) (by simp [results, Tryd.results22, go_sem, d1, d2]) rfl
            ⟨A3, n3, c5, bs3, rfl, HN3.out, his3, hl3, ?_, (hBf.setCell (p := ⟨w.heap.size + 1, 0, none⟩) (by simp) _).setCell (p := ⟨w.heap.size + 1, 1, none⟩) (by simp) _, fun a ha hb => Nat.le_trans hBw2.size (hF3 a ha hb)⟩
          have h1 := j2.lt
          have h2 := (hA3.set_low hF3 (p := ⟨w.heap.size + 1, 0, none⟩) h1 (.int .i64 R.2.length)).set_low hF3 (p := ⟨w.heap.size + 1, 1, none⟩) h1 (.slice A3 n3 c5)
          simpa using h2
    · have hr : sliceS N bs fr to = (2, []) := by unfold sliceS; rw [if_pos hgood, if_neg hbad]
      rw [hr]; clear hr hgood
      have HBAD := Lib.hid hbad; clear hbad
      go_enter Tryd.func22, Tryd.ntmps22
      go_wp2_with (first
        | (go_at_call 21; refine (HCK.out _ (((Below.refl _ _).alloc (Nat.le_refl _) _).alloc (by simp) _)).mono ?_; rintro e w1 ⟨rfl, hB⟩; rw [HK.out]; obtain ⟨k1, k2, hs, hBw⟩ := boxes2 hB; obtain ⟨c1, c2, f1, f2⟩ := k2.two; obtain ⟨c3, c4, f3, f4⟩ := k1.two; have hl1 : w.heap.size + 1 < w1.heap.size := by omega)
        | (go_at_call 28; exfalso; have := HBAD.out; omega))
      all_goals first
        | (have := HBAD.out; exfalso; omega)
        | (refine bodyPost_ret (v := .tuple #[.agg #[.int .i64 0, .slice none 0 0], .int .i64 2]) (by simp [results, Tryd.results22, go_sem, c1, c2]) rfl
             (res_err 2 ((hBw.setCell (p := ⟨w.heap.size + 1, 0, none⟩) (by simp) _).setCell (p := ⟨w.heap.size + 1, 1, none⟩) (by simp) _)))
  · have hr : sliceS N bs fr to = (10, []) := by simp [sliceS, hgood]
    have hk := chk_no (N := N) (bs := bs) (by simpa using hgood)
    rw [hr]; clear hr hgood
    have HK := Lib.hid hk; clear hk
    go_enter Tryd.func22, Tryd.ntmps22
    go_wp2_with (go_at_call 21; refine (HCK.out _ (((Below.refl _ _).alloc (Nat.le_refl _) _).alloc (by simp) _)).mono ?_; rintro e w1 ⟨rfl, hB⟩; rw [HK.out]; obtain ⟨k1, k2, hs, hBw⟩ := boxes2 hB; obtain ⟨c1, c2, f1, f2⟩ := k2.two; obtain ⟨c3, c4, f3, f4⟩ := k1.two; have hl1 : w.heap.size + 1 < w1.heap.size := by omega)
    refine bodyPost_ret (v := .tuple #[.agg #[.int .i64 0, .slice none 0 0], .int .i64 10]) (by simp [results, Tryd.results22, go_sem, c1, c2]) rfl
      (res_err 10 ((hBw.setCell (p := ⟨w.heap.size + 1, 0, none⟩) (by simp) _).setCell (p := ⟨w.heap.size + 1, 1, none⟩) (by simp) _))
end Go.Proofs.YtlmlbpnjkkfiaaaDoor
