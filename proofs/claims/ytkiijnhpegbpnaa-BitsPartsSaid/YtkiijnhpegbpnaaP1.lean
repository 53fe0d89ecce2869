/-
  The document itself: Join. No condition but that the lists and the bytes can be read.
-/
import Derived.Test.YtkiijnhpegbpnaaL1
import Derived.Laws.AppendOwnNone
namespace Go.Proofs.Ytkiijnhpegbpnaa
open Go.RowKit

theorem join_of (xs : List BV) (k : Nat) (hg : allGood xs = true) (hk : k = xs.length ∨ 4096 < (cat (xs.take k)).length) : joinS xs = ofS (cat (xs.take k)) := by
  unfold joinS ofS
  rw [if_pos hg]
  rcases hk with rfl | hk
  · rw [List.take_length]
  · have := cat_take_le xs k
    rw [if_pos (by omega), if_pos hk]
theorem map_app (l r : List Bool) : (l ++ r).map Value.bool = l.map Value.bool ++ r.map Value.bool := List.map_append
theorem bool_one (l : List Bool) : ∀ u ∈ l.map Value.bool, u.oneCell' = true := by
  intro u hu
  obtain ⟨b, _, rfl⟩ := List.mem_map.1 hu
  rfl

set_option maxRecDepth 100000 in
set_option maxHeartbeats 2000000 in
theorem rjoin_any (X : Option Addr) (xn xc : Nat) (xs : List BV) (w : World) (hxn : xn = xs.length) (hxm : xn ≤ maxLen) (hX : BVs w.heap.size w X xs) (hok : ∀ x ∈ xs, BVok w.heap.size w x) :
    Calls Try.prog 28 #[.slice X xn xc] w (Res w (joinS xs)) := by
  unfold maxLen at hxm
  have HXN := Lib.hid hxn; have HX := Lib.hid hX; have HOK := Lib.hid hok; clear hxn hX hok
  obtain ⟨R, hR⟩ : ∃ R, R = joinS xs := ⟨_, rfl⟩
  rw [← hR]
  have HR := Lib.hid hR; clear hR
  obtain ⟨i0, hi, hz0, hz1, hz2⟩ := info_parts Try.info4
  go_enter Try.func28, Try.ntmps28
  go_wp2
  go_loopw [5] (fun i wr => ∃ k : Nat, k ≤ xn ∧ i = .int .i64 k ∧ allGood (xs.take k) = true ∧ Blk wr w.heap.size 24 #[.int .i64 0, .slice none 0 0] ∧ Below w.heap.size w wr)
    (fun i _ => xn - (intOf i).toNat)
  case atStart => exact ⟨0, by omega, rfl, rfl, Blk.new w 24 _, (Below.refl _ _).alloc (Nat.le_refl _) _⟩
  case round =>
    obtain ⟨k, hk, rfl, hall, q1, hBr⟩ := hrel
    have HALL := Lib.hid hall; clear hall
    obtain ⟨c1, c2, f1, f2⟩ := q1.two
    have hlw := q1.lt
    by_cases hlt : k < xn
    · obtain ⟨x, hx⟩ : ∃ x, xs[k]? = some x := ⟨_, List.getElem?_eq_getElem (by have := HXN.out; omega)⟩
      obtain ⟨b, off, rfl, hbl, hc0, hc1⟩ := HX.out.at_ hBr hx
      have hgs := good_snoc (xs.take k) x
      rw [← take_snoc_bv xs k x hx] at hgs
      have hgn := good_not xs k x hx
      have hxo := HOK.out x (List.mem_of_getElem? hx)
      have hck := rcheck_any x.N x.A x.n x.c x.bs wr hxo.1 hxo.2.1 ((hxo.2.2.below hBr).mono hBr.size)
      by_cases hgx : goodB x.N x.bs = true
      · rw [chk_yes hgx] at hck
        rw [hgx, HALL.out] at hgs
        have HCK := Lib.hid hck; have HGS := Lib.hid hgs
        clear hck hgs hgn hgx hx hxo
        go_wp2_with (go_at_call 15; refine HCK.out.mono ?_; rintro e w2 ⟨rfl, hB2⟩; have q2 := q1.below hB2 hlw)
        go_roundw
        case rel => exact ⟨k + 1, by omega, by go_num, HGS.out, q2, hBr.trans (hB2.mono hBr.size)⟩
        case measure => simp [intOf]; omega
      · rw [chk_no (by simpa using hgx)] at hck
        have hr := hgn (by simpa using hgx)
        have HCK := Lib.hid hck; have HG := Lib.hid hr
        clear hck hgs hgn hgx hx hr hxo
        go_wp2_with (go_at_call 15; refine HCK.out.mono ?_; rintro e w2 ⟨rfl, hB2⟩; have q2 := q1.below hB2 hlw; obtain ⟨d1, d2, e1, e2⟩ := q2.two; have hlw2 := q2.lt)
        rw [HR.out, show joinS xs = (10, []) by unfold joinS; rw [HG.out]; rfl]
        exact bodyPost_ret (v := .tuple #[.agg #[.int .i64 0, .slice none 0 0], .int .i64 10]) (by simp [results, Try.results28, go_sem, d1, d2]) rfl (res_err 10 (((hBr.trans (hB2.mono hBr.size)).setCell (p := ⟨w.heap.size, 0, none⟩) (by simp) _).setCell (p := ⟨w.heap.size, 1, none⟩) (by simp) _))
    · have hgood := HALL.out
      rw [List.take_of_length_le (by have := HXN.out; omega)] at hgood
      have HGD := Lib.hid hgood; clear hgood
      go_wp2
      go_loopw [4, 6] (fun lv i wr2 => ∃ k : Nat, k ≤ xn ∧ i = .int .i64 k ∧ (cat (xs.take k)).length ≤ 8192 ∧ wr2.ownsRow (w.heap.size + 1) 4 1 lv (cat (xs.take k)).length ((cat (xs.take k)).map Value.bool) ∧ Blk wr2 w.heap.size 24 #[.int .i64 0, .slice none 0 0] ∧ Below w.heap.size w wr2)
        (fun _ i _ => xn - (intOf i).toNat)
      case atStart => exact ⟨0, by omega, rfl, by simp [cat], World.ownsRow_nil _ _ _ _, q1, hBr⟩
      case round =>
        clear c1 c2 f1 f2 q1 hBr hlw HALL hlt hk
        obtain ⟨k2, hk, rfl, hle, hrow, q1, hBr⟩ := hrel
        obtain ⟨c1, c2, f1, f2⟩ := q1.two
        have hlw := q1.lt
        obtain ⟨VA, vc, rfl, hVA⟩ := bools_of_own hrow
        by_cases hgo : k2 < xn ∧ (cat (xs.take k2)).length ≤ 4096
        · obtain ⟨hlt, hl4⟩ := hgo
          obtain ⟨x, hx⟩ : ∃ x, xs[k2]? = some x := ⟨_, List.getElem?_eq_getElem (by have := HXN.out; omega)⟩
          obtain ⟨b, off, rfl, hbl, hc0, hc1⟩ := HX.out.at_ hBr hx
          have hcs := cat_snoc (xs.take k2) x
          rw [← take_snoc_bv xs k2 x hx] at hcs
          have hxo := HOK.out x (List.mem_of_getElem? hx)
          have hli := list_any x.N x.A x.n x.c x.bs wr hxo.1 hxo.2.1 ((hxo.2.2.below hBr).mono hBr.size)
          have hll := lst_length x.N x.bs
          generalize lst x.N x.bs = lx at *
          generalize hcj : cat (xs.take k2) = cj at *
          have HLI := Lib.hid hli; have HCS := Lib.hid hcs
          clear hli hcs hx hxo hcj hVA
          have hl4i : (cj.length : Int) ≤ 4096 := by omega
          have hd1 : decide ((cj.length : Int) ≤ 4096) = true := by simpa using hl4i
          go_wp2_with fail
          refine HLI.out.mono ?_
          rintro e w2 ⟨lv2, rfl, hown2, hB2⟩
          have q2 := q1.below hB2 hlw
          have hBr2 := hBr.trans (hB2.mono hBr.size)
          have hrow2 : w2.ownsRow (w.heap.size + 1) 4 1 (.slice VA cj.length vc) cj.length (cj.map Value.bool) := hrow.kept (only_of_below hB2 none) (by
            rcases hrow.2 with ⟨h1, _⟩ | ⟨g, cap, cur, h1, _⟩
            · rw [h1]; exact .inl rfl
            · exact .inr (by rw [h1]; simp [Value.ownBlock]))
          rcases own_bools hown2 with ⟨rfl, hl0⟩ | ⟨g2, cap2, rfl, hgb2, hgl2, hlc2, hcm2, hcell2, _⟩
          · subst hl0
            go_wp2_with (at_builtin; refine wpList_append_own_none rfl _ _ 25 rfl (w.heap.size + 1) 4 i0 1 Try.underlying25 hi _ _ _ rfl hrow2 rfl ?_)
            go_roundw
            case rel => exact ⟨k2 + 1, by omega, by go_num, by rw [HCS.out]; simpa using hle, by rw [HCS.out]; simpa using hrow2, q2, hBr2⟩
            case measure => simp [intOf]; omega
          · have hq2l := q2.lt
            go_wp2_with (at_builtin; refine wpList_append_own _ rfl _ _ 25 rfl (w.heap.size + 1) 4 i0 (.bool false) 1 1 Try.underlying25 hi hz0 hz1 hz2 rfl (by decide) _ _ _ rfl hrow2 ⟨g2, 0, none⟩ lx.length cap2 (lx.map Value.bool) rfl (by simp) (fun j u hj => hown2.cells (g := g2) rfl j u hj) (bool_one lx) (by unfold maxLen; omega) (by omega) (by omega) ?_; intro v' w3 hown3 hgrow3 _)
            have q3 := q2.grown hgrow3 (fun e => by have := (hrow2.lt _ e.symm).1; omega)
            have hBr3 := hBr2.grown hgrow3 hBr2.size (fun k ek => by have := (hrow2.lt k ek).1; omega)
            rw [← map_app, ← List.length_append] at hown3
            go_roundw
            case rel => exact ⟨k2 + 1, by omega, by go_num, by rw [HCS.out, List.length_append]; omega, by rw [HCS.out]; exact hown3, q3, hBr3⟩
            case measure => simp [intOf]; omega
        · have hro : R = ofS (cat (xs.take k2)) := by
            rw [HR.out]; exact join_of xs k2 HGD.out (by have := HXN.out; omega)
          have hof := rof_any VA _ vc _ wr rfl (by unfold maxLen; omega) hVA
          rw [← hro] at hof
          have HOF := Lib.hid hof
          generalize (cat (xs.take k2)).length = LL at *
          clear hof hro HR hVA hrow HX HOK HGD
          by_cases hlt : k2 < xn
          · have hl4 : ¬ LL ≤ 4096 := fun h => hgo ⟨hlt, h⟩
            have hd1 : decide ((LL : Int) ≤ 4096) = false := by simp; omega
            clear hgo
            go_wp2_with (go_at_call 9; refine HOF.out.mono ?_; rintro e w3 ⟨A3, n3, c5, bs3, rfl, hn3, his3, hl3, hA3, hB3, hF3⟩; have HN3 := Lib.hid hn3; clear hn3; have q3 := q1.below hB3 hlw; obtain ⟨d1, d2, g1, g2⟩ := q3.two)
            have hBf := (hBr.trans (hB3.mono hBr.size))
            refine bodyPost_ret (v := .tuple #[.agg #[.int .i64 R.2.length, .slice A3 n3 c5], .int .i64 R.1]) (by simp [results, Try.results28, go_sem, d1, d2]) rfl
              ⟨A3, n3, c5, bs3, rfl, HN3.out, his3, hl3, ?_, (hBf.setCell (p := ⟨w.heap.size, 0, none⟩) (by simp) _).setCell (p := ⟨w.heap.size, 1, none⟩) (by simp) _, fun a ha hb => Nat.le_trans hBr.size (hF3 a ha hb)⟩
            have h2 := (hA3.set_low hF3 (p := ⟨w.heap.size, 0, none⟩) hlw (.int .i64 R.2.length)).set_low hF3 (p := ⟨w.heap.size, 1, none⟩) hlw (.slice A3 n3 c5)
            simpa using h2
          · clear hgo
            go_wp2_with (go_at_call 9; refine HOF.out.mono ?_; rintro e w3 ⟨A3, n3, c5, bs3, rfl, hn3, his3, hl3, hA3, hB3, hF3⟩; have HN3 := Lib.hid hn3; clear hn3; have q3 := q1.below hB3 hlw; obtain ⟨d1, d2, g1, g2⟩ := q3.two)
            have hBf := (hBr.trans (hB3.mono hBr.size))
            refine bodyPost_ret (v := .tuple #[.agg #[.int .i64 R.2.length, .slice A3 n3 c5], .int .i64 R.1]) (by simp [results, Try.results28, go_sem, d1, d2]) rfl
              ⟨A3, n3, c5, bs3, rfl, HN3.out, his3, hl3, ?_, (hBf.setCell (p := ⟨w.heap.size, 0, none⟩) (by simp) _).setCell (p := ⟨w.heap.size, 1, none⟩) (by simp) _, fun a ha hb => Nat.le_trans hBr.size (hF3 a ha hb)⟩
            have h2 := (hA3.set_low hF3 (p := ⟨w.heap.size, 0, none⟩) hlw (.int .i64 R.2.length)).set_low hF3 (p := ⟨w.heap.size, 1, none⟩) hlw (.slice A3 n3 c5)
            simpa using h2
end Go.Proofs.Ytkiijnhpegbpnaa
