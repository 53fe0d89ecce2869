/-
  The document's Add. Conditions: up to 50 rows that can be read, each of up to 65,536 samples.
-/
import Derived.Test.YtdmedhklcicpeaaZ2
import Derived.BigRegion
namespace Go.Proofs.Ytdmedhklcicpeaa
open Go.RowKit

theorem cellsS_set : ∀ (L : List Sp) (j : Nat) (x y : Int), j < L.length → cellsS (L.set j (x, y)) = ((cellsS L).set (j * 2) (.int .i64 x)).set (j * 2 + 1) (.int .i64 y)
  | [], j, x, y, h => by simp at h
  | s :: L, 0, x, y, _ => rfl
  | s :: L, j + 1, x, y, h => by
    have ih := cellsS_set L j x y (by simpa using h)
    have e1 : cellsS ((s :: L).set (j + 1) (x, y)) = .int .i64 s.1 :: .int .i64 s.2 :: cellsS (L.set j (x, y)) := rfl
    have e2 : cellsS (s :: L) = .int .i64 s.1 :: .int .i64 s.2 :: cellsS L := rfl
    rw [e1, ih, e2, show (j + 1) * 2 = j * 2 + 2 by omega]
    rfl
theorem own_set2 {w : World} {base g n cap : Nat} {L : List Sp} (h : w.ownsRow base 38 2 (.slice (some ⟨g, 0, none⟩) n cap) n (cellsS L)) {j : Nat} (hj : j < L.length) (x y : Int) :
    ((w.setCell ⟨g, j * 2, none⟩ (.int .i64 x)).setCell ⟨g, j * 2 + 1, none⟩ (.int .i64 y)).ownsRow base 38 2 (.slice (some ⟨g, 0, none⟩) n cap) n (cellsS (L.set j (x, y))) := by
  refine ⟨by rw [cellsS_length, List.length_set, ← cellsS_length]; exact h.1, ?_⟩
  rcases h.2 with ⟨h1, _⟩ | ⟨g', cap', cur, h1, hb, hh, hc, hm, hsz, htk⟩
  · cases h1
  · injection h1 with h1 _ h3
    injection h1 with h1
    injection h1 with h1
    subst h1; subst h3
    have hblk : Blk w g 38 cur := hh
    refine .inr ⟨g, cap, _, rfl, hb, (hblk.set_ (j * 2) (.int .i64 x)).set_ (j * 2 + 1) (.int .i64 y), hc, hm, by simpa using hsz, ?_⟩
    rw [cellsS_set L j x y hj, ← htk]
    simp [List.take_set]
theorem own_at {w : World} {base g n cap : Nat} {L : List Sp} (h : w.ownsRow base 38 2 (.slice (some ⟨g, 0, none⟩) n cap) n (cellsS L)) {j : Nat} (hj : j < L.length) :
    w.cell? ⟨g, j * 2, none⟩ = some (.int .i64 (L[j]?.getD (0, 0)).1) ∧ w.cell? ⟨g, j * 2 + 1, none⟩ = some (.int .i64 (L[j]?.getD (0, 0)).2) ∧ w.frozen? ⟨g, j * 2, none⟩ = false ∧ w.frozen? ⟨g, j * 2 + 1, none⟩ = false ∧ base ≤ g ∧ g < w.heap.size := by
  obtain ⟨h0, h1⟩ := cellsS_get L j hj
  have c0 := h.cells (g := g) rfl _ _ h0
  have c1 := h.cells (g := g) rfl _ _ h1
  rw [addr_add] at c0 c1
  rw [Nat.zero_add] at c0 c1
  rcases h.2 with ⟨hv, _⟩ | ⟨g', cap', cur, hv, hb, hh, _⟩
  · cases hv
  · injection hv with hv _ _
    injection hv with hv
    injection hv with hv
    subst hv
    have hblk : Blk w g 38 cur := hh
    exact ⟨c0, c1, hblk.frozen _, hblk.frozen _, hb, hblk.lt⟩
theorem midRow_set (rows : List (List Sp)) (M k j : Nat) : (midRow rows M k j).set j (sumAt (rows.take (k + 1)) j) = midRow rows M k (j + 1) := by
  apply List.ext_getElem
  · simp [midRow]
  · intro i h1 h2
    rw [List.getElem_set]
    simp only [midRow, List.getElem_map, List.getElem_range]
    by_cases hij : j = i
    · subst hij; rw [if_pos rfl, if_pos (by omega)]
    · rw [if_neg hij]
      by_cases hlt : i < j
      · rw [if_pos hlt, if_pos (by omega)]
      · rw [if_neg hlt, if_neg (by omega)]
theorem sumAt_beyond (rows : List (List Sp)) (j : Nat) : ∀ k, k ≤ rows.length → longest (rows.take k) ≤ j → sumAt (rows.take k) j = (0, 0)
  | 0, _, _ => rfl
  | k + 1, hk, h => by
    rw [longest_snoc rows k (by omega)] at h
    rw [sumAt_snoc rows k j (by omega), sumAt_beyond rows j k (by omega) (by omega)]
    unfold addAt
    rw [List.getElem?_eq_none (by omega)]; rfl
theorem midRow_more (rows : List (List Sp)) (M k : Nat) (hk : k ≤ rows.length) (h : longest (rows.take k) ≤ M) : midRow rows M k M ++ [(0, 0)] = midRow rows (M + 1) k M := by
  unfold midRow
  rw [List.range_succ, List.map_append]
  congr 1
  simp [sumAt_beyond rows M k hk h]

set_option maxRecDepth 100000 in
set_option maxHeartbeats 4000000 in
theorem radd_any (X : Option Addr) (xn xc : Nat) (rs : List RW) (w : World) (hxn : xn = rs.length) (h50 : xn ≤ 50) (hX : Rws w X rs) (hrl : ∀ r ∈ rs, r.n ≤ 65536) :
    Calls Try.prog 23 #[.slice X xn xc] w (ResS w (addS (rs.map (·.l)))) := by
  have hrows : (rs.map (·.l)).length = rs.length := List.length_map _
  have hlen : longest (rs.map (·.l)) ≤ 65536 := longest_le _ _ (fun r hr => by
    obtain ⟨x, hx, rfl⟩ := List.mem_map.1 hr
    rw [← (hX.ok x hx).1]; exact hrl x hx)
  generalize hRW : rs.map (·.l) = rows at *
  obtain ⟨R, hR⟩ : ∃ R, R = addS rows := ⟨_, rfl⟩
  rw [← hR]
  have HX := Lib.hid hX; have HXN := Lib.hid hxn; have HRL := Lib.hid hrl; have HRO := Lib.hid hrows; have HLE := Lib.hid hlen; have HRW := Lib.hid hRW; have HR := Lib.hid hR
  clear hX hxn hrl hrows hlen hRW hR
  obtain ⟨i0, hi, hz0, hz1, hz2⟩ := info_parts Try.infoS
  go_enter Try.func23, Try.ntmps23
  go_wp2
  go_loopw [5] (fun i wr => ∃ k : Nat, k ≤ xn ∧ i = .int .i64 k ∧ (rows.take k).all (·.all mayS) = true ∧ Below w.heap.size w wr)
    (fun i _ => xn - (intOf i).toNat)
  case atStart => exact ⟨0, by omega, rfl, rfl, Below.refl _ _⟩
  case round =>
    obtain ⟨k, hk, rfl, hall, hBr⟩ := hrel
    have HALL := Lib.hid hall; clear hall
    by_cases hlt : k < xn
    · obtain ⟨b, off, r, rfl, hbl, hc0, hok, hrl, hrk⟩ := (HX.out.on hBr).at_ (k := k) (by have := HXN.out; omega)
      rw [HRW.out] at hrl
      have hn6 := HRL.out r (List.mem_of_getElem? hrk)
      have hkr : k < rows.length := by have := HXN.out; have := HRO.out; omega
      have hal := rmays_any r.A r.n r.c r.l wr hok.1 (by unfold maxLen; omega) hok.2.2
      have hsn := all_rows_snoc rows k hkr
      have hno := not_all_rows rows k hkr
      rw [hrl] at hsn hno
      obtain ⟨rA, rn, rc, rl⟩ := r
      dsimp only at *
      by_cases hms : rl.all mayS = true
      · rw [hms] at hal
        rw [hms, HALL.out] at hsn
        have HAL := Lib.hid hal; have HSN := Lib.hid hsn
        clear hal hsn hno hms hkr hrl hrk hok
        go_wp2_with fail
        refine HAL.out.mono ?_
        rintro e w2 ⟨rfl, hB2⟩
        go_wp2
        go_roundw
        case rel => exact ⟨k + 1, by omega, by go_num, HSN.out, hBr.trans (hB2.mono hBr.size)⟩
        case measure => simp [intOf]; omega
      · have hmf : rl.all mayS = false := by simpa using hms
        rw [hmf] at hal
        have hr : addS rows = (31, []) := by unfold addS; rw [if_neg (by rw [hno hmf]; decide)]
        have HAL := Lib.hid hal; have HRR := Lib.hid hr
        clear hal hsn hno hms hmf hkr hrl hrk hok hr
        go_wp2_with fail
        refine HAL.out.mono ?_
        rintro e w2 ⟨rfl, hB2⟩
        go_wp2
        go_ret2
        rw [HR.out, HRR.out]
        exact ⟨none, 0, 0, rfl, rfl, Nat.le_refl _, fun h => absurd rfl h, hBr.trans (hB2.mono hBr.size), fun a ha => by cases ha⟩
    · obtain rfl : k = xn := by omega
      have htk : rows.take k = rows := List.take_of_length_le (by have := HXN.out; have := HRO.out; omega)
      have hall := HALL.out
      rw [htk] at hall
      have HALL2 := Lib.hid hall
      clear hall htk HALL
      generalize hwa : wr = wa at *
      clear hwa
      go_wp2
      go_loopw [4, 6] (fun ov i wr => ∃ k2 : Nat, k2 ≤ k ∧ i = .int .i64 k2 ∧ wr.ownsRow wa.heap.size 38 2 ov (longest (rows.take k2)) (cellsS ((List.range (longest (rows.take k2))).map (sumAt (rows.take k2)))) ∧ Below wa.heap.size wa wr)
        (fun _ i _ => k - (intOf i).toNat)
      case atStart => exact ⟨0, by omega, rfl, World.ownsRow_nil _ _ _ _, Below.refl _ _⟩
      case round =>
        obtain ⟨k2, hk2, rfl, hrow, hBa⟩ := hrel
        have hBw := hBr.trans (hBa.mono hBr.size)
        by_cases hlt2 : k2 < k
        · have hkr : k2 < rows.length := by have := HXN.out; have := HRO.out; omega
          have hlsn := longest_snoc rows k2 hkr
          have hge := longest_ge rows k2 hkr
          have hle2 : longest (rows.take k2) ≤ 65536 := Nat.le_trans (longest_le (rows.take k2) (longest rows) (fun r' hr' => by
            obtain ⟨j, hj, rfl⟩ := List.getElem_of_mem (List.mem_of_mem_take hr')
            have := longest_ge rows j hj
            rw [List.getElem?_eq_getElem hj] at this
            exact this)) HLE.out
          obtain ⟨b, off, r, rfl, hbl, hc0, hok, hrl, hrk⟩ := (HX.out).at_ (k := k2) (by have := HXN.out; omega)
          rw [HRW.out] at hrl
          have hn6 := HRL.out r (List.mem_of_getElem? hrk)
          have hmy := rows_at HALL2.out hkr
          have hfull := fun M => midRow_full rows M k2 hkr
          rw [hrl] at hmy hlsn hfull
          obtain ⟨rA, rn, rc, rl⟩ := r
          obtain ⟨hok1, _, hok3⟩ := hok
          dsimp only at *
          rw [← hok1] at hlsn hfull
          rw [← midRow_zero] at hrow
          have hsnoc := fun j => sumAt_snoc rows k2 j hkr
          rw [hrl] at hsnoc
          have hsmall := fun j => sumAt_small rows HALL2.out j k2 (by omega)
          have hmm := fun M => midRow_more rows M k2 (by omega)
          have hms := fun M j => midRow_set rows M k2 j
          generalize hL0 : longest (rows.take k2) = L0 at *
          have HROW := Lib.hid hrow; have HMY := Lib.hid hmy; have HFULL := Lib.hid hfull; have HSNOC := Lib.hid hsnoc; have HSMALL := Lib.hid hsmall; have HOK1 := Lib.hid hok1; have HOK3 := Lib.hid hok3; have HLSN := Lib.hid hlsn; have HMM := Lib.hid hmm; have HMS := Lib.hid hms; have HC0 := Lib.hid hc0
          clear hrow hmy hfull hsnoc hsmall hok1 hok3 hlsn hmm hms hrl hrk hL0 hkr hge hc0
          generalize hwb : wr = wb at *
          clear hwb
          go_wp2
          go_loopw [4, 7] (fun ov i wr => ∃ j : Nat, j ≤ rn ∧ i = .int .i64 j ∧ wr.ownsRow wa.heap.size 38 2 ov (max L0 j) (cellsS (midRow rows (max L0 j) k2 j)) ∧ Below wa.heap.size wa wr)
            (fun _ i _ => rn - (intOf i).toNat)
          case atStart => exact ⟨0, by omega, rfl, by rw [Nat.max_zero]; exact HROW.out, hBa⟩
          case round =>
            obtain ⟨j, hj, rfl, hrow, hBx⟩ := hrel
            have hBw2 := hBr.trans (hBx.mono hBr.size)
            have hbs : b < wr.heap.size := Nat.lt_of_lt_of_le hbl hBw2.size
            have hc0 := (hBw2.cell (p := ⟨b, off + k2, none⟩) hbl).trans HC0.out
            by_cases hlt3 : j < rn
            · have hjl : j < rl.length := by have := HOK1.out; omega
              obtain ⟨b3, off3, he3, hbl3, hs30, hs31⟩ := (HOK3.out.below hBw2).at_ hjl
              subst he3
              have hb3s : b3 < wr.heap.size := Nat.lt_of_lt_of_le hbl3 hBw2.size
              have hbwa : b < wa.heap.size := Nat.lt_of_lt_of_le hbl hBr.size
              have hb3wa : b3 < wa.heap.size := Nat.lt_of_lt_of_le hbl3 hBr.size
              have hmy := may_at HMY.out hjl
              obtain ⟨x, y, hxy⟩ : ∃ x y, rl[j]?.getD (0, 0) = (x, y) := ⟨_, _, rfl⟩
              rw [hxy] at hs30 hs31 hmy
              dsimp only at hs30 hs31
              have HMS2 := Lib.hid (may_small hmy)
              by_cases hjL : j < L0
              · have hmx : max L0 j = L0 := by omega
                rw [hmx] at hrow
                obtain ⟨g, cap, hv, hg1, hg2⟩ := hrow.form (by omega)
                subst hv
                have HROW2 := Lib.hid hrow
                clear hrow
                have hd0 : decide ((L0 : Int) ≤ (j : Int)) = false := by simp; omega
                have hd1 : decide (L0 ≤ j) = false := by simp; omega
                obtain ⟨c0, c1, f0, f1, hgb, hgl⟩ := own_at HROW2.out (j := j) (by rw [midRow_length]; omega)
                rw [midRow_get _ _ _ _ _ (by omega), if_neg (by omega)] at c0 c1
                have hsn := HSNOC.out j
                have hsm := HSMALL.out j
                unfold addAt at hsn
                rw [hxy] at hsn
                generalize sumAt (rows.take k2) j = s0 at *
                obtain ⟨p0, q0⟩ := s0
                dsimp only at c0 c1 hsn hsm
                have hms := HMS.out L0 j
                rw [hsn] at hms
                have hset := own_set2 HROW2.out (j := j) (by rw [midRow_length]; omega) (p0 + x) (q0 + y)
                rw [hms] at hset
                have hw1 : IntKind.i64.wrap (p0 + x) = p0 + x := IntWalk.i64_in _ (by have := HMS2.out; omega)
                have hw2 : IntKind.i64.wrap (q0 + y) = q0 + y := IntWalk.i64_in _ (by have := HMS2.out; omega)
                have hgne : g ≠ b := by omega
                have hgne3 : g ≠ b3 := by omega
                have HSET := Lib.hid hset
                clear hset hms hsn hsm
                go_wp2
                go_region
                go_wp2
                go_roundw
                case rel =>
                  refine ⟨j + 1, by omega, by go_num, ?_, ?_⟩
                  · rw [show max L0 (j + 1) = L0 by omega]
                    exact HSET.out
                  · exact ((hBx.setCell (p := ⟨g, j * 2, none⟩) hgb _).setCell (p := ⟨g, j * 2 + 1, none⟩) hgb _).drew
                case measure => simp [intOf]; omega
              · have hmx : max L0 j = j := by omega
                rw [hmx] at hrow
                obtain ⟨OA, oc, hv, _⟩ := smps_of_own hrow
                rw [midRow_length] at hv
                subst hv
                have hmm := HMM.out j (by omega)
                have hd0 : decide ((j : Int) ≤ (j : Int)) = true := by simp
                have hd1 : decide (L0 ≤ j) = true := by simp; omega
                have HMM2 := Lib.hid hmm
                have hsz := hBx.size
                clear hmm
                go_wp2_with (at_builtin; refine wpList_append_own _ rfl _ _ 25 rfl wa.heap.size 38 i0 (.agg #[.int .i64 0, .int .i64 0]) 2 16 Try.underlying25 hi hz0 hz1 hz2 rfl (by decide) (.slice OA j oc) _ _ rfl (hrow.alloc _) ⟨wr.heap.size, 0, none⟩ 1 1 [.int .i64 0, .int .i64 0] rfl rfl (cell_two_new _ _ _ _) (by simp [Value.oneCell']) (by unfold maxLen; omega) (by omega) (by simp; omega) ?_; intro v' w3 hown' hgrow _; obtain ⟨g, cap, hv', hg1, hg2⟩ := hown'.form (by omega); subst hv'; have hBx3 : Below wa.heap.size wa w3 := own_below hrow hgrow hBx (Nat.le_refl _) hBx.size; have hBw3 := hBr.trans (hBx3.mono hBr.size); have hc03 := (hBw3.cell (p := ⟨b, off + k2, none⟩) hbl).trans HC0.out; have hs303 := (hBx3.cell (p := ⟨b3, off3 + j * 2, none⟩) hb3wa).trans ((hBx.cell (p := ⟨b3, off3 + j * 2, none⟩) hb3wa).symm.trans hs30); have hs313 := (hBx3.cell (p := ⟨b3, off3 + j * 2 + 1, none⟩) hb3wa).trans ((hBx.cell (p := ⟨b3, off3 + j * 2 + 1, none⟩) hb3wa).symm.trans hs31); have hbs3 : b < w3.heap.size := Nat.lt_of_lt_of_le hbl hBw3.size; have hb3s3 : b3 < w3.heap.size := Nat.lt_of_lt_of_le hbl3 hBw3.size)
                have hown2 : w3.ownsRow wa.heap.size 38 2 (.slice (some ⟨g, 0, none⟩) (j + 1) cap) (j + 1) (cellsS (midRow rows (j + 1) k2 j)) := by
                  rw [← HMM2.out, cellsS_append]; exact hown'
                have HROW2 := Lib.hid hown2
                clear hown2 hown' hgrow hrow hc0 hs30 hs31
                obtain ⟨c0, c1, f0, f1, hgb, hgl⟩ := own_at HROW2.out (j := j) (by rw [midRow_length]; omega)
                rw [midRow_get _ _ _ _ _ (by omega), if_neg (by omega)] at c0 c1
                have hsn := HSNOC.out j
                have hsm := HSMALL.out j
                unfold addAt at hsn
                rw [hxy] at hsn
                generalize sumAt (rows.take k2) j = s0 at *
                obtain ⟨p0, q0⟩ := s0
                dsimp only at c0 c1 hsn hsm
                have hms := HMS.out (j + 1) j
                rw [hsn] at hms
                have hset := own_set2 HROW2.out (j := j) (by rw [midRow_length]; omega) (p0 + x) (q0 + y)
                rw [hms] at hset
                have hw1 : IntKind.i64.wrap (p0 + x) = p0 + x := IntWalk.i64_in _ (by have := HMS2.out; omega)
                have hw2 : IntKind.i64.wrap (q0 + y) = q0 + y := IntWalk.i64_in _ (by have := HMS2.out; omega)
                have hgne : g ≠ b := by omega
                have hgne3 : g ≠ b3 := by omega
                have HSET := Lib.hid hset
                clear hset hms hsn hsm
                go_wp2
                go_region
                go_wp2
                go_roundw
                case rel =>
                  refine ⟨j + 1, by omega, by go_num, ?_, ?_⟩
                  · rw [show max L0 (j + 1) = (j + 1) by omega]
                    exact HSET.out
                  · exact ((hBx3.setCell (p := ⟨g, j * 2, none⟩) hgb _).setCell (p := ⟨g, j * 2 + 1, none⟩) hgb _).drew
                case measure => simp [intOf]; omega
            · obtain rfl : j = rn := by omega
              rw [HFULL.out, ← HLSN.out] at hrow
              have HROW2 := Lib.hid hrow; clear hrow
              go_wp2
              go_roundw
              case rel => exact ⟨k2 + 1, by omega, by go_num, HROW2.out, hBx⟩
              case measure => simp [intOf]; omega
        · obtain rfl : k2 = k := by omega
          have htk : rows.take k2 = rows := List.take_of_length_le (by have := HXN.out; have := HRO.out; omega)
          rw [htk] at hrow
          have hr : R = if ((List.range (longest rows)).map (sumAt rows)).all mayS = true then (0, (List.range (longest rows)).map (sumAt rows)) else (31, []) := by
            rw [HR.out]; unfold addS; rw [if_pos HALL2.out]
          have hll : longest rows = ((List.range (longest rows)).map (sumAt rows)).length := by simp
          have hlE := HLE.out
          generalize (List.range (longest rows)).map (sumAt rows) = T at *
          generalize longest rows = M at *
          obtain ⟨OA, oc, hv, hS⟩ := smps_of_own hrow
          rw [← hll] at hv
          subst hv
          have hcap := own_cap hrow
          have hfr := own_fresh hrow
          have hal := rmays_any OA M oc T wr hll (by unfold maxLen; omega) hS
          have HAL := Lib.hid hal; have HSMP := Lib.hid hS; have HRR := Lib.hid hr; have HLL := Lib.hid hll
          clear hal hS hr hll hrow htk
          by_cases hms : T.all mayS = true
          · have hal := HAL.out
            rw [hms] at hal
            have hr := HRR.out
            rw [if_pos hms] at hr
            have HAL2 := Lib.hid hal; have HR2 := Lib.hid hr
            clear hal hr hms
            go_wp2_with fail
            refine HAL2.out.mono ?_
            rintro e w3 ⟨rfl, hB3⟩
            go_wp2
            go_ret2
            rw [HR2.out]
            exact ⟨_, _, _, rfl, HLL.out, hcap, HSMP.out.on hB3, hBw.trans (hB3.mono hBw.size), fun a ha _ => Nat.le_trans hBr.size (hfr a ha)⟩
          · have hal := HAL.out
            have hmf : T.all mayS = false := by simpa using hms
            rw [hmf] at hal
            have hr := HRR.out
            rw [if_neg hms] at hr
            have HAL2 := Lib.hid hal; have HR2 := Lib.hid hr
            clear hal hr hms hmf
            go_wp2_with fail
            refine HAL2.out.mono ?_
            rintro e w3 ⟨rfl, hB3⟩
            go_wp2
            go_ret2
            rw [HR2.out]
            exact ⟨none, 0, 0, rfl, rfl, Nat.le_refl _, fun h => absurd rfl h, hBw.trans (hB3.mono hBw.size), fun a ha => by cases ha⟩
end Go.Proofs.Ytdmedhklcicpeaa
