/-
  The program's Add. Conditions: up to 50 rows that can be read, each of up to 65,536 samples.
-/
import Derived.Test.YtdmedhklcicpeaaZ1
import Derived.Deep.RegionHeld3
namespace Go.Proofs.Ytdmedhklcicpeaa
open Go.RowKit

/-- The sums, while row k is added: up to j with it, behind without. -/
def midRow (rows : List (List Sp)) (M k j : Nat) : List Sp := (List.range M).map fun i => if i < j then sumAt (rows.take (k + 1)) i else sumAt (rows.take k) i
theorem midRow_get (rows : List (List Sp)) (M k j i : Nat) (h : i < M) : (midRow rows M k j)[i]?.getD (0, 0) = if i < j then sumAt (rows.take (k + 1)) i else sumAt (rows.take k) i := by
  unfold midRow
  rw [List.getElem?_map, List.getElem?_range h]; rfl
theorem midRow_length (rows : List (List Sp)) (M k j : Nat) : (midRow rows M k j).length = M := by simp [midRow]
theorem midRow_zero (rows : List (List Sp)) (M k : Nat) : midRow rows M k 0 = (List.range M).map (sumAt (rows.take k)) := by simp [midRow]
theorem midRow_full (rows : List (List Sp)) (M k : Nat) (hk : k < rows.length) : midRow rows M k (rows[k]?.getD []).length = (List.range M).map (sumAt (rows.take (k + 1))) := by
  unfold midRow
  apply List.map_congr_left
  intro i _
  split
  · rfl
  · rename_i h
    rw [sumAt_snoc rows k i hk]
    unfold addAt
    rw [List.getElem?_eq_none (by omega)]
    simp
theorem CRow.put {cs : Array Value} {rows : List (List Sp)} {M k j : Nat} (h : CRow cs (midRow rows M k j)) (hj : j < M) (hs : M ≤ cs.size) {a b : Nat} (ha : IsF a (sumAt (rows.take (k + 1)) j).1) (hb : IsF b (sumAt (rows.take (k + 1)) j).2) :
    CRow (cs.setIfInBounds j (.complex .f64 a b)) (midRow rows M k (j + 1)) := by
  intro i hi
  rw [midRow_length] at hi
  rw [midRow_get _ _ _ _ _ hi]
  by_cases hij : i = j
  · subst hij
    rw [if_pos (by omega)]
    exact ⟨a, b, by rw [Array.getElem?_setIfInBounds_self_of_lt (by omega)], ha, hb⟩
  · obtain ⟨x, y, h1, h2⟩ := h i (by rw [midRow_length]; exact hi)
    rw [midRow_get _ _ _ _ _ hi] at h2
    refine ⟨x, y, by rw [Array.getElem?_setIfInBounds_ne (by omega)]; exact h1, ?_⟩
    by_cases hlt : i < j
    · rw [if_pos hlt] at h2; rw [if_pos (by omega)]; exact h2
    · rw [if_neg hlt] at h2; rw [if_neg (by omega)]; exact h2
theorem sums_small {rows : List (List Sp)} (h : rows.all (·.all mayS) = true) (h50 : rows.length ≤ 50) (M : Nat) : ∀ s ∈ (List.range M).map (sumAt rows), s.1.natAbs < 2 ^ 53 ∧ s.2.natAbs < 2 ^ 53 := by
  intro s hs
  obtain ⟨i, _, rfl⟩ := List.mem_map.1 hs
  have := sumAt_small rows h i rows.length (Nat.le_refl _)
  rw [List.take_length] at this
  omega

set_option maxRecDepth 8000 in
set_option maxHeartbeats 4000000 in
theorem add_any (X : Option Addr) (xn xc : Nat) (rs : List RW) (w : World) (hxn : xn = rs.length) (h50 : xn ≤ 50) (hX : Rws w X rs) (hrl : ∀ r ∈ rs, r.n ≤ 65536) :
    Calls Try.prog 22 #[.slice X xn xc] w (ResS w (addS (rs.map (·.l)))) := by
  have hrows : (rs.map (·.l)).length = rs.length := List.length_map _
  have hlen : longest (rs.map (·.l)) ≤ 65536 := longest_le _ _ (fun r hr => by
    obtain ⟨x, hx, rfl⟩ := List.mem_map.1 hr
    rw [← (hX.ok x hx).1]; exact hrl x hx)
  generalize hRW : rs.map (·.l) = rows at *
  obtain ⟨R, hR⟩ : ∃ R, R = addS rows := ⟨_, rfl⟩
  rw [← hR]
  have HX := Lib.hid hX; have HXN := Lib.hid hxn; have HRL := Lib.hid hrl; have HRO := Lib.hid hrows; have HLE := Lib.hid hlen; have HRW := Lib.hid hRW; have HR := Lib.hid hR
  clear hX hxn hrl hrows hlen hRW hR
  go_enter Try.func22, Try.ntmps22
  go_wp2
  go_loopw [4, 15] (fun lv i wr => ∃ k : Nat, k ≤ xn ∧ i = .int .i64 k ∧ lv = .int .i64 (longest (rows.take k) : Nat) ∧ (rows.take k).all (·.all mayS) = true ∧ Below w.heap.size w wr)
    (fun _ i _ => xn - (intOf i).toNat)
  case atStart => exact ⟨0, by omega, rfl, rfl, rfl, Below.refl _ _⟩
  case round =>
    obtain ⟨k, hk, rfl, rfl, hall, hBr⟩ := hrel
    have HALL := Lib.hid hall; clear hall
    by_cases hlt : k < xn
    · obtain ⟨b, off, r, rfl, hbl, hc0, hok, hrl, hrk⟩ := (HX.out.on hBr).at_ (k := k) (by have := HXN.out; omega)
      rw [HRW.out] at hrl
      have hn6 := HRL.out r (List.mem_of_getElem? hrk)
      have hkr : k < rows.length := by have := HXN.out; have := HRO.out; omega
      have hal := allMayBe_any r.A r.n r.c r.l wr hok.1 (by unfold maxLen; omega) hok.2.2
      have hsn := all_rows_snoc rows k hkr
      have hno := not_all_rows rows k hkr
      have hls := longest_snoc rows k hkr
      rw [hrl] at hsn hno hls
      rw [← hok.1] at hls
      have hl6 : longest (rows.take k) ≤ 65536 := Nat.le_trans (by
        have := longest_le (rows.take k) 65536 (fun r' hr' => by
          have h1 := longest_ge rows
          obtain ⟨j, hj, rfl⟩ := List.getElem_of_mem (List.mem_of_mem_take hr')
          have := h1 j hj
          rw [List.getElem?_eq_getElem hj] at this
          have hle := HLE.out
          simp at this
          omega)
        exact this) (Nat.le_refl _)
      generalize longest (rows.take k) = L0 at *
      obtain ⟨rA, rn, rc, rl⟩ := r
      dsimp only at *
      by_cases hms : rl.all mayS = true
      · rw [hms] at hal
        rw [hms, HALL.out] at hsn
        have hmx : (if (rn : Int) > (L0 : Int) then (rn : Int) else (L0 : Int)) = ((longest (rows.take (k + 1)) : Nat) : Int) := by rw [hls]; split <;> omega
        have HAL := Lib.hid hal; have HSN := Lib.hid hsn; have HMX := Lib.hid hmx
        clear hal hsn hno hls hms hmx hkr hrl hrk hok
        go_wp2_with fail
        refine HAL.out.mono ?_
        rintro e w2 ⟨rfl, hB2⟩
        go_wp2
        go_roundw
        case rel =>
          refine ⟨k + 1, by omega, by go_num, ?_, HSN.out, hBr.trans (hB2.mono hBr.size)⟩
          rw [← HMX.out]
          congr 1
          split <;> split <;> omega
        case measure => simp [intOf]; omega
      · have hmf : rl.all mayS = false := by simpa using hms
        rw [hmf] at hal
        have hr : addS rows = (31, []) := by unfold addS; rw [if_neg (by rw [hno hmf]; decide)]
        have HAL := Lib.hid hal; have HRR := Lib.hid hr
        clear hal hsn hno hls hms hmf hkr hrl hrk hok hr
        go_wp2_with fail
        refine HAL.out.mono ?_
        rintro e w2 ⟨rfl, hB2⟩
        go_wp2
        go_ret2
        rw [HR.out, HRR.out]
        exact ⟨none, 0, 0, rfl, rfl, Nat.le_refl _, fun h => absurd rfl h, hBr.trans (hB2.mono hBr.size), fun a ha => by cases ha⟩
    · obtain rfl : k = xn := by omega
      have htk : rows.take k = rows := List.take_of_length_le (by have := HXN.out; have := HRO.out; omega)
      rw [htk]
      have hall := HALL.out
      rw [htk] at hall
      have hls := HLE.out
      have hge := longest_ge rows
      have hsm := sums_small hall (by have := HXN.out; have := HRO.out; omega) (longest rows)
      obtain ⟨M, hM⟩ : ∃ M, M = longest rows := ⟨_, rfl⟩
      rw [← hM] at hls hsm
      rw [← hM]
      simp only [← hM] at hge
      obtain ⟨cs0, hcs0, hrow0, hmk⟩ := run_make_cxs M hls
      have HALL2 := Lib.hid hall; have HGE := Lib.hid hge; have HSM := Lib.hid hsm; have HM := Lib.hid hM; have HC0 := Lib.hid hcs0; have HR0 := Lib.hid hrow0
      clear hall hge hsm hM hcs0 hrow0 htk HALL
      generalize hwa : wr = wa at *
      clear hwa
      go_wp2_with (simp only [hmk])
      go_loopw [31] (fun i wr => ∃ (k2 : Nat) (cs : Array Value), k2 ≤ k ∧ i = .int .i64 k2 ∧ Blk wr wa.heap.size 63 cs ∧ cs.size = M ∧ CRow cs ((List.range M).map (sumAt (rows.take k2))) ∧ Below wa.heap.size wa wr)
        (fun i _ => k - (intOf i).toNat)
      case atStart => exact ⟨0, cs0, by omega, rfl, Blk.new wa _ _, HC0.out, by
        have h0 : (List.range M).map (sumAt (rows.take 0)) = List.replicate M (0, 0) := by
          apply List.ext_getElem
          · simp
          · intro i h1 h2; simp [sumAt]
        rw [h0]; exact HR0.out, (Below.refl _ _).alloc (Nat.le_refl _) _⟩
      case round =>
        obtain ⟨k2, cs, hk2, rfl, hblk, hsz, hrow, hBa⟩ := hrel
        have hBw := hBr.trans (hBa.mono hBr.size)
        by_cases hlt2 : k2 < k
        · obtain ⟨b, off, r, rfl, hbl, hc0, hok, hrl, hrk⟩ := (HX.out.on hBw).at_ (k := k2) (by have := HXN.out; omega)
          rw [HRW.out] at hrl
          have hn6 := HRL.out r (List.mem_of_getElem? hrk)
          have hkr : k2 < rows.length := by have := HXN.out; have := HRO.out; omega
          have hmy := rows_at HALL2.out hkr
          have hge := HGE.out k2 hkr
          have hfull := midRow_full rows M k2 hkr
          rw [hrl] at hmy hge hfull
          have hsnoc := sumAt_snoc rows k2
          rw [hrl] at hsnoc
          have hsmall := sumAt_small rows HALL2.out
          obtain ⟨rA, rn, rc, rl⟩ := r
          obtain ⟨hok1, _, hok2⟩ := hok
          -- the row lay there ahead of this call
          have hok3 : Smps w.heap.size w rA rl := by
            have := HX.out.ok _ (List.mem_of_getElem? hrk)
            exact this.2.2
          dsimp only at *
          rw [← hok1] at hge hfull
          rw [← midRow_zero] at hrow
          have HROW := Lib.hid hrow; have HMY := Lib.hid hmy; have HFULL := Lib.hid hfull; have HSNOC := Lib.hid hsnoc; have HSMALL := Lib.hid hsmall; have HOK1 := Lib.hid hok1; have HOK3 := Lib.hid hok3; have HBLK := Lib.hid hblk; have HSZ := Lib.hid hsz
          clear hrow hmy hfull hsnoc hsmall hok1 hok2 hok3 hblk hsz hrl hrk
          generalize hwb : wr = wb at *
          clear hwb
          go_wp2
          go_loopw [37] (fun i wr => ∃ (j : Nat) (cs : Array Value), j ≤ rn ∧ i = .int .i64 j ∧ Blk wr wa.heap.size 63 cs ∧ cs.size = M ∧ CRow cs (midRow rows M k2 j) ∧ Below wa.heap.size wa wr)
            (fun i _ => rn - (intOf i).toNat)
          case atStart => exact ⟨0, cs, by omega, rfl, HBLK.out, HSZ.out, HROW.out, hBa⟩
          case round =>
            obtain ⟨j, cs2, hj, rfl, hblk, hsz, hrow, hBx⟩ := hrel
            have hBw2 := hBr.trans (hBx.mono hBr.size)
            have hwr := hblk.lt
            by_cases hlt3 : j < rn
            · have hjl : j < rl.length := by have := HOK1.out; omega
              have hjM : j < M := by omega
              obtain ⟨b3, off3, he3, hbl3, hc30, hc31⟩ := (HOK3.out.below hBw2).at_ hjl
              subst he3
              have hb3s : b3 < wr.heap.size := Nat.lt_of_lt_of_le hbl3 hBw2.size
              obtain ⟨sx, sy, hcs, hsx, hsy⟩ := hrow j (by rw [midRow_length]; exact hjM)
              rw [midRow_get _ _ _ _ _ hjM, if_neg (by omega)] at hsx hsy
              have hmy := may_at HMY.out hjl
              have hsn := HSNOC.out j (by have := HXN.out; have := HRO.out; omega)
              have hsm1 := HSMALL.out j k2 (by have := HXN.out; have := HRO.out; omega)
              unfold addAt at hsn
              obtain ⟨x, y, hxy⟩ : ∃ x y, rl[j]?.getD (0, 0) = (x, y) := ⟨_, _, rfl⟩
              rw [hxy] at hc30 hc31 hmy hsn
              dsimp only at hc30 hc31 hsn
              have hms := may_small hmy
              have hnm := fun w1 => number_any x y w1 hmy
              generalize hs0 : sumAt (rows.take k2) j = s0 at *
              obtain ⟨p0, q0⟩ := s0
              dsimp only at hsx hsy hsn hsm1
              have hput := fun (a b : Nat) (ha : IsF a (p0 + x)) (hb : IsF b (q0 + y)) => hrow.put (a := a) (b := b) hjM (by omega) (by rw [hsn]; exact ha) (by rw [hsn]; exact hb)
              have hd1 := (hblk.cell j).trans hcs
              have hf1 := hblk.frozen j
              have HNM := Lib.hid hnm; have HPUT := Lib.hid hput; have HSX := Lib.hid hsx; have HSY := Lib.hid hsy; have HMS := Lib.hid hms; have HSM1 := Lib.hid hsm1
              have hsz2 : k2 ≤ 50 := by omega
              clear hnm hput hsx hsy hms hsm1 hsn hmy hxy hs0 hcs hrow hjl
              go_wp2
              have al : Below wr.heap.size wr (wr.alloc (.cells #[.int .i64 x, .int .i64 y] 38)) := (Below.refl _ _).alloc (Nat.le_refl _) _
              have kx := Blk.new wr 38 #[.int .i64 x, .int .i64 y]
              have hblk4 := hblk.on al
              have hBx4 := hBx.trans (al.mono hBx.size)
              have hneq : wr.heap.size ≠ wa.heap.size := by omega
              generalize wr.alloc (.cells #[.int .i64 x, .int .i64 y] 38) = wx at *
              obtain ⟨m1, m2, m3, m4⟩ := kx.two
              have hd4 := (hblk4.cell j).trans ((hblk.cell j).symm.trans hd1)
              have hf4 := hblk4.frozen j
              have z1 := kx.lt
              have z2 := hblk4.lt
              clear hd1 hf1
              have hBd : Below wx.heap.size wx wx.drew := (Below.refl _ _).drew
              have HNMd := Lib.hid (HNM.out wx.drew)
              have hcj : cs2[j]? = some (.complex .f64 sx sy) := by rw [← hblk4.cell j]; exact hd4
              have hkeep : ∀ W : World, Below wx.heap.size wx W → W.cell? ⟨wr.heap.size, 0, none⟩ = some (.int .i64 x) ∧ W.cell? ⟨wr.heap.size, 1, none⟩ = some (.int .i64 y) := fun W hB => by
                obtain ⟨g1, g2, _⟩ := (kx.on hB).two
                exact ⟨g1, g2⟩
              have HKP := Lib.hid hkeep; clear hkeep
              go_region_with (go_at_call 47; refine HNMd.out.mono ?_; rintro e w5 ⟨na, nb, rfl, hna, hnb, hB5'⟩; have hB5 : Below wx.heap.size wx w5 := hBd.trans hB5'; have hf5 := (hblk4.on hB5).frozen j; have hd5 := ((hblk4.on hB5).cell j).trans hcj; have z5 := (hblk4.on hB5).lt; obtain ⟨sr, si, hsum, hsr, hsi⟩ := isC_add HSX.out HSY.out hna hnb (by have := HSM1.out; have := HMS.out; omega) (by have := HSM1.out; have := HMS.out; omega); have hos := fun t w1 => run_complex_sum (P := Try.prog) w1 .add (.inl rfl) t .f64 sx sy na nb sr si hsum; have hx5 := ((kx.on hB5).far (p := ⟨wa.heap.size, j, none⟩) hneq (.complex .f64 sr si)).two; have HST : (w5.setCell ⟨wa.heap.size, j, none⟩ (.complex .f64 sr si)).cell? ⟨wr.heap.size, 0, none⟩ = some (.int .i64 x) ∧ (w5.setCell ⟨wa.heap.size, j, none⟩ (.complex .f64 sr si)).cell? ⟨wr.heap.size, 1, none⟩ = some (.int .i64 y) := ⟨hx5.1, hx5.2.1⟩; have HSR := Lib.hid hsr; have HSI := Lib.hid hsi; clear hsr hsi hsum)
              all_goals
                go_wp2
                go_roundw
                case rel =>
                  refine ⟨j + 1, _, by omega, by go_num, (hblk4.on hB5).set_ j (.complex .f64 sr si), by simpa using hsz, HPUT.out sr si HSR.out HSI.out, ?_⟩
                  exact (hBx4.trans (hB5.mono hBx4.size)).setCell (Nat.le_refl _) _
                case measure => simp [intOf]; omega
            · obtain rfl : j = rn := by omega
              rw [HFULL.out] at hrow
              have HROW2 := Lib.hid hrow; clear hrow
              go_wp2
              go_roundw
              case rel => exact ⟨k2 + 1, cs2, by omega, by go_num, hblk, hsz, HROW2.out, hBx⟩
              case measure => simp [intOf]; omega
        · obtain rfl : k2 = k := by omega
          have htk : rows.take k2 = rows := List.take_of_length_le (by have := HXN.out; have := HRO.out; omega)
          rw [htk] at hrow
          have hcx := cxs_of_blk hblk hrow
          have hsm := samples_any (some ⟨wa.heap.size, 0, none⟩) M M ((List.range M).map (sumAt rows)) wr (by simp) hls hcx HSM.out
          have hr : R = if ((List.range M).map (sumAt rows)).all mayS = true then (0, (List.range M).map (sumAt rows)) else (31, []) := by
            rw [HR.out]; unfold addS; rw [if_pos HALL2.out, ← HM.out]
          have hll : M = ((List.range M).map (sumAt rows)).length := by simp
          generalize (List.range M).map (sumAt rows) = T at *
          have HSS := Lib.hid hsm; have HRR := Lib.hid hr; have HLL := Lib.hid hll
          clear hrow hcx hsm htk hr hll
          go_wp2_with fail
          refine HSS.out.mono ?_
          rintro e w2 ⟨g, rfl, hg, hsmp, hB2⟩
          have hBw2 := hBw.trans (hB2.mono hBw.size)
          have hal := allMayBe_any (some ⟨g, 0, none⟩) M M T w2 HLL.out (by unfold maxLen; omega) hsmp
          have HAL := Lib.hid hal; have HSMP := Lib.hid hsmp
          clear hal hsmp
          by_cases hms : T.all mayS = true
          · have hal := HAL.out
            rw [hms] at hal
            have hr := HRR.out
            rw [if_pos hms] at hr
            have HAL2 := Lib.hid hal; have HR2 := Lib.hid hr
            clear hal hr hms
            go_wp2_with fail
            refine HAL2.out.mono ?_
            rintro e w3 ⟨rfl, hB3⟩
            go_wp2
            go_ret2
            rw [HR2.out]
            exact ⟨_, _, _, rfl, HLL.out, Nat.le_refl _, HSMP.out.on hB3, hBw2.trans (hB3.mono hBw2.size), fun a ha _ => by cases ha; exact Nat.le_trans hBw.size hg⟩
          · have hal := HAL.out
            have hmf : T.all mayS = false := by simpa using hms
            rw [hmf] at hal
            have hr := HRR.out
            rw [if_neg hms] at hr
            have HAL2 := Lib.hid hal; have HR2 := Lib.hid hr
            clear hal hr hms hmf
            go_wp2_with fail
            refine HAL2.out.mono ?_
            rintro e w3 ⟨rfl, hB3⟩
            go_wp2
            go_ret2
            rw [HR2.out]
            exact ⟨none, 0, 0, rfl, rfl, Nat.le_refl _, fun h => absurd rfl h, hBw2.trans (hB3.mono hBw2.size), fun a ha => by cases ha⟩
end Go.Proofs.Ytdmedhklcicpeaa
