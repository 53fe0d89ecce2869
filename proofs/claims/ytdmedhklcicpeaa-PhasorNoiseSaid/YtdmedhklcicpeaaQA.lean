/-
  Sums of rows of samples (over no program), and how rows lie in memory. No condition.
  The program's Add. Conditions: up to 50 rows that can be read, each of up to 65,536 samples.
  slices.Grow of nothing and slices.Concat over rows of samples, as the law of 'there and back' calls them. Conditions: rows that can be read, none of them nil, up to 65,536 samples together.
  What is sent is read (over no program): the bits of samples whose signs, turned back, are those of what Encode makes, with small noise, behind samples that are 0. No condition but those that each theorem names.
  PhasorNoise returns true and leaves all memory that was there as it was, for all bits, strengths and noise. Condition: bytes and noise that can be read.
  What is sent, turned by any quarters, also behind up to three samples that are 0, is found and read (over no program). No condition but those that each theorem names.
  PhasorBack returns true and leaves all memory that was there as it was, for all bits, strengths, quarters and samples ahead. Condition: bytes that can be read.
-/
import Derived.Test.YtdmedhklcicpeaaW6
import Derived.Deep.RegionHeld3
import Derived.Test.YtdmedhklcicpeaaW8
import Derived.Lib.AppendZeros
import Derived.Test.YtdmedhklcicpeaaYA
namespace Go.Proofs.Ytdmedhklcicpeaa
open Go.RowKit

/-- The sum of all rows at a place (what is not there counts as 0). -/
def addAt (i : Nat) (a : Sp) (r : List Sp) : Sp := (a.1 + (r[i]?.getD (0, 0)).1, a.2 + (r[i]?.getD (0, 0)).2)
def sumAt (rows : List (List Sp)) (i : Nat) : Sp := rows.foldl (addAt i) (0, 0)
/-- How long the longest is. -/
def longest (rows : List (List Sp)) : Nat := rows.foldl (fun a r => max a r.length) 0
/-- Add, by the document. -/
def addS (rows : List (List Sp)) : Int × List Sp :=
  if rows.all (·.all mayS) = true then
    if ((List.range (longest rows)).map (sumAt rows)).all mayS = true then (0, (List.range (longest rows)).map (sumAt rows)) else (31, [])
  else (31, [])
theorem sumAt_snoc (rows : List (List Sp)) (k i : Nat) (h : k < rows.length) : sumAt (rows.take (k + 1)) i = addAt i (sumAt (rows.take k) i) (rows[k]?.getD []) := by
  unfold sumAt
  rw [List.take_add_one, List.getElem?_eq_getElem h, List.foldl_append]
  rfl
theorem longest_snoc (rows : List (List Sp)) (k : Nat) (h : k < rows.length) : longest (rows.take (k + 1)) = max (longest (rows.take k)) (rows[k]?.getD []).length := by
  unfold longest
  rw [List.take_add_one, List.getElem?_eq_getElem h, List.foldl_append]
  rfl
theorem longest_from (rows : List (List Sp)) : ∀ a : Nat, a ≤ rows.foldl (fun a r => max a r.length) a ∧ ∀ r ∈ rows, r.length ≤ rows.foldl (fun a r => max a r.length) a := by
  induction rows with
  | nil => intro a; exact ⟨Nat.le_refl _, fun r h => by cases h⟩
  | cons x rows ih =>
    intro a
    obtain ⟨h1, h2⟩ := ih (max a x.length)
    rw [List.foldl_cons]
    refine ⟨by omega, fun r hr => ?_⟩
    rcases List.mem_cons.1 hr with rfl | hr
    · omega
    · exact h2 r hr
theorem longest_ge (rows : List (List Sp)) (k : Nat) (h : k < rows.length) : (rows[k]?.getD []).length ≤ longest rows := by
  have := (longest_from rows 0).2 (rows[k]) (List.getElem_mem h)
  rw [List.getElem?_eq_getElem h]
  exact this
theorem longest_le (rows : List (List Sp)) (B : Nat) (h : ∀ r ∈ rows, r.length ≤ B) : longest rows ≤ B := by
  have key : ∀ (rows : List (List Sp)) (a : Nat), a ≤ B → (∀ r ∈ rows, r.length ≤ B) → rows.foldl (fun a r => max a r.length) a ≤ B := by
    intro rows
    induction rows with
    | nil => intro a ha _; exact ha
    | cons x rows ih =>
      intro a ha hr
      have hx := hr x List.mem_cons_self
      exact ih (max a x.length) (by omega) (fun r h => hr r (List.mem_cons_of_mem _ h))
  exact key rows 0 (Nat.zero_le _) h
theorem get_may {r : List Sp} (h : r.all mayS = true) (i : Nat) : ((r[i]?.getD (0, 0)).1.natAbs ≤ 262144) ∧ (r[i]?.getD (0, 0)).2.natAbs ≤ 262144 := by
  by_cases hi : i < r.length
  · have := (mayS_iff _).1 (may_at h hi)
    omega
  · rw [List.getElem?_eq_none (by omega)]; decide
theorem sumAt_small (rows : List (List Sp)) (h : rows.all (·.all mayS) = true) (i : Nat) : ∀ k, k ≤ rows.length → (sumAt (rows.take k) i).1.natAbs ≤ 262144 * k ∧ (sumAt (rows.take k) i).2.natAbs ≤ 262144 * k
  | 0, _ => by simp [sumAt]
  | k + 1, hk => by
    have ih := sumAt_small rows h i k (by omega)
    rw [sumAt_snoc rows k i (by omega)]
    have hr : (rows[k]?.getD []).all mayS = true := by
      rw [List.getElem?_eq_getElem (by omega)]
      exact List.all_eq_true.1 h _ (List.getElem_mem (by omega))
    have := get_may hr i
    unfold addAt
    dsimp only
    omega
theorem all_rows_snoc (rows : List (List Sp)) (k : Nat) (h : k < rows.length) : (rows.take (k + 1)).all (·.all mayS) = ((rows.take k).all (·.all mayS) && (rows[k]?.getD []).all mayS) := by
  rw [List.take_add_one, List.getElem?_eq_getElem h, List.all_append]; simp
theorem not_all_rows (rows : List (List Sp)) (k : Nat) (h : k < rows.length) (hm : (rows[k]?.getD []).all mayS = false) : rows.all (·.all mayS) = false := by
  rw [List.all_eq_false]
  refine ⟨rows[k], List.getElem_mem h, ?_⟩
  rw [List.getElem?_eq_getElem h] at hm
  simpa using hm
theorem rows_at {rows : List (List Sp)} (h : rows.all (·.all mayS) = true) {k : Nat} (hk : k < rows.length) : (rows[k]?.getD []).all mayS = true := by
  rw [List.getElem?_eq_getElem hk]
  exact List.all_eq_true.1 h _ (List.getElem_mem hk)

/-- A row as it lies in memory. -/
structure RW where
  A : Option Addr
  n : Nat
  c : Nat
  l : List Sp
instance : Inhabited RW := ⟨⟨none, 0, 0, []⟩⟩
/-- It can be read. -/
def RWok (w : World) (r : RW) : Prop := r.n = r.l.length ∧ r.n ≤ r.c ∧ Smps w.heap.size w r.A r.l
/-- Rows, and the slice that holds them. -/
structure Rws (w : World) (X : Option Addr) (rs : List RW) : Prop where
  svs : SVs w.heap.size w X (rs.map fun r => (r.A, r.n, r.c))
  ok : ∀ r ∈ rs, RWok w r
theorem RWok.on {w w' : World} {r : RW} (h : RWok w r) (hb : Below w.heap.size w w') : RWok w' r := ⟨h.1, h.2.1, h.2.2.on hb⟩
theorem Rws.on {w w' : World} {X : Option Addr} {rs : List RW} (h : Rws w X rs) (hb : Below w.heap.size w w') : Rws w' X rs := ⟨h.svs.on hb, fun r hr => (h.ok r hr).on hb⟩
theorem Rws.at_ {w : World} {X : Option Addr} {rs : List RW} (h : Rws w X rs) {k : Nat} (hk : k < rs.length) :
    ∃ (b off : Nat) (r : RW), X = some ⟨b, off, none⟩ ∧ b < w.heap.size ∧ w.cell? ⟨b, off + k, none⟩ = some (.slice r.A r.n r.c) ∧ RWok w r ∧ (rs.map (·.l))[k]?.getD [] = r.l ∧ rs[k]? = some r := by
  obtain ⟨b, off, e, hlt, hc⟩ := h.svs.at_ (k := k) (by simpa using hk)
  refine ⟨b, off, rs[k], e, hlt, ?_, h.ok _ (List.getElem_mem hk), ?_, List.getElem?_eq_getElem hk⟩
  · rw [List.getElem?_map, List.getElem?_eq_getElem hk] at hc; exact hc
  · rw [List.getElem?_map, List.getElem?_eq_getElem hk]; rfl
end Go.Proofs.Ytdmedhklcicpeaa

namespace Go.Proofs.Ytdmedhklcicpeaa
open Go.RowKit

/-- The sums, while row k is added: up to j with it, behind without. -/
def midRow (rows : List (List Sp)) (M k j : Nat) : List Sp := (List.range M).map fun i => if i < j then sumAt (rows.take (k + 1)) i else sumAt (rows.take k) i
theorem midRow_get (rows : List (List Sp)) (M k j i : Nat) (h : i < M) : (midRow rows M k j)[i]?.getD (0, 0) = if i < j then sumAt (rows.take (k + 1)) i else sumAt (rows.take k) i := by
  unfold midRow
  rw [List.getElem?_map, List.getElem?_range h]; rfl
theorem midRow_length (rows : List (List Sp)) (M k j : Nat) : (midRow rows M k j).length = M := by simp [midRow]
theorem midRow_zero (rows : List (List Sp)) (M k : Nat) : midRow rows M k 0 = (List.range M).map (sumAt (rows.take k)) := by simp [midRow]
theorem midRow_full (rows : List (List Sp)) (M k : Nat) (hk : k < rows.length) : midRow rows M k (rows[k]?.getD []).length = (List.range M).map (sumAt (rows.take (k + 1))) := by
  unfold midRow
  apply List.map_congr_left
  intro i _
  split
  · rfl
  · rename_i h
    rw [sumAt_snoc rows k i hk]
    unfold addAt
    rw [List.getElem?_eq_none (by omega)]
    simp
theorem CRow.put {cs : Array Value} {rows : List (List Sp)} {M k j : Nat} (h : CRow cs (midRow rows M k j)) (hj : j < M) (hs : M ≤ cs.size) {a b : Nat} (ha : IsF a (sumAt (rows.take (k + 1)) j).1) (hb : IsF b (sumAt (rows.take (k + 1)) j).2) :
    CRow (cs.setIfInBounds j (.complex .f64 a b)) (midRow rows M k (j + 1)) := by
  intro i hi
  rw [midRow_length] at hi
  rw [midRow_get _ _ _ _ _ hi]
  by_cases hij : i = j
  · subst hij
    rw [if_pos (by omega)]
    exact ⟨a, b, by rw [Array.getElem?_setIfInBounds_self_of_lt (by omega)], ha, hb⟩
  · obtain ⟨x, y, h1, h2⟩ := h i (by rw [midRow_length]; exact hi)
    rw [midRow_get _ _ _ _ _ hi] at h2
    refine ⟨x, y, by rw [Array.getElem?_setIfInBounds_ne (by omega)]; exact h1, ?_⟩
    by_cases hlt : i < j
    · rw [if_pos hlt] at h2; rw [if_pos (by omega)]; exact h2
    · rw [if_neg hlt] at h2; rw [if_neg (by omega)]; exact h2
theorem sums_small {rows : List (List Sp)} (h : rows.all (·.all mayS) = true) (h50 : rows.length ≤ 50) (M : Nat) : ∀ s ∈ (List.range M).map (sumAt rows), s.1.natAbs < 2 ^ 53 ∧ s.2.natAbs < 2 ^ 53 := by
  intro s hs
  obtain ⟨i, _, rfl⟩ := List.mem_map.1 hs
  have := sumAt_small rows h i rows.length (Nat.le_refl _)
  rw [List.take_length] at this
  omega

set_option maxRecDepth 8000 in
set_option maxHeartbeats 4000000 in
theorem add_any (X : Option Addr) (xn xc : Nat) (rs : List RW) (w : World) (hxn : xn = rs.length) (h50 : xn ≤ 50) (hX : Rws w X rs) (hrl : ∀ r ∈ rs, r.n ≤ 65536) :
    Calls Try.prog 22 #[.slice X xn xc] w (ResS w (addS (rs.map (·.l)))) := by
  have hrows : (rs.map (·.l)).length = rs.length := List.length_map _
  have hlen : longest (rs.map (·.l)) ≤ 65536 := longest_le _ _ (fun r hr => by
    obtain ⟨x, hx, rfl⟩ := List.mem_map.1 hr
    rw [← (hX.ok x hx).1]; exact hrl x hx)
  generalize hRW : rs.map (·.l) = rows at *
  obtain ⟨R, hR⟩ : ∃ R, R = addS rows := ⟨_, rfl⟩
  rw [← hR]
  have HX := Lib.hid hX; have HXN := Lib.hid hxn; have HRL := Lib.hid hrl; have HRO := Lib.hid hrows; have HLE := Lib.hid hlen; have HRW := Lib.hid hRW; have HR := Lib.hid hR
  clear hX hxn hrl hrows hlen hRW hR
  go_enter Try.func22, Try.ntmps22
  go_wp2
  go_loopw [4, 15] (fun lv i wr => ∃ k : Nat, k ≤ xn ∧ i = .int .i64 k ∧ lv = .int .i64 (longest (rows.take k) : Nat) ∧ (rows.take k).all (·.all mayS) = true ∧ Below w.heap.size w wr)
    (fun _ i _ => xn - (intOf i).toNat)
  case atStart => exact ⟨0, by omega, rfl, rfl, rfl, Below.refl _ _⟩
  case round =>
    obtain ⟨k, hk, rfl, rfl, hall, hBr⟩ := hrel
    have HALL := Lib.hid hall; clear hall
    by_cases hlt : k < xn
    · obtain ⟨b, off, r, rfl, hbl, hc0, hok, hrl, hrk⟩ := (HX.out.on hBr).at_ (k := k) (by have := HXN.out; omega)
      rw [HRW.out] at hrl
      have hn6 := HRL.out r (List.mem_of_getElem? hrk)
      have hkr : k < rows.length := by have := HXN.out; have := HRO.out; omega
      have hal := allMayBe_any r.A r.n r.c r.l wr hok.1 (by unfold maxLen; omega) hok.2.2
      have hsn := all_rows_snoc rows k hkr
      have hno := not_all_rows rows k hkr
      have hls := longest_snoc rows k hkr
      rw [hrl] at hsn hno hls
      rw [← hok.1] at hls
      have hl6 : longest (rows.take k) ≤ 65536 := Nat.le_trans (by
        have := longest_le (rows.take k) 65536 (fun r' hr' => by
          have h1 := longest_ge rows
          obtain ⟨j, hj, rfl⟩ := List.getElem_of_mem (List.mem_of_mem_take hr')
          have := h1 j hj
          rw [List.getElem?_eq_getElem hj] at this
          have hle := HLE.out
          simp at this
          omega)
        exact this) (Nat.le_refl _)
      generalize longest (rows.take k) = L0 at *
      obtain ⟨rA, rn, rc, rl⟩ := r
      dsimp only at *
      by_cases hms : rl.all mayS = true
      · rw [hms] at hal
        rw [hms, HALL.out] at hsn
        have hmx : (if (rn : Int) > (L0 : Int) then (rn : Int) else (L0 : Int)) = ((longest (rows.take (k + 1)) : Nat) : Int) := by rw [hls]; split <;> omega
        have HAL := Lib.hid hal; have HSN := Lib.hid hsn; have HMX := Lib.hid hmx
        clear hal hsn hno hls hms hmx hkr hrl hrk hok
        go_wp2_with fail
        refine HAL.out.mono ?_
        rintro e w2 ⟨rfl, hB2⟩
        go_wp2
        go_roundw
        case rel =>
          refine ⟨k + 1, by omega, by go_num, ?_, HSN.out, hBr.trans (hB2.mono hBr.size)⟩
          rw [← HMX.out]
          congr 1
          split <;> split <;> omega
        case measure => simp [intOf]; omega
      · have hmf : rl.all mayS = false := by simpa using hms
        rw [hmf] at hal
        have hr : addS rows = (31, []) := by unfold addS; rw [if_neg (by rw [hno hmf]; decide)]
        have HAL := Lib.hid hal; have HRR := Lib.hid hr
        clear hal hsn hno hls hms hmf hkr hrl hrk hok hr
        go_wp2_with fail
        refine HAL.out.mono ?_
        rintro e w2 ⟨rfl, hB2⟩
        go_wp2
        go_ret2
        rw [HR.out, HRR.out]
        exact ⟨none, 0, 0, rfl, rfl, Nat.le_refl _, fun h => absurd rfl h, hBr.trans (hB2.mono hBr.size), fun a ha => by cases ha⟩
    · obtain rfl : k = xn := by omega
      have htk : rows.take k = rows := List.take_of_length_le (by have := HXN.out; have := HRO.out; omega)
      rw [htk]
      have hall := HALL.out
      rw [htk] at hall
      have hls := HLE.out
      have hge := longest_ge rows
      have hsm := sums_small hall (by have := HXN.out; have := HRO.out; omega) (longest rows)
      obtain ⟨M, hM⟩ : ∃ M, M = longest rows := ⟨_, rfl⟩
      rw [← hM] at hls hsm
      rw [← hM]
      simp only [← hM] at hge
      obtain ⟨cs0, hcs0, hrow0, hmk⟩ := run_make_cxs M hls
      have HALL2 := Lib.hid hall; have HGE := Lib.hid hge; have HSM := Lib.hid hsm; have HM := Lib.hid hM; have HC0 := Lib.hid hcs0; have HR0 := Lib.hid hrow0
      clear hall hge hsm hM hcs0 hrow0 htk HALL
      generalize hwa : wr = wa at *
      clear hwa
      go_wp2_with (simp only [hmk])
      go_loopw [31] (fun i wr => ∃ (k2 : Nat) (cs : Array Value), k2 ≤ k ∧ i = .int .i64 k2 ∧ Blk wr wa.heap.size 63 cs ∧ cs.size = M ∧ CRow cs ((List.range M).map (sumAt (rows.take k2))) ∧ Below wa.heap.size wa wr)
        (fun i _ => k - (intOf i).toNat)
      case atStart => exact ⟨0, cs0, by omega, rfl, Blk.new wa _ _, HC0.out, by
        have h0 : (List.range M).map (sumAt (rows.take 0)) = List.replicate M (0, 0) := by
          apply List.ext_getElem
          · simp
          · intro i h1 h2; simp [sumAt]
        rw [h0]; exact HR0.out, (Below.refl _ _).alloc (Nat.le_refl _) _⟩
      case round =>
        obtain ⟨k2, cs, hk2, rfl, hblk, hsz, hrow, hBa⟩ := hrel
        have hBw := hBr.trans (hBa.mono hBr.size)
        by_cases hlt2 : k2 < k
        · obtain ⟨b, off, r, rfl, hbl, hc0, hok, hrl, hrk⟩ := (HX.out.on hBw).at_ (k := k2) (by have := HXN.out; omega)
          rw [HRW.out] at hrl
          have hn6 := HRL.out r (List.mem_of_getElem? hrk)
          have hkr : k2 < rows.length := by have := HXN.out; have := HRO.out; omega
          have hmy := rows_at HALL2.out hkr
          have hge := HGE.out k2 hkr
          have hfull := midRow_full rows M k2 hkr
          rw [hrl] at hmy hge hfull
          have hsnoc := sumAt_snoc rows k2
          rw [hrl] at hsnoc
          have hsmall := sumAt_small rows HALL2.out
          obtain ⟨rA, rn, rc, rl⟩ := r
          obtain ⟨hok1, _, hok2⟩ := hok
          -- the row lay there ahead of this call
          have hok3 : Smps w.heap.size w rA rl := by
            have := HX.out.ok _ (List.mem_of_getElem? hrk)
            exact this.2.2
          dsimp only at *
          rw [← hok1] at hge hfull
          rw [← midRow_zero] at hrow
          have HROW := Lib.hid hrow; have HMY := Lib.hid hmy; have HFULL := Lib.hid hfull; have HSNOC := Lib.hid hsnoc; have HSMALL := Lib.hid hsmall; have HOK1 := Lib.hid hok1; have HOK3 := Lib.hid hok3; have HBLK := Lib.hid hblk; have HSZ := Lib.hid hsz
          clear hrow hmy hfull hsnoc hsmall hok1 hok2 hok3 hblk hsz hrl hrk
          generalize hwb : wr = wb at *
          clear hwb
          go_wp2
          go_loopw [37] (fun i wr => ∃ (j : Nat) (cs : Array Value), j ≤ rn ∧ i = .int .i64 j ∧ Blk wr wa.heap.size 63 cs ∧ cs.size = M ∧ CRow cs (midRow rows M k2 j) ∧ Below wa.heap.size wa wr)
            (fun i _ => rn - (intOf i).toNat)
          case atStart => exact ⟨0, cs, by omega, rfl, HBLK.out, HSZ.out, HROW.out, hBa⟩
          case round =>
            obtain ⟨j, cs2, hj, rfl, hblk, hsz, hrow, hBx⟩ := hrel
            have hBw2 := hBr.trans (hBx.mono hBr.size)
            have hwr := hblk.lt
            by_cases hlt3 : j < rn
            · have hjl : j < rl.length := by have := HOK1.out; omega
              have hjM : j < M := by omega
              obtain ⟨b3, off3, he3, hbl3, hc30, hc31⟩ := (HOK3.out.below hBw2).at_ hjl
              subst he3
              have hb3s : b3 < wr.heap.size := Nat.lt_of_lt_of_le hbl3 hBw2.size
              obtain ⟨sx, sy, hcs, hsx, hsy⟩ := hrow j (by rw [midRow_length]; exact hjM)
              rw [midRow_get _ _ _ _ _ hjM, if_neg (by omega)] at hsx hsy
              have hmy := may_at HMY.out hjl
              have hsn := HSNOC.out j (by have := HXN.out; have := HRO.out; omega)
              have hsm1 := HSMALL.out j k2 (by have := HXN.out; have := HRO.out; omega)
              unfold addAt at hsn
              obtain ⟨x, y, hxy⟩ : ∃ x y, rl[j]?.getD (0, 0) = (x, y) := ⟨_, _, rfl⟩
              rw [hxy] at hc30 hc31 hmy hsn
              dsimp only at hc30 hc31 hsn
              have hms := may_small hmy
              have hnm := fun w1 => number_any x y w1 hmy
              generalize hs0 : sumAt (rows.take k2) j = s0 at *
              obtain ⟨p0, q0⟩ := s0
              dsimp only at hsx hsy hsn hsm1
              have hput := fun (a b : Nat) (ha : IsF a (p0 + x)) (hb : IsF b (q0 + y)) => hrow.put (a := a) (b := b) hjM (by omega) (by rw [hsn]; exact ha) (by rw [hsn]; exact hb)
              have hd1 := (hblk.cell j).trans hcs
              have hf1 := hblk.frozen j
              have HNM := Lib.hid hnm; have HPUT := Lib.hid hput; have HSX := Lib.hid hsx; have HSY := Lib.hid hsy; have HMS := Lib.hid hms; have HSM1 := Lib.hid hsm1
              have hsz2 : k2 ≤ 50 := by omega
              clear hnm hput hsx hsy hms hsm1 hsn hmy hxy hs0 hcs hrow hjl
              go_wp2
              have al : Below wr.heap.size wr (wr.alloc (.cells #[.int .i64 x, .int .i64 y] 38)) := (Below.refl _ _).alloc (Nat.le_refl _) _
              have kx := Blk.new wr 38 #[.int .i64 x, .int .i64 y]
              have hblk4 := hblk.on al
              have hBx4 := hBx.trans (al.mono hBx.size)
              have hneq : wr.heap.size ≠ wa.heap.size := by omega
              generalize wr.alloc (.cells #[.int .i64 x, .int .i64 y] 38) = wx at *
              obtain ⟨m1, m2, m3, m4⟩ := kx.two
              have hd4 := (hblk4.cell j).trans ((hblk.cell j).symm.trans hd1)
              have hf4 := hblk4.frozen j
              have z1 := kx.lt
              have z2 := hblk4.lt
              clear hd1 hf1
              have hBd : Below wx.heap.size wx wx.drew := (Below.refl _ _).drew
              have HNMd := Lib.hid (HNM.out wx.drew)
              have hcj : cs2[j]? = some (.complex .f64 sx sy) := by rw [← hblk4.cell j]; exact hd4
              have hkeep : ∀ W : World, Below wx.heap.size wx W → W.cell? ⟨wr.heap.size, 0, none⟩ = some (.int .i64 x) ∧ W.cell? ⟨wr.heap.size, 1, none⟩ = some (.int .i64 y) := fun W hB => by
                obtain ⟨g1, g2, _⟩ := (kx.on hB).two
                exact ⟨g1, g2⟩
              have HKP := Lib.hid hkeep; clear hkeep
              go_region_with (go_at_call 47; refine HNMd.out.mono ?_; rintro e w5 ⟨na, nb, rfl, hna, hnb, hB5'⟩; have hB5 : Below wx.heap.size wx w5 := hBd.trans hB5'; have hf5 := (hblk4.on hB5).frozen j; have hd5 := ((hblk4.on hB5).cell j).trans hcj; have z5 := (hblk4.on hB5).lt; obtain ⟨sr, si, hsum, hsr, hsi⟩ := isC_add HSX.out HSY.out hna hnb (by have := HSM1.out; have := HMS.out; omega) (by have := HSM1.out; have := HMS.out; omega); have hos := fun t w1 => run_complex_sum (P := Try.prog) w1 .add (.inl rfl) t .f64 sx sy na nb sr si hsum; have hx5 := ((kx.on hB5).far (p := ⟨wa.heap.size, j, none⟩) hneq (.complex .f64 sr si)).two; have HST : (w5.setCell ⟨wa.heap.size, j, none⟩ (.complex .f64 sr si)).cell? ⟨wr.heap.size, 0, none⟩ = some (.int .i64 x) ∧ (w5.setCell ⟨wa.heap.size, j, none⟩ (.complex .f64 sr si)).cell? ⟨wr.heap.size, 1, none⟩ = some (.int .i64 y) := ⟨hx5.1, hx5.2.1⟩; have HSR := Lib.hid hsr; have HSI := Lib.hid hsi; clear hsr hsi hsum)
              all_goals
                go_wp2
                go_roundw
                case rel =>
                  refine ⟨j + 1, _, by omega, by go_num, (hblk4.on hB5).set_ j (.complex .f64 sr si), by simpa using hsz, HPUT.out sr si HSR.out HSI.out, ?_⟩
                  exact (hBx4.trans (hB5.mono hBx4.size)).setCell (Nat.le_refl _) _
                case measure => simp [intOf]; omega
            · obtain rfl : j = rn := by omega
              rw [HFULL.out] at hrow
              have HROW2 := Lib.hid hrow; clear hrow
              go_wp2
              go_roundw
              case rel => exact ⟨k2 + 1, cs2, by omega, by go_num, hblk, hsz, HROW2.out, hBx⟩
              case measure => simp [intOf]; omega
        · obtain rfl : k2 = k := by omega
          have htk : rows.take k2 = rows := List.take_of_length_le (by have := HXN.out; have := HRO.out; omega)
          rw [htk] at hrow
          have hcx := cxs_of_blk hblk hrow
          have hsm := samples_any (some ⟨wa.heap.size, 0, none⟩) M M ((List.range M).map (sumAt rows)) wr (by simp) hls hcx HSM.out
          have hr : R = if ((List.range M).map (sumAt rows)).all mayS = true then (0, (List.range M).map (sumAt rows)) else (31, []) := by
            rw [HR.out]; unfold addS; rw [if_pos HALL2.out, ← HM.out]
          have hll : M = ((List.range M).map (sumAt rows)).length := by simp
          generalize (List.range M).map (sumAt rows) = T at *
          have HSS := Lib.hid hsm; have HRR := Lib.hid hr; have HLL := Lib.hid hll
          clear hrow hcx hsm htk hr hll
          go_wp2_with fail
          refine HSS.out.mono ?_
          rintro e w2 ⟨g, rfl, hg, hsmp, hB2⟩
          have hBw2 := hBw.trans (hB2.mono hBw.size)
          have hal := allMayBe_any (some ⟨g, 0, none⟩) M M T w2 HLL.out (by unfold maxLen; omega) hsmp
          have HAL := Lib.hid hal; have HSMP := Lib.hid hsmp
          clear hal hsmp
          by_cases hms : T.all mayS = true
          · have hal := HAL.out
            rw [hms] at hal
            have hr := HRR.out
            rw [if_pos hms] at hr
            have HAL2 := Lib.hid hal; have HR2 := Lib.hid hr
            clear hal hr hms
            go_wp2_with fail
            refine HAL2.out.mono ?_
            rintro e w3 ⟨rfl, hB3⟩
            go_wp2
            go_ret2
            rw [HR2.out]
            exact ⟨_, _, _, rfl, HLL.out, Nat.le_refl _, HSMP.out.on hB3, hBw2.trans (hB3.mono hBw2.size), fun a ha _ => by cases ha; exact Nat.le_trans hBw.size hg⟩
          · have hal := HAL.out
            have hmf : T.all mayS = false := by simpa using hms
            rw [hmf] at hal
            have hr := HRR.out
            rw [if_neg hms] at hr
            have HAL2 := Lib.hid hal; have HR2 := Lib.hid hr
            clear hal hr hms hmf
            go_wp2_with fail
            refine HAL2.out.mono ?_
            rintro e w3 ⟨rfl, hB3⟩
            go_wp2
            go_ret2
            rw [HR2.out]
            exact ⟨none, 0, 0, rfl, rfl, Nat.le_refl _, fun h => absurd rfl h, hBw2.trans (hB3.mono hBw2.size), fun a ha => by cases ha⟩
end Go.Proofs.Ytdmedhklcicpeaa

namespace Go.Proofs.Ytdmedhklcicpeaa
open Go.RowKit

theorem smps_cells {n₀ : Nat} {w : World} {a : Addr} {l : List Sp} (h : Smps n₀ w (some a) l) (j : Nat) (u : Value) (hj : (cellsS l)[j]? = some u) : w.cell? (a.add j) = some u := by
  have hjl : j < l.length * 2 := by
    rcases Nat.lt_or_ge j (l.length * 2) with h | h
    · exact h
    · rw [List.getElem?_eq_none (by rw [cellsS_length]; exact h)] at hj; cases hj
  have hk : j / 2 < l.length := by omega
  obtain ⟨b, off, e, _, h0, h1⟩ := h.at_ hk
  injection e with e
  subst e
  obtain ⟨g0, g1⟩ := cellsS_get l (j / 2) hk
  rw [addr_add]
  rcases Nat.mod_two_eq_zero_or_one j with hm | hm
  · have ej : j = j / 2 * 2 := by omega
    rw [ej] at hj
    rw [g0] at hj
    rw [ej, h0]; exact hj
  · have ej : j = j / 2 * 2 + 1 := by omega
    rw [ej] at hj
    rw [g1] at hj
    rw [ej, show off + (j / 2 * 2 + 1) = off + j / 2 * 2 + 1 by omega, h1]; exact hj

/-- append(nil, make([]T, n)...), for the walk. -/
theorem wpList_append_nil_zeros {P : Program} (w : World) {ops : Array Oper} {rest : List Oper} {o : Oper} {a : Act} {Q : Exit → Act → World → Prop} (hgd : o.guard = none) (s x : Operand) (t tn : TypeId)
    (ho : o.op = .call { callee := .builtin .append, args := #[s, x], argTypes := #[t, tn] }) (e : TypeId) (i : TypeInfo) (z : Value) (kq kn : IntKind) (size : Nat) (ht : P.underlying t = some (.slice e)) (htn : P.underlying tn = some (.int kn)) (hi : P.info? e = some i) (hz : i.zero = some z)
    (hsize : i.size = size) (hzs : z.cells.size = size) (n : Nat) (h0 : 0 < n) (hs0 : 0 < size) (h63 : n ≤ maxLen) (h48 : n * i.bytes ≤ 281474976710656) (hs : a.eval s = .slice none 0 0) (hx : a.eval x = .int kq n)
    (h : ∀ cap cur, n ≤ cap → cap ≤ maxLen → cur.size = cap * size → wpList P ops Q rest (a.put o.dst (.slice (some ⟨w.heap.size, 0, none⟩) n cap)) (w.drew.alloc (.cells cur e))) : wpList P ops Q (o :: rest) a w := by
  refine wpList_plain hgd fun K hK => ?_
  have hrun := Lib.run_append_nil_zeros (P := P) w t tn o.type e i z kq kn ht htn hi hz n h0 (by omega) (by unfold maxLen at h63; omega) h48
  have hge := grownCap_ge w n 0 e
  have hle := grownCap_le_maxLen w n 0 e h63
  unfold Oper.wp
  simp [execOp, ho, resolve, invoke, builtin, hs, hx, hrun, Result.andThen]
  refine hK _ _ (h _ _ hge hle ?_)
  rw [Array.size_append, size_zeroCells, size_zeroCells, hzs, ← Nat.add_mul]
  congr 1
  omega

set_option maxRecDepth 4000 in
set_option maxHeartbeats 1000000 in
theorem grow_any (k : Nat) (w : World) (h0 : 0 < k) (hk : k ≤ 65536) :
    Calls Try.prog 61 #[.slice none 0 0, .int .i64 k] w fun e w' => ∃ v, e = .returned v ∧ w'.ownsRow w.heap.size 38 2 v 0 [] ∧ Below w.heap.size w w' := by
  obtain ⟨i0, hi, hz0, hz1, hz2⟩ := info_parts Try.infoS
  have hd0 : decide ((k : Int) < 0) = false := by simp
  have hd1 : decide (0 < (k : Int)) = true := by simp; omega
  have hd2 : decide (0 < k) = true := by simpa using h0
  go_enter Try.func61, Try.ntmps61
  go_wp2_with (at_builtin; refine wpList_append_nil_zeros _ rfl _ _ 25 3 rfl 38 i0 _ .i64 .i64 2 Try.underlying25 Try.underlying3 hi hz0 hz1 rfl k h0 (by decide) (by unfold maxLen; omega) (by rw [hz2]; omega) rfl rfl ?_; intro cap cur hc1 hc2 hc3)
  go_ret
  refine ⟨_, rfl, ⟨rfl, .inr ⟨w.heap.size, cap, cur, rfl, Nat.le_refl _, heap_alloc_new w.drew _, Nat.zero_le _, hc2, hc3, rfl⟩⟩, ?_⟩
  exact (Below.refl w.heap.size w).drew.alloc (Nat.le_refl _) _

def totalS (rs : List RW) : Nat := (rs.flatMap (·.l)).length
theorem flat_snoc (rs : List RW) (k : Nat) (r : RW) (h : rs[k]? = some r) : (rs.take (k + 1)).flatMap (·.l) = (rs.take k).flatMap (·.l) ++ r.l := by
  rw [List.take_add_one, h, List.flatMap_append]
  simp
theorem flat_le (rs : List RW) (k : Nat) : ((rs.take k).flatMap (·.l)).length ≤ totalS rs := by
  unfold totalS
  have e : rs.flatMap (·.l) = (rs.take k).flatMap (·.l) ++ (rs.drop k).flatMap (·.l) := by rw [← List.flatMap_append, List.take_append_drop]
  rw [e, List.length_append]; omega

set_option maxRecDepth 4000 in
set_option maxHeartbeats 2000000 in
/-- slices.Concat: all rows, one behind the other. -/
theorem concat_any (X : Option Addr) (xn xc : Nat) (rs : List RW) (w : World) (hxn : xn = rs.length) (hxm : xn ≤ 50) (hX : Rws w X rs) (hsome : ∀ r ∈ rs, ∃ a, r.A = some a) (ht0 : 0 < totalS rs) (ht1 : totalS rs ≤ 65536) :
    Calls Try.prog 33 #[.slice X xn xc] w fun e w' => ∃ A n c, e = .returned (.slice A n c) ∧ n = (rs.flatMap (·.l)).length ∧ n ≤ c ∧ Smps w'.heap.size w' A (rs.flatMap (·.l)) ∧ Below w.heap.size w w' := by
  have HX := Lib.hid hX; have HXN := Lib.hid hxn; have HSO := Lib.hid hsome
  clear hX hxn hsome
  obtain ⟨i0, hi, hz0, hz1, hz2⟩ := info_parts Try.infoS
  go_enter Try.func33, Try.ntmps33
  go_wp2
  go_loopw [3, 11] (fun sv i wr => ∃ k : Nat, k ≤ xn ∧ i = .int .i64 k ∧ sv = .int .i64 (((rs.take k).flatMap (·.l)).length : Nat) ∧ w = wr)
    (fun _ i _ => xn - (intOf i).toNat)
  case atStart => exact ⟨0, by omega, rfl, rfl, rfl⟩
  case round =>
    obtain ⟨k, hk, rfl, rfl, rfl⟩ := hrel
    have hfl := flat_le rs k
    by_cases hlt : k < xn
    · obtain ⟨b, off, r, rfl, hbl, hc0, hok, _, hrk⟩ := HX.out.at_ (k := k) (by have := HXN.out; omega)
      have hsn := flat_snoc rs k r hrk
      have hfl2 := flat_le rs (k + 1)
      have hls : ((rs.take (k + 1)).flatMap (·.l)).length = ((rs.take k).flatMap (·.l)).length + r.n := by rw [hsn, List.length_append, hok.1]
      rw [hls] at hfl2
      generalize ((rs.take k).flatMap (·.l)).length = t at *
      obtain ⟨rA, rn, rc, rl⟩ := r
      dsimp only at *
      have hwt : IntKind.i64.wrap ((t : Int) + (rn : Int)) = ((t + rn : Nat) : Int) := by rw [IntWalk.i64_in _ (by omega)]; omega
      have hd0 : decide (((t + rn : Nat) : Int) < 0) = false := by simp; omega
      have HLS := Lib.hid hls
      clear hsn hls hok hrk
      go_wp2
      go_roundw
      case rel => exact ⟨k + 1, by omega, by go_num, by rw [HLS.out]; simp, trivial⟩
      case measure => simp [intOf]; omega
    · obtain rfl : k = xn := by omega
      have htk : rs.take k = rs := List.take_of_length_le (by have := HXN.out; omega)
      rw [htk]
      rw [htk] at hfl
      obtain ⟨t, ht⟩ : ∃ t, t = (rs.flatMap (·.l)).length := ⟨_, rfl⟩
      rw [← ht]
      have hgr := grow_any t w (by rw [ht]; exact ht0) (by rw [ht]; exact ht1)
      have HGR := Lib.hid hgr; have HT := Lib.hid ht
      clear hgr ht hfl htk
      go_wp2_with fail
      refine HGR.out.mono ?_
      rintro e w1 ⟨v1, rfl, hown1, hB1⟩
      go_wp2
      go_loopw [6, 27] (fun ov i wr => ∃ k2 : Nat, k2 ≤ k ∧ i = .int .i64 k2 ∧ wr.ownsRow w.heap.size 38 2 ov ((rs.take k2).flatMap (·.l)).length (cellsS ((rs.take k2).flatMap (·.l))) ∧ Below w.heap.size w wr)
        (fun _ i _ => k - (intOf i).toNat)
      case atStart => exact ⟨0, by omega, rfl, hown1, hB1⟩
      case round =>
        obtain ⟨k2, hk2, rfl, hrow, hBr⟩ := hrel
        have hfl2 := flat_le rs k2
        by_cases hlt2 : k2 < k
        · obtain ⟨b, off, r, rfl, hbl, hc0, hok, _, hrk⟩ := (HX.out.on hBr).at_ (k := k2) (by have := HXN.out; omega)
          have hsn := flat_snoc rs k2 r hrk
          have hfl3 := flat_le rs (k2 + 1)
          rw [hsn, List.length_append] at hfl3
          obtain ⟨ra, hra⟩ := HSO.out r (List.mem_of_getElem? hrk)
          obtain ⟨rA, rn, rc, rl⟩ := r
          dsimp only at *
          subst hra
          obtain ⟨hok1, _, hok2⟩ := hok
          dsimp only at *
          have hcl := smps_cells hok2
          have HSN := Lib.hid hsn; have HCL := Lib.hid hcl; have HOK1 := Lib.hid hok1
          rw [← hok1] at hfl3
          have hcs : (cellsS rl).length = rn * 2 := by rw [cellsS_length, hok1]
          have HCS := Lib.hid hcs
          clear hsn hcl hok1 hok2 hrk hcs
          go_wp2_with (at_builtin; refine wpList_append_own _ rfl _ _ 25 rfl w.heap.size 38 i0 (.agg #[.int .i64 0, .int .i64 0]) 2 16 Try.underlying25 hi hz0 hz1 hz2 rfl (by decide) u6 _ _ rfl hrow ra rn rc (cellsS rl) rfl HCS.out HCL.out (cellsS_one rl) (by unfold maxLen; omega) (by omega) hBr.size ?_; intro v' w3 hown' hgrow _)
          go_roundw
          case rel =>
            refine ⟨k2 + 1, by omega, by go_num, ?_, hBr.trans (own_grown_low2 hrow hgrow hBr.size)⟩
            rw [HSN.out, List.length_append, cellsS_append, ← HOK1.out]
            exact hown'
          case measure => simp [intOf]; omega
        · obtain rfl : k2 = k := by omega
          have htk : rs.take k2 = rs := List.take_of_length_le (by have := HXN.out; omega)
          rw [htk] at hrow
          obtain ⟨OA, oc, hv, hS⟩ := smps_of_own hrow
          subst hv
          have hcap := own_cap hrow
          have HS := Lib.hid hS
          clear hS hrow
          go_wp2
          go_ret
          exact ⟨OA, _, oc, rfl, rfl, hcap, HS.out, hBr⟩
end Go.Proofs.Ytdmedhklcicpeaa

namespace Go.Proofs.Ytdmedhklcicpeaa
open Go.RowKit

theorem numBits_succ (v W : Nat) : numBits v (W + 1) = v.testBit W :: numBits v W := by
  unfold numBits
  rw [List.range_succ_eq_map, List.map_cons, List.map_map]
  congr 1
  apply List.map_congr_left
  intro i _
  show v.testBit (W + 1 - 1 - (i + 1)) = v.testBit (W - 1 - i)
  congr 1
  omega
theorem mod_pow_succ (x i : Nat) : x % 2 ^ (i + 1) = x % 2 ^ i + 2 ^ i * (x.testBit i).toNat := by
  rw [Nat.pow_succ, Nat.mod_mul, Nat.testBit_eq_decide_div_mod_eq]
  congr 2
  rcases Nat.mod_two_eq_zero_or_one (x / 2 ^ i) with h | h <;> rw [h] <;> rfl
theorem numBits_from (v W : Nat) : ∀ a : Nat, (numBits v W).foldl (fun a b => 2 * a + b.toNat) a = a * 2 ^ W + v % 2 ^ W := by
  induction W with
  | zero => intro a; simp [numBits, Nat.mod_one]
  | succ W ih =>
    intro a
    rw [numBits_succ, List.foldl_cons, ih, mod_pow_succ, Nat.pow_succ]
    rw [Nat.add_mul, Nat.mul_comm (2 ^ W) 2, ← Nat.mul_assoc, Nat.mul_comm a 2, Nat.mul_comm (2 ^ W) (v.testBit W).toNat]
    omega
theorem num_back (v W : Nat) (h : v / 2 ^ W = 0) : numOf (numBits v W) = v := by
  unfold numOf
  rw [numBits_from]
  have hp : 0 < 2 ^ W := Nat.pos_of_ne_zero (by simp)
  have hlt : v < 2 ^ W := by
    rcases Nat.lt_or_ge v (2 ^ W) with h1 | h1
    · exact h1
    · have := Nat.div_pos h1 hp; omega
  rw [Nat.mod_eq_of_lt hlt]; omega

/-- The two bits of a sample, by its signs. -/
def bitsU (u : Sp) : List Bool := [decide (u.2 < 0), decide (u.1 < 0)]
theorem bitsU_two (a b : Bool) : bitsU (twoS a b 1) = [a, b] := by cases a <;> cases b <;> rfl
theorem bitsU_pairs : ∀ l : List Bool, (pairsS 1 l).flatMap bitsU = l ++ List.replicate (l.length % 2) false
  | [] => rfl
  | [a] => by simp [pairsS, bitsU_two]
  | a :: b :: l => by
    have := bitsU_pairs l
    simp only [pairsS, List.flatMap_cons, bitsU_two, this, List.cons_append, List.nil_append]
    rw [show (a :: b :: l).length % 2 = l.length % 2 by simp; omega]
theorem bitsS_of (q : Int) : ∀ (D V : List Sp), D.length = V.length → (∀ i, i < V.length → bits1 q (D[i]?.getD (0, 0)) = bitsU (V[i]?.getD (0, 0))) → bitsS D q = V.flatMap bitsU
  | [], [], _, _ => rfl
  | [], v :: V, h, _ => by simp at h
  | d :: D, [], h, _ => by simp at h
  | d :: D, v :: V, h, hp => by
    have h0 := hp 0 (by simp)
    have ht := bitsS_of q D V (by simpa using h) (fun i hi => hp (i + 1) (by simpa using hi))
    unfold bitsS at ht ⊢
    rw [List.flatMap_cons, List.flatMap_cons, ht]
    congr 1
theorem all_of {D : List Sp} (h : ∀ i, i < D.length → mayS (D[i]?.getD (0, 0)) = true) : D.all mayS = true := by
  rw [List.all_eq_true]
  intro s hs
  obtain ⟨i, hi, rfl⟩ := List.getElem_of_mem hs
  have := h i hi
  rw [List.getElem?_eq_getElem hi] at this
  exact this
/-- What stands behind the preamble. -/
def behindL (l : List Bool) : List Sp := pairsS 1 (numBits l.length 12) ++ pairsS 1 l
theorem behindL_length (l : List Bool) : (behindL l).length = 6 + (l.length + 1) / 2 := by
  simp [behindL, pairsS_length, numBits_length]
theorem decD_of {D : List Sp} {q : Int} {l : List Bool} (hl : l.length ≤ 4095) (hD : D.length = (behindL l).length) (hm : ∀ i, i < D.length → mayS (D[i]?.getD (0, 0)) = true)
    (hb : ∀ i, i < (behindL l).length → bits1 q (D[i]?.getD (0, 0)) = bitsU ((behindL l)[i]?.getD (0, 0))) : decD D q = (0, l) := by
  have hlen := behindL_length l
  have h6 : (pairsS 1 (numBits l.length 12)).length = 6 := by rw [pairsS_length, numBits_length]
  have e6 : (behindL l).take 6 = pairsS 1 (numBits l.length 12) := by unfold behindL; rw [← h6, List.take_left]
  have hall : ∀ k, (D.take k).all mayS = true := fun k => all_of (fun i hi => by
    rw [List.length_take] at hi
    rw [List.getElem?_take_of_lt (by omega)]; exact hm i (by omega))
  have hb6 : bitsS (D.take 6) q = numBits l.length 12 := by
    rw [bitsS_of q (D.take 6) ((behindL l).take 6) (by rw [List.length_take, List.length_take, hD]) (fun i hi => by
      rw [List.length_take] at hi
      rw [List.getElem?_take_of_lt (by omega), List.getElem?_take_of_lt (by omega)]; exact hb i (by omega)), e6, bitsU_pairs, numBits_length]
    simp
  have hn : l.length = numOf (bitsS (D.take 6) q) := by rw [hb6, num_back _ _ (Nat.div_eq_of_lt (by omega))]
  have hK : D.take (6 + (l.length + 1) / 2) = D := List.take_of_length_le (by omega)
  have hbD : bitsS D q = numBits l.length 12 ++ (l ++ List.replicate (l.length % 2) false) := by
    rw [bitsS_of q D (behindL l) hD hb]
    unfold behindL
    rw [List.flatMap_append, bitsU_pairs, bitsU_pairs, numBits_length]
    simp
  rw [dec_fin q hn (by omega) (hall _), hK, hbD]
  have h12 : (numBits l.length 12).length = 12 := numBits_length _ _
  have e1 : (numBits l.length 12 ++ (l ++ List.replicate (l.length % 2) false))[12 + l.length]?.getD false = false := by
    rw [List.getElem?_append_right (by omega), h12, List.getElem?_append_right (by omega), show 12 + l.length - 12 - l.length = 0 by omega]
    rcases Nat.mod_two_eq_zero_or_one l.length with h | h <;> rw [h] <;> rfl
  have e2 : (numBits l.length 12 ++ (l ++ List.replicate (l.length % 2) false)).drop 12 = l ++ List.replicate (l.length % 2) false := by
    have := List.drop_left (l₁ := numBits l.length 12) (l₂ := l ++ List.replicate (l.length % 2) false)
    rwa [h12] at this
  rw [if_neg (by rw [e1]; decide), e2, List.take_left]

/-- A sample that is amp times u, with noise of up to h in each part. -/
def Near (amp h : Int) (u s : Sp) : Prop := ∃ e1 e2 : Int, s = (u.1 * amp + e1, u.2 * amp + e2) ∧ (-h ≤ e1 ∧ e1 ≤ h) ∧ -h ≤ e2 ∧ e2 ≤ h
/-- One of the four. -/
def Unit4 (u : Sp) : Prop := (u.1 = 1 ∨ u.1 = -1) ∧ (u.2 = 1 ∨ u.2 = -1)
theorem near_bits {amp h : Int} {u s : Sp} (hu : Unit4 u) (hn : Near amp h u s) (hlt : h < amp) : [decide (s.2 < 0), decide (s.1 < 0)] = bitsU u := by
  obtain ⟨e1, e2, rfl, ⟨a1, a2⟩, b1, b2⟩ := hn
  obtain ⟨u1, u2⟩ := u
  obtain ⟨h1, h2⟩ := hu
  dsimp only at *
  unfold bitsU
  rcases h1 with rfl | rfl <;> rcases h2 with rfl | rfl <;> simp <;> omega
theorem near_may {amp h : Int} {u s : Sp} (hu : Unit4 u) (hn : Near amp h u s) (h8 : 8 * h ≤ amp) (h0 : 0 ≤ h) (ha : amp ≤ 65536) : mayS s = true := by
  obtain ⟨e1, e2, rfl, ⟨a1, a2⟩, b1, b2⟩ := hn
  obtain ⟨u1, u2⟩ := u
  obtain ⟨h1, h2⟩ := hu
  rw [mayS_iff]
  dsimp only at *
  rcases h1 with rfl | rfl <;> rcases h2 with rfl | rfl <;> omega
theorem two_unit (a b : Bool) : Unit4 (twoS a b 1) := by cases a <;> cases b <;> simp [Unit4, twoS]
theorem pairs_unit4 : ∀ l : List Bool, ∀ u ∈ pairsS 1 l, Unit4 u
  | [], u, h => by simp [pairsS] at h
  | [a], u, h => by simp [pairsS] at h; subst h; exact two_unit _ _
  | a :: b :: l, u, h => by
    simp only [pairsS, List.mem_cons] at h
    rcases h with rfl | h
    · exact two_unit _ _
    · exact pairs_unit4 l u h
theorem behind_unit4 (l : List Bool) (i : Nat) (h : i < (behindL l).length) : Unit4 ((behindL l)[i]?.getD (0, 0)) := by
  rw [List.getElem?_eq_getElem h]
  have hm := List.getElem_mem h
  unfold behindL at hm
  rcases List.mem_append.1 hm with hm | hm
  · exact pairs_unit4 _ _ hm
  · exact pairs_unit4 _ _ hm
theorem pre_unit4 (k : Nat) (h : k < 8) : Unit4 (pre[k]?.getD (0, 0)) := pre_at k h

theorem sq_mono {x B : Int} (h0 : -B ≤ x) (h1 : x ≤ B) : 0 ≤ x * x ∧ x * x ≤ B * B := by
  constructor
  · rcases Int.le_total 0 x with h | h
    · exact Int.mul_nonneg h h
    · have := Int.mul_nonneg (show 0 ≤ -x by omega) (show 0 ≤ -x by omega)
      rwa [Int.neg_mul_neg] at this
  · rcases Int.le_total 0 x with h | h
    · exact Int.mul_le_mul h1 h1 h (by omega)
    · have := Int.mul_le_mul (show -x ≤ B by omega) (show -x ≤ B by omega) (show 0 ≤ -x by omega) (by omega : (0 : Int) ≤ B)
      rwa [Int.neg_mul_neg] at this
theorem sq_ge {x B : Int} (h0 : 0 ≤ B) (h : B ≤ x ∨ x ≤ -B) : B * B ≤ x * x := by
  rcases h with h | h
  · exact Int.mul_le_mul h h h0 (by omega)
  · have := Int.mul_le_mul (show B ≤ -x by omega) (show B ≤ -x by omega) h0 (show 0 ≤ -x by omega)
    rwa [Int.neg_mul_neg] at this
theorem mul_pm (x p : Int) (h : p = 1 ∨ p = -1) : x * p = x ∧ p = 1 ∨ x * p = -x ∧ p = -1 := by
  rcases h with rfl | rfl
  · left; simp
  · right; simp
/-- The product and the strength of a preamble with noise. -/
theorem corr_near {W : List Sp} {amp h : Int} (h0 : 0 ≤ h) (hlt : h < amp) (hW : ∀ k, k < 8 → Near amp h (pre[k]?.getD (0, 0)) (W[k]?.getD (0, 0))) :
    ∀ k : Nat, k ≤ 8 → (2 * (k * (amp - h)) ≤ (corrS W k).1 ∧ (corrS W k).1 ≤ 2 * (k * (amp + h))) ∧ (-(2 * (k * h)) ≤ (corrS W k).2.1 ∧ (corrS W k).2.1 ≤ 2 * (k * h)) ∧ 2 * (k : Int) ≤ (corrS W k).2.2 ∧ (corrS W k).2.2 ≤ 2 * (k * ((amp + h) * (amp + h)))
  | 0, _ => by simp [corrS]
  | k + 1, hk => by
    have ih := corr_near h0 hlt hW k (by omega)
    obtain ⟨e1, e2, hs, ⟨a1, a2⟩, b1, b2⟩ := hW k (by omega)
    obtain ⟨hp1, hp2⟩ := pre_unit4 k (by omega)
    unfold corrS accS
    rw [hs]
    generalize pre[k]?.getD (0, 0) = p at *
    generalize corrS W k = c at *
    obtain ⟨p1, p2⟩ := p
    obtain ⟨c1, c2, c3⟩ := c
    dsimp only at *
    have x1 : -(amp + h) ≤ p1 * amp + e1 ∧ p1 * amp + e1 ≤ amp + h := by rcases hp1 with rfl | rfl <;> omega
    have x2 : -(amp + h) ≤ p2 * amp + e2 ∧ p2 * amp + e2 ≤ amp + h := by rcases hp2 with rfl | rfl <;> omega
    have y1 : 1 ≤ p1 * amp + e1 ∨ p1 * amp + e1 ≤ -1 := by rcases hp1 with rfl | rfl <;> omega
    have y2 : 1 ≤ p2 * amp + e2 ∨ p2 * amp + e2 ≤ -1 := by rcases hp2 with rfl | rfl <;> omega
    have s1 := sq_mono x1.1 x1.2
    have s2 := sq_mono x2.1 x2.2
    have t1 := sq_ge (B := 1) (by decide) y1
    have t2 := sq_ge (B := 1) (by decide) y2
    generalize (p1 * amp + e1) * (p1 * amp + e1) = X at *
    generalize (p2 * amp + e2) * (p2 * amp + e2) = Y at *
    generalize (amp + h) * (amp + h) = B at *
    have k1 : ((k + 1 : Nat) : Int) * (amp - h) = (k : Int) * (amp - h) + (amp - h) := by push_cast; rw [Int.add_mul]; omega
    have k2 : ((k + 1 : Nat) : Int) * (amp + h) = (k : Int) * (amp + h) + (amp + h) := by push_cast; rw [Int.add_mul]; omega
    have k3 : ((k + 1 : Nat) : Int) * h = (k : Int) * h + h := by push_cast; rw [Int.add_mul]; omega
    have k4 : ((k + 1 : Nat) : Int) * B = (k : Int) * B + B := by push_cast; rw [Int.add_mul]; omega
    rw [k1, k2, k3, k4]
    generalize (k : Int) * (amp - h) = K1 at *
    generalize (k : Int) * (amp + h) = K2 at *
    generalize (k : Int) * h = K3 at *
    generalize (k : Int) * B = K4 at *
    rcases hp1 with rfl | rfl <;> rcases hp2 with rfl | rfl <;> simp only [Int.mul_one, Int.one_mul, Int.mul_neg, Int.neg_mul] <;> refine ⟨⟨?_, ?_⟩, ⟨?_, ?_⟩, ?_, ?_⟩ <;> omega
theorem noise_bound {amp h : Int} (h0 : 0 ≤ h) (h8 : 8 * h ≤ amp) : (amp + h) * (amp + h) ≤ 2 * ((amp - h) * (amp - h)) := by
  obtain ⟨r, hr⟩ : ∃ r, amp = 8 * h + r := ⟨amp - 8 * h, by omega⟩
  have hr0 : 0 ≤ r := by omega
  subst hr
  have e1 : 8 * h + r + h = 9 * h + r := by omega
  have e2 : 8 * h + r - h = 7 * h + r := by omega
  rw [e1, e2]
  have a1 : (9 * h + r) * (9 * h + r) = 81 * (h * h) + 18 * (h * r) + r * r := by
    rw [Int.add_mul, Int.mul_add, Int.mul_add, Int.mul_assoc 9 h (9 * h), Int.mul_left_comm h 9 h, Int.mul_assoc 9 h r, Int.mul_left_comm r 9 h, Int.mul_comm r h]; omega
  have a2 : (7 * h + r) * (7 * h + r) = 49 * (h * h) + 14 * (h * r) + r * r := by
    rw [Int.add_mul, Int.mul_add, Int.mul_add, Int.mul_assoc 7 h (7 * h), Int.mul_left_comm h 7 h, Int.mul_assoc 7 h r, Int.mul_left_comm r 7 h, Int.mul_comm r h]; omega
  rw [a1, a2]
  have b1 := Int.mul_nonneg h0 h0
  have b2 := Int.mul_nonneg h0 hr0
  have b3 := Int.mul_nonneg hr0 hr0
  omega
/-- A preamble with noise is one, not turned. -/
theorem near_match {W : List Sp} {amp h : Int} (h0 : 0 ≤ h) (h8 : 8 * h ≤ amp) (ha : 1 ≤ amp) (hW : ∀ k, k < 8 → Near amp h (pre[k]?.getD (0, 0)) (W[k]?.getD (0, 0))) :
    0 < (corrS W 8).2.2 ∧ 16 * (corrS W 8).2.2 ≤ 2 * ((corrS W 8).1 * (corrS W 8).1 + (corrS W 8).2.1 * (corrS W 8).2.1) ∧ 0 < (corrS W 8).1 ∧ (-(corrS W 8).1 ≤ (corrS W 8).2.1 ∧ (corrS W 8).2.1 ≤ (corrS W 8).1) ∧ (h = 0 → (corrS W 8).2.1 = 0) := by
  obtain ⟨⟨c1, _⟩, ⟨d1, d2⟩, n1, n2⟩ := corr_near h0 (by omega) hW 8 (by omega)
  generalize corrS W 8 = c at *
  obtain ⟨x, y, n⟩ := c
  dsimp only at *
  have hb := noise_bound h0 h8
  have hx : 16 * (amp - h) ≤ x := by omega
  have hs := sq_ge (x := x) (B := 16 * (amp - h)) (by omega) (.inl hx)
  have he : 16 * (amp - h) * (16 * (amp - h)) = 256 * ((amp - h) * (amp - h)) := by
    rw [Int.mul_assoc, Int.mul_left_comm (amp - h) 16]; omega
  rw [he] at hs
  have hy := (sq_mono (x := y) (B := 2 * (8 * h)) (by omega) (by omega)).1
  generalize (amp + h) * (amp + h) = P at *
  generalize (amp - h) * (amp - h) = M at *
  refine ⟨by omega, by omega, by omega, by omega, fun h => by omega⟩

/-- All that is sent. -/
def sigL (l : List Bool) : List Sp := pre ++ behindL l
theorem sigL_length (l : List Bool) : (sigL l).length = 14 + (l.length + 1) / 2 := by
  unfold sigL; rw [List.length_append, behindL_length]; simp [pre]; omega
theorem encL_sigL (l : List Bool) (amp : Int) : encL l amp = (sigL l).map (scale amp) := by
  unfold encL sigL behindL; rw [List.append_assoc]
theorem sig_pre (l : List Bool) (k : Nat) (h : k < 8) : (sigL l)[k]?.getD (0, 0) = pre[k]?.getD (0, 0) := by
  unfold sigL
  rw [List.getElem?_append_left (by simpa [pre] using h)]
theorem sig_behind (l : List Bool) (k : Nat) : (sigL l)[8 + k]?.getD (0, 0) = (behindL l)[k]?.getD (0, 0) := by
  unfold sigL
  rw [List.getElem?_append_right (by simp [pre]), show 8 + k - pre.length = k by simp [pre]]
/-- What is received of a signal with noise: the bits that were sent. -/
theorem receive_near {T : List Sp} {l : List Bool} {amp h : Int} (h0 : 0 ≤ h) (h8 : 8 * h ≤ amp) (ha : 1 ≤ amp) (ha2 : amp ≤ 65536) (hl : l.length ≤ 4095) (hT : T.length = (sigL l).length)
    (hn : ∀ i, i < T.length → Near amp h ((sigL l)[i]?.getD (0, 0)) (T[i]?.getD (0, 0))) : receiveS T = (0, l) := by
  have hlen := sigL_length l
  have hW : ∀ k, k < 8 → Near amp h (pre[k]?.getD (0, 0)) (((T.drop 0).take 8)[k]?.getD (0, 0)) := fun k hk => by
    rw [List.drop_zero, List.getElem?_take_of_lt hk, ← sig_pre l k hk]
    exact hn k (by omega)
  have hm : ∀ k, k < 8 → mayS (((T.drop 0).take 8)[k]?.getD (0, 0)) = true := fun k hk => near_may (pre_unit4 k hk) (hW k hk) h8 h0 ha2
  have hall : ((T.drop 0).take 8).all mayS = true := all_of (fun i hi => hm i (by rw [List.length_take] at hi; omega))
  obtain ⟨m1, m2, m3, m4, _⟩ := near_match h0 h8 ha hW
  have hmat : matchS T ((0 : Nat) : Int) = (((corrS ((T.drop 0).take 8) 8).1, (corrS ((T.drop 0).take 8) 8).2.1), (corrS ((T.drop 0).take 8) 8).2.2, true) := by
    unfold matchS
    rw [if_neg (by rw [Int.toNat_natCast, hall]; rintro (h | h | h) <;> first | omega | cases h)]
    dsimp only
    rw [Int.toNat_natCast, decide_eq_true m1, decide_eq_true m2]
    rfl
  have hq : quartS ((corrS ((T.drop 0).take 8) 8).1, (corrS ((T.drop 0).take 8) 8).2.1) = 0 := by
    unfold quartS absS
    dsimp only
    rw [if_pos ⟨m3, by split <;> omega⟩]
  have hfind : findS T ((0 : Nat) : Int) = (((0 : Nat) : Int), 0, 0) := by
    rw [find_some T 0 0 (Nat.le_refl _) (by omega) (fun j _ h => by omega) (by rw [hmat]), hmat, hq]
  unfold receiveS
  have hf2 : findS T 0 = (0, 0, 0) := hfind
  rw [hf2]
  rw [if_pos rfl]
  have hdec := decode_decD T 0 0 (by omega)
  have hdec2 : decodeS T 0 0 = decD (T.drop (0 + 8)) 0 := hdec
  rw [hdec2]
  refine decD_of hl (by rw [List.length_drop, hT, hlen, behindL_length]; omega) ?_ ?_
  · intro i hi
    rw [List.length_drop] at hi
    have hi' : i < (behindL l).length := by rw [behindL_length]; omega
    rw [List.getElem?_drop, show 0 + 8 + i = 8 + i by omega]
    have := hn (8 + i) (by omega)
    rw [sig_behind] at this
    exact near_may (behind_unit4 l i hi') this h8 h0 ha2
  · intro i hi
    have hi2 := hi
    rw [behindL_length] at hi2
    rw [List.getElem?_drop, show 0 + 8 + i = 8 + i by omega]
    have := hn (8 + i) (by omega)
    rw [sig_behind] at this
    exact near_bits (behind_unit4 l i hi) this (by omega)

theorem corr_scale (W : List Sp) (amp : Int) : ∀ k, corrS (W.map (scale amp)) k = ((corrS W k).1 * amp, (corrS W k).2.1 * amp, (corrS W k).2.2 * (amp * amp))
  | 0 => by simp [corrS]
  | k + 1 => by
    have hg : (W.map (scale amp))[k]?.getD (0, 0) = scale amp (W[k]?.getD (0, 0)) := by
      rw [List.getElem?_map]
      cases W[k]? with
      | none => simp [scale]
      | some s => rfl
    unfold corrS
    rw [corr_scale W amp k, hg]
    unfold accS scale
    generalize corrS W k = c
    generalize W[k]?.getD (0, 0) = s
    generalize pre[k]?.getD (0, 0) = p
    obtain ⟨c1, c2, c3⟩ := c
    obtain ⟨x, y⟩ := s
    obtain ⟨p1, p2⟩ := p
    dsimp only
    have a1 : x * amp * p1 = x * p1 * amp := by rw [Int.mul_right_comm]
    have a2 : y * amp * p2 = y * p2 * amp := by rw [Int.mul_right_comm]
    have a3 : y * amp * p1 = y * p1 * amp := by rw [Int.mul_right_comm]
    have a4 : x * amp * p2 = x * p2 * amp := by rw [Int.mul_right_comm]
    have a5 : x * amp * (x * amp) = x * x * (amp * amp) := by rw [Int.mul_assoc, Int.mul_left_comm amp x amp, ← Int.mul_assoc]
    have a6 : y * amp * (y * amp) = y * y * (amp * amp) := by rw [Int.mul_assoc, Int.mul_left_comm amp y amp, ← Int.mul_assoc]
    rw [a1, a2, a3, a4, a5, a6]
    refine Prod.ext ?_ (Prod.ext ?_ ?_)
    · dsimp only; rw [Int.add_mul, Int.add_mul]
    · dsimp only; rw [Int.add_mul, Int.sub_mul]
    · dsimp only; rw [Int.add_mul, Int.add_mul]
end Go.Proofs.Ytdmedhklcicpeaa

namespace Go.Proofs.Ytdmedhklcicpeaa
open Go.RowKit

/-- Numbers of 16 bits in memory. -/
def U16s (n₀ : Nat) (W : World) (A : Option Addr) (zs : List Nat) : Prop :=
  zs ≠ [] → ∃ b off, A = some ⟨b, off, none⟩ ∧ b < n₀ ∧ ∀ j, j < zs.length → W.cell? ⟨b, off + j, none⟩ = some (.int .u16 (zs[j]?.getD 0 : Nat))
theorem U16s.below {n₀ : Nat} {W W' : World} {A : Option Addr} {l : List Nat} (h : U16s n₀ W A l) (hb : Below n₀ W W') : U16s n₀ W' A l := fun hn => by
  obtain ⟨b, off, e, hlt, hc⟩ := h hn
  exact ⟨b, off, e, hlt, fun j hj => (hb.cell (p := ⟨b, off + j, none⟩) hlt).trans (hc j hj)⟩
theorem U16s.at_ {n₀ : Nat} {W : World} {A : Option Addr} {l : List Nat} (h : U16s n₀ W A l) {k : Nat} (hk : k < l.length) :
    ∃ b off, A = some ⟨b, off, none⟩ ∧ b < n₀ ∧ W.cell? ⟨b, off + k, none⟩ = some (.int .u16 (l[k]?.getD 0 : Nat)) := by
  obtain ⟨b, off, e, hlt, hc⟩ := h (by rintro rfl; simp at hk)
  exact ⟨b, off, e, hlt, hc k hk⟩
/-- The noise at a place. -/
def noiseAt (zs : List Nat) (i : Nat) : Nat := if 0 < zs.length then zs[i % zs.length]?.getD 0 else 0
def noiseS (m z : Nat) : Sp := (((z % 256 * (2 * m + 1) / 256 : Nat) : Int) - m, ((z / 256 * (2 * m + 1) / 256 : Nat) : Int) - m)
def noiseL (zs : List Nat) (m len : Nat) : List Sp := (List.range len).map fun i => noiseS m (noiseAt zs i)
theorem noise_small (m z : Nat) (hz : z < 65536) : (-(m : Int) ≤ (noiseS m z).1 ∧ (noiseS m z).1 ≤ m) ∧ -(m : Int) ≤ (noiseS m z).2 ∧ (noiseS m z).2 ≤ m := by
  unfold noiseS
  dsimp only
  have h1 : z % 256 * (2 * m + 1) ≤ 255 * (2 * m + 1) := Nat.mul_le_mul_right _ (by omega)
  have h2 : z / 256 * (2 * m + 1) ≤ 255 * (2 * m + 1) := Nat.mul_le_mul_right _ (by omega)
  generalize z % 256 * (2 * m + 1) = a at *
  generalize z / 256 * (2 * m + 1) = b at *
  omega
theorem noiseAt_small {zs : List Nat} (h : ∀ z ∈ zs, z < 65536) (i : Nat) : noiseAt zs i < 65536 := by
  unfold noiseAt
  split
  · rename_i h0
    have hi : i % zs.length < zs.length := Nat.mod_lt _ h0
    rw [List.getElem?_eq_getElem hi]
    exact h _ (List.getElem_mem hi)
  · decide
theorem noiseL_length (zs : List Nat) (m len : Nat) : (noiseL zs m len).length = len := by simp [noiseL]
theorem noiseL_get (zs : List Nat) (m len i : Nat) (h : i < len) : (noiseL zs m len)[i]?.getD (0, 0) = noiseS m (noiseAt zs i) := by
  unfold noiseL; rw [List.getElem?_map, List.getElem?_range h]; rfl
theorem noiseL_snoc (zs : List Nat) (m len k : Nat) (h : k < len) : (noiseL zs m len).take (k + 1) = (noiseL zs m len).take k ++ [noiseS m (noiseAt zs k)] := by
  rw [List.take_add_one]
  unfold noiseL
  rw [List.getElem?_map, List.getElem?_range h]; rfl
/-- What is heard: the signal and the noise. -/
theorem add_two {S N : List Sp} (hl : S.length = N.length) (hS : S.all mayS = true) (hN : N.all mayS = true) (hT : ∀ i, i < S.length → mayS ((S[i]?.getD (0, 0)).1 + (N[i]?.getD (0, 0)).1, (S[i]?.getD (0, 0)).2 + (N[i]?.getD (0, 0)).2) = true) :
    addS [S, N] = (0, (List.range S.length).map fun i => ((S[i]?.getD (0, 0)).1 + (N[i]?.getD (0, 0)).1, (S[i]?.getD (0, 0)).2 + (N[i]?.getD (0, 0)).2)) := by
  have hlo : longest [S, N] = S.length := by simp [longest, hl]
  have hsum : sumAt [S, N] = fun i => ((S[i]?.getD (0, 0)).1 + (N[i]?.getD (0, 0)).1, (S[i]?.getD (0, 0)).2 + (N[i]?.getD (0, 0)).2) := by
    funext i; simp [sumAt, addAt]
  unfold addS
  rw [if_pos (by simp [hS, hN]), hlo, hsum, if_pos]
  rw [List.all_eq_true]
  intro s hs
  obtain ⟨i, hi, rfl⟩ := List.mem_map.1 hs
  exact hT i (List.mem_range.1 hi)

theorem sig_unit4 (l : List Bool) (i : Nat) (h : i < (sigL l).length) : Unit4 ((sigL l)[i]?.getD (0, 0)) := by
  by_cases h8 : i < 8
  · rw [sig_pre l i h8]; exact pre_unit4 i h8
  · obtain ⟨j, rfl⟩ : ∃ j, i = 8 + j := ⟨i - 8, by omega⟩
    rw [sig_behind]
    exact behind_unit4 l j (by rw [behindL_length]; rw [sigL_length] at h; omega)
theorem scale_get (L : List Sp) (amp : Int) (i : Nat) : (L.map (scale amp))[i]?.getD (0, 0) = scale amp (L[i]?.getD (0, 0)) := by
  rw [List.getElem?_map]
  cases L[i]? with
  | none => simp [scale]
  | some s => rfl
theorem sig_may (l : List Bool) (amp : Int) (ha : 1 ≤ amp) (ha2 : amp ≤ 65536) : ((sigL l).map (scale amp)).all mayS = true := all_of (fun i hi => by
  rw [List.length_map] at hi
  rw [scale_get]
  exact near_may (h := 0) (sig_unit4 l i hi) ⟨0, 0, by simp [scale], by decide, by decide⟩ (by omega) (by decide) ha2)
theorem heard (l : List Bool) (amp : Int) (m : Nat) (zs : List Nat) (hl : l.length ≤ 4095) (ha : 1 ≤ amp) (ha2 : amp ≤ 65536) (hm : amp / 8 = (m : Int)) (hzs : ∀ z ∈ zs, z < 65536) :
    ∃ T, addS [(sigL l).map (scale amp), noiseL zs m (sigL l).length] = (0, T) ∧ T.length = (sigL l).length ∧ receiveS T = (0, l) := by
  have hm8 : 8 * (m : Int) ≤ amp := by omega
  have hN : (noiseL zs m (sigL l).length).all mayS = true := all_of (fun i hi => by
    rw [noiseL_length] at hi
    rw [noiseL_get _ _ _ _ hi, mayS_iff]
    have := noise_small m _ (noiseAt_small hzs i)
    omega)
  have hnear : ∀ i, i < (sigL l).length → Near amp m ((sigL l)[i]?.getD (0, 0)) (((((sigL l).map (scale amp))[i]?.getD (0, 0)).1 + ((noiseL zs m (sigL l).length)[i]?.getD (0, 0)).1, (((sigL l).map (scale amp))[i]?.getD (0, 0)).2 + ((noiseL zs m (sigL l).length)[i]?.getD (0, 0)).2)) := fun i hi => by
    rw [scale_get, noiseL_get _ _ _ _ hi]
    obtain ⟨⟨a1, a2⟩, b1, b2⟩ := noise_small m _ (noiseAt_small hzs i)
    exact ⟨_, _, rfl, ⟨a1, a2⟩, b1, b2⟩
  have hadd := add_two (S := (sigL l).map (scale amp)) (N := noiseL zs m (sigL l).length) (by rw [List.length_map, noiseL_length]) (sig_may l amp ha ha2) hN (fun i hi => by
    rw [List.length_map] at hi
    exact near_may (sig_unit4 l i hi) (hnear i hi) hm8 (by omega) ha2)
  refine ⟨_, hadd, by simp, ?_⟩
  refine receive_near (amp := amp) (h := m) (by omega) hm8 ha ha2 hl (by simp) (fun i hi => ?_)
  have hi' : i < (sigL l).length := by simpa using hi
  rw [List.getElem?_map, List.getElem?_range (by rw [List.length_map]; exact hi')]
  exact hnear i hi'
theorem two_svs {w : World} {g : Nat} {x y : SV} {t : TypeId} (h : Blk w g t #[.slice x.1 x.2.1 x.2.2, .slice y.1 y.2.1 y.2.2]) : SVs w.heap.size w (some ⟨g, 0, none⟩) [x, y] := fun _ =>
  ⟨g, 0, rfl, h.lt, fun j hj => by
    have hj2 : j < 2 := by simpa using hj
    match j, hj2 with
    | 0, _ => exact h.cell 0
    | 1, _ => exact h.cell 1⟩

set_option maxRecDepth 8000 in
set_option maxHeartbeats 4000000 in
theorem noise_law (N amp : Int) (A Z : Option Addr) (n c zn zc : Nat) (bs : List UInt8) (zs : List Nat) (w : World) (hn : n = bs.length) (hm : n ≤ maxLen) (hA : Byt w.heap.size w A bs)
    (hzn : zn = zs.length) (hzm : zn ≤ maxLen) (hZ : U16s w.heap.size w Z zs) (hzs : ∀ z ∈ zs, z < 65536) :
    Calls Try.prog 8 #[.agg #[.int .i64 N, .slice A n c], .int .i64 amp, .slice Z zn zc] w fun e w' => e = .returned (.bool true) ∧ Below w.heap.size w w' := by
  have hBb : Below w.heap.size w (w.alloc (.cells #[.int .i64 N, .slice A n c] 24)) := (Below.refl _ _).alloc (Nat.le_refl _) _
  have hen := encode_any N amp A n c bs _ hn hm (hA.on hBb)
  have kb := Blk.new w 24 #[.int .i64 N, .slice A n c]
  have HBG := Lib.hid begun_any
  have HA := Lib.hid hA; have HN := Lib.hid hn; have HZ := Lib.hid hZ; have HZN := Lib.hid hzn; have HZS := Lib.hid hzs
  clear hA hn hm hZ hzn hzs
  by_cases hok : goodB N bs = true ∧ (1 ≤ amp ∧ amp ≤ 65536) ∧ N ≤ 4095
  · obtain ⟨hg, ⟨ha0, ha1⟩, hN5⟩ := hok
    have he : encodeS N bs amp = (0, encL (listOf N bs) amp) := by unfold encodeS; rw [if_pos hg, if_pos ⟨ha0, ha1⟩, if_pos hN5]
    rw [he] at hen
    have hgl := good_length hg
    have hib := good_isBits hg
    generalize listOf N bs = l at *
    have hl5 : l.length ≤ 4095 := by omega
    subst hgl
    have hel := encL_length l amp
    rw [encL_sigL] at hen hel
    obtain ⟨len, hlen⟩ : ∃ len, len = 14 + (l.length + 1) / 2 := ⟨_, rfl⟩
    rw [← hlen] at hel
    have hlen6 : len ≤ 65536 := by omega
    obtain ⟨m, hm8⟩ : ∃ m : Nat, amp / 8 = (m : Int) := ⟨(amp / 8).toNat, by omega⟩
    have hmq : IntKind.i64.wrap (amp.tdiv 8) = (m : Int) := by rw [Int.tdiv_eq_ediv_of_nonneg (by omega), IntWalk.i64_in _ (by omega), hm8]
    have hm13 : m ≤ 8192 := by omega
    have HEN := Lib.hid hen; have HIB := Lib.hid hib; have HEL := Lib.hid hel; have HM8 := Lib.hid hm8; have HLEN := Lib.hid hlen
    clear hen hib hel hm8 hlen hg he hN5
    obtain ⟨i0, hi, hz0, hz1, hz2⟩ := info_parts Try.infoS
    go_enter Try.func8, Try.ntmps8
    go_wp2_with fail
    refine HEN.out.mono ?_
    rintro e w1 ⟨SA, sn, sc, rfl, hsn, hsc, hS, hB1, _⟩
    dsimp only at hsn hS
    rw [HEL.out] at hsn
    subst hsn
    have kb1 := kb.on hB1
    have b1 := hBb.trans (hB1.mono hBb.size)
    have HS := Lib.hid hS; clear hS
    dsimp only
    go_wp2_with fail
    refine (HBG.out _).mono ?_
    rintro e w2 ⟨rfl, hB2⟩
    have kb2 := kb1.on hB2
    have b2 := b1.trans (hB2.mono b1.size)
    have HS2 := Lib.hid (HS.out.on hB2)
    go_wp2
    go_loopw [10, 33] (fun ov i wr => ∃ k : Nat, k ≤ sn ∧ i = .int .i64 k ∧ wr.ownsRow w2.heap.size 38 2 ov k (cellsS ((noiseL zs m sn).take k)) ∧ Below w2.heap.size w2 wr)
      (fun _ i _ => sn - (intOf i).toNat)
    case atStart => exact ⟨0, by omega, rfl, World.ownsRow_nil _ _ _ _, Below.refl _ _⟩
    case round =>
      obtain ⟨k, hk, rfl, hrow, hBr⟩ := hrel
      have hBw := b2.trans (hBr.mono b2.size)
      by_cases hlt : k < sn
      · have hsn := noiseL_snoc zs m sn k hlt
        have hz6 := noiseAt_small HZS.out k
        have hna : noiseAt zs k = if 0 < zs.length then zs[k % zs.length]?.getD 0 else 0 := rfl
        generalize noiseAt zs k = z at *
        by_cases hz : 0 < zn
        · have hzl : 0 < zs.length := by rw [← HZN.out]; exact hz
          rw [if_pos hzl] at hna
          obtain ⟨bz, offz, hZe, hzlt, hzc⟩ := (HZ.out.below hBw).at_ (k := k % zs.length) (Nat.mod_lt _ hzl)
          rw [← hna] at hzc
          rw [← HZN.out] at hzc
          have hkz : k % zn < zn := Nat.mod_lt _ hz
          have hkz2 : (k : Int) % (zn : Int) < (zn : Int) := Int.emod_lt_of_pos _ (by omega)
          have hbz : bz < wr.heap.size := Nat.lt_of_lt_of_le hzlt hBw.size
          have hd0 : decide (0 < (zn : Int)) = true := by simp; omega
          have hd1 : decide (0 < zn) = true := by simpa using hz
          have HSN := Lib.hid hsn
          clear hsn hna hzl
          unfold maxLen at hzm
          subst hZe
          have hp1 : z % 256 * (2 * m + 1) ≤ 255 * (2 * m + 1) := Nat.mul_le_mul_right _ (by omega)
          have hp2 : z / 256 * (2 * m + 1) ≤ 255 * (2 * m + 1) := Nat.mul_le_mul_right _ (by omega)
          have hc1 : (z : Int) % 256 * (2 * (m : Int) + 1) = ((z % 256 * (2 * m + 1) : Nat) : Int) := by push_cast; rfl
          have hc2 : (z : Int) / 256 * (2 * (m : Int) + 1) = ((z / 256 * (2 * m + 1) : Nat) : Int) := by push_cast; rfl
          have hns : noiseS m z = (((z % 256 * (2 * m + 1) / 256 : Nat) : Int) - m, ((z / 256 * (2 * m + 1) / 256 : Nat) : Int) - m) := rfl
          have hw1 : IntKind.i64.wrap ((z : Int) % 256 * (2 * (m : Int) + 1)) = ((z % 256 * (2 * m + 1) : Nat) : Int) := by rw [hc1, IntWalk.i64_in _ (by omega)]
          have hw2 : IntKind.i64.wrap ((z : Int) / 256 * (2 * (m : Int) + 1)) = ((z / 256 * (2 * m + 1) : Nat) : Int) := by rw [hc2, IntWalk.i64_in _ (by omega)]
          generalize z % 256 * (2 * m + 1) = P1 at *
          generalize z / 256 * (2 * m + 1) = P2 at *
          have hw3 : IntKind.i64.wrap ((P1 : Int) / 256) = ((P1 / 256 : Nat) : Int) := by rw [IntWalk.i64_in _ (by omega)]; omega
          have hw4 : IntKind.i64.wrap ((P2 : Int) / 256) = ((P2 / 256 : Nat) : Int) := by rw [IntWalk.i64_in _ (by omega)]; omega
          obtain ⟨d1, hd1'⟩ : ∃ d, d = P1 / 256 := ⟨_, rfl⟩
          obtain ⟨d2, hd2'⟩ : ∃ d, d = P2 / 256 := ⟨_, rfl⟩
          rw [← hd1'] at hw3 hns
          rw [← hd2'] at hw4 hns
          have hw5 : IntKind.i64.wrap ((d1 : Int) - (m : Int)) = (d1 : Int) - (m : Int) := IntWalk.i64_in _ (by omega)
          have hw6 : IntKind.i64.wrap ((d2 : Int) - (m : Int)) = (d2 : Int) - (m : Int) := IntWalk.i64_in _ (by omega)
          have hsn2 := HSN.out
          rw [hns] at hsn2
          have HSN := Lib.hid hsn2
          clear hp1 hp2 hc1 hc2 hns hsn2 hd1' hd2'
          go_wp2_with (at_builtin; refine wpList_append_own _ rfl _ _ 25 rfl w2.heap.size 38 i0 (.agg #[.int .i64 0, .int .i64 0]) 2 16 Try.underlying25 hi hz0 hz1 hz2 rfl (by decide) u10 _ _ rfl (hrow.alloc _) ⟨wr.heap.size, 0, none⟩ 1 1 [.int .i64 ((d1 : Int) - (m : Int)), .int .i64 ((d2 : Int) - (m : Int))] rfl rfl (cell_two_new _ _ _ _) (by simp [Value.oneCell']) (by unfold maxLen; omega) (by omega) (by simp; have := hBr.size; omega) ?_; intro v' w3 hown' hgrow _)
          go_roundw
          case rel =>
            refine ⟨k + 1, by omega, by go_num, ?_, own_below hrow hgrow hBr (Nat.le_refl _) hBr.size⟩
            rw [HSN.out, cellsS_append]
            exact hown'
          case measure => simp [intOf]; omega
        · rw [if_neg (by rw [← HZN.out]; exact hz)] at hna
          subst hna
          have hns : noiseS m 0 = (-(m : Int), -(m : Int)) := by simp [noiseS]
          rw [hns] at hsn
          have HSN := Lib.hid hsn
          have hd0 : decide (0 < (zn : Int)) = false := by simp; omega
          have hd1 : decide (0 < zn) = false := by simpa using hz
          clear hsn hns
          go_wp2_with (at_builtin; refine wpList_append_own _ rfl _ _ 25 rfl w2.heap.size 38 i0 (.agg #[.int .i64 0, .int .i64 0]) 2 16 Try.underlying25 hi hz0 hz1 hz2 rfl (by decide) u10 _ _ rfl (hrow.alloc _) ⟨wr.heap.size, 0, none⟩ 1 1 [.int .i64 (-(m : Int)), .int .i64 (-(m : Int))] rfl rfl (cell_two_new _ _ _ _) (by simp [Value.oneCell']) (by unfold maxLen; omega) (by omega) (by simp; have := hBr.size; omega) ?_; intro v' w3 hown' hgrow _)
          go_roundw
          case rel =>
            refine ⟨k + 1, by omega, by go_num, ?_, own_below hrow hgrow hBr (Nat.le_refl _) hBr.size⟩
            rw [HSN.out, cellsS_append]
            exact hown'
          case measure => simp [intOf]; omega
      · obtain rfl : k = sn := by omega
        have htk : (noiseL zs m k).take k = noiseL zs m k := List.take_of_length_le (by rw [noiseL_length]; omega)
        rw [htk] at hrow
        obtain ⟨NA, nc, hv, hNS⟩ := smps_of_own hrow
        rw [noiseL_length] at hv
        subst hv
        have hncap := own_cap hrow
        obtain ⟨T, hT, hTl, hTr⟩ := heard l amp m zs hl5 ha0 ha1 HM8.out HZS.out
        have hsl : (sigL l).length = k := by have := HEL.out; rw [List.length_map] at this; exact this
        rw [hsl] at hT hTl
        have al : Below wr.heap.size wr (wr.alloc (.cells #[.slice SA k sc, .slice NA k nc] 25)) := (Below.refl _ _).alloc (Nat.le_refl _) _
        have kx := Blk.new wr 25 #[.slice SA k sc, .slice NA k nc]
        have b3 := hBw.trans (al.mono hBw.size)
        have hrws : Rws (wr.alloc (.cells #[.slice SA k sc, .slice NA k nc] 25)) (some ⟨wr.heap.size, 0, none⟩) [⟨SA, k, sc, (sigL l).map (scale amp)⟩, ⟨NA, k, nc, noiseL zs m k⟩] := ⟨two_svs (x := (SA, k, sc)) (y := (NA, k, nc)) kx, fun r hr => by
          rcases List.mem_cons.1 hr with rfl | hr
          · exact ⟨HEL.out.symm, hsc, (HS2.out.on hBr).on al⟩
          · rcases List.mem_cons.1 hr with rfl | hr
            · exact ⟨(noiseL_length _ _ _).symm, hncap, hNS.on al⟩
            · cases hr⟩
        have hadd := add_any (some ⟨wr.heap.size, 0, none⟩) 2 2 _ _ rfl (by decide) hrws (fun r hr => by
          rcases List.mem_cons.1 hr with rfl | hr
          · exact hlen6
          · rcases List.mem_cons.1 hr with rfl | hr
            · exact hlen6
            · cases hr)
        rw [show List.map (fun r : RW => r.l) [⟨SA, k, sc, (sigL l).map (scale amp)⟩, ⟨NA, k, nc, noiseL zs m k⟩] = [(sigL l).map (scale amp), noiseL zs m k] from rfl, hT] at hadd
        have hrc := fun (B : Option Addr) (bn bc : Nat) (W : World) (h1 : bn = T.length) (h2 : bn ≤ bc) (h3 : Smps W.heap.size W B T) => receive_any B bn bc T W h1 (by omega) h2 h3
        rw [hTr] at hrc
        have HADD := Lib.hid hadd; have HRC := Lib.hid hrc; have HTL := Lib.hid hTl
        have kb3 := (kb2.on hBr).on al
        clear hadd hrc hTl hT hTr hrws kx hNS hrow htk hsl
        go_wp2_with fail
        refine HADD.out.mono ?_
        rintro e w4 ⟨TA, tn, tc, rfl, htn, htc, hTS, hB4, _⟩
        have b4 := b3.trans (hB4.mono b3.size)
        have kb4 := kb3.on hB4
        have HTN := Lib.hid htn; have HTS := Lib.hid hTS
        clear htn hTS
        dsimp only
        go_wp2_with fail
        refine (HRC.out TA tn tc _ HTN.out htc HTS.out).mono ?_
        rintro e w5 ⟨A5, n5, c5, bs5, rfl, hn5, hi5, _, hA5, hB5, _⟩
        have b5 := b4.trans (hB5.mono b4.size)
        have kb5 := kb4.on hB5
        have HN5 := Lib.hid hn5; have HI5 := Lib.hid hi5; have HA5 := Lib.hid hA5
        clear hn5 hi5 hA5
        dsimp only
        have al5 : Below w5.heap.size w5 (w5.alloc (.cells #[.int .i64 l.length, .slice A5 n5 c5] 24)) := (Below.refl _ _).alloc (Nat.le_refl _) _
        have kb6 := kb5.on al5
        have b6 := b5.trans (al5.mono b5.size)
        obtain ⟨p1, p2, _⟩ := kb5.two
        have y1 := kb5.lt
        go_wp2_with fail
        refine (same_res l A A5 n n5 c c5 bs bs5 _ HN.out HN5.out HIB.out HI5.out (HA.out.on b6) (HA5.out.on al5)).mono ?_
        rintro e w7 ⟨rfl, hB7⟩
        go_wp2
        go_ret
        exact ⟨rfl, b6.trans (hB7.mono b6.size)⟩
  · have he : (encodeS N bs amp).1 ≠ 0 := by
      unfold encodeS
      by_cases h1 : goodB N bs = true
      · rw [if_pos h1]
        by_cases h2 : 1 ≤ amp ∧ amp ≤ 65536
        · rw [if_pos h2, if_neg (fun h3 => hok ⟨h1, h2, h3⟩)]; decide
        · rw [if_neg h2]; decide
      · rw [if_neg h1]; decide
    generalize encodeS N bs amp = E at *
    obtain ⟨ee, el⟩ := E
    dsimp only at he
    have hne : (ee != 0) = true := by simpa using he
    have hne2 : (ee == 0) = false := by simpa using he
    have HEN := Lib.hid hen
    clear hen hok he
    go_enter Try.func8, Try.ntmps8
    go_wp2_with fail
    refine HEN.out.mono ?_
    rintro e w1 ⟨SA, sn, sc, rfl, _, _, _, hB1, _⟩
    have b1 := hBb.trans (hB1.mono hBb.size)
    dsimp only
    go_wp2_with fail
    refine (HBG.out _).mono ?_
    rintro e w2 ⟨rfl, hB2⟩
    have b2 := b1.trans (hB2.mono b1.size)
    go_wp2_with fail
    refine (HBG.out _).mono ?_
    rintro e w3 ⟨rfl, hB3⟩
    go_wp2
    go_ret
    exact ⟨rfl, b2.trans (hB3.mono b2.size)⟩
end Go.Proofs.Ytdmedhklcicpeaa

namespace Go.Proofs.Ytdmedhklcicpeaa
open Go.RowKit

theorem match_turn1 {l : List Sp} (h : l.all mayS = true) (q at_ : Int) : (matchS (l.map (turn1 · q)) at_).1 = turn1 (matchS l at_).1 q := by
  unfold matchS
  have h8 : ((l.drop at_.toNat).take 8).all mayS = true := by
    rw [List.all_eq_true] at h ⊢
    exact fun s hs => h s (List.mem_of_mem_drop (List.mem_of_mem_take hs))
  have e8 : ((l.map (turn1 · q)).drop at_.toNat).take 8 = ((l.drop at_.toNat).take 8).map (turn1 · q) := by rw [List.map_take, List.map_drop]
  rw [e8, turn_all h8 q, h8, List.length_map]
  by_cases hc : at_ < 0 ∨ (l.length : Int) - 8 < at_
  · rw [if_pos (by rcases hc with h | h <;> simp [h]), if_pos (by rcases hc with h | h <;> simp [h])]
    exact (turn1_zero q).symm
  · have hc' : ¬ (at_ < 0 ∨ (l.length : Int) - 8 < at_ ∨ true = false) := by simp; omega
    rw [if_neg hc', if_neg hc']
    dsimp only
    rw [corr_turn]
theorem quart_turn (x q : Int) (hx : 0 < x) : quartS (turn1 (x, 0) q) = q % 4 := by
  have hq : q % 4 = 0 ∨ q % 4 = 1 ∨ q % 4 = 2 ∨ q % 4 = 3 := by omega
  unfold turn1
  rcases hq with h | h | h | h <;> rw [h] <;> simp [quartS, absS] <;> omega
/-- What is sent behind z samples that are 0. -/
def lateL (l : List Bool) (amp : Int) (z : Nat) : List Sp := List.replicate z (0, 0) ++ (sigL l).map (scale amp)
theorem late_length (l : List Bool) (amp : Int) (z : Nat) : (lateL l amp z).length = z + (14 + (l.length + 1) / 2) := by
  unfold lateL; rw [List.length_append, List.length_replicate, List.length_map, sigL_length]
theorem late_may (l : List Bool) (amp : Int) (z : Nat) (ha : 1 ≤ amp) (ha2 : amp ≤ 65536) : (lateL l amp z).all mayS = true := by
  unfold lateL
  rw [List.all_append, sig_may l amp ha ha2, Bool.and_true, List.all_eq_true]
  intro s hs
  rw [List.eq_of_mem_replicate hs]; rfl
theorem late_scale (l : List Bool) (amp : Int) (z : Nat) : lateL l amp z = (List.replicate z (0, 0) ++ sigL l).map (scale amp) := by
  unfold lateL
  rw [List.map_append, List.map_replicate, show scale amp (0, 0) = (0, 0) by simp [scale]]
theorem late_window (l : List Bool) (z k : Nat) (hk : k ≤ z) : ((List.replicate z (0, 0) ++ sigL l).drop k).take 8 = (List.replicate (z - k) ((0, 0) : Sp) ++ pre).take 8 := by
  rw [List.drop_append_of_le_length (by rw [List.length_replicate]; exact hk), List.drop_replicate]
  unfold sigL
  rw [← List.append_assoc, List.take_append_of_le_length (by rw [List.length_append, List.length_replicate]; simp [pre])]
theorem sq_scale (c amp : Int) : c * amp * (c * amp) = c * c * (amp * amp) := by rw [Int.mul_assoc, Int.mul_left_comm amp c amp, ← Int.mul_assoc]
/-- No preamble begins ahead of it. -/
theorem late_early (l : List Bool) (amp : Int) (z k : Nat) (ha : 1 ≤ amp) (hz : z ≤ 3) (hk : k < z) : (matchS (lateL l amp z) (k : Int)).2.2 = false := by
  unfold matchS
  split
  · rfl
  · dsimp only
    rw [Int.toNat_natCast, late_scale]
    rw [← List.map_drop, ← List.map_take, late_window l z k (by omega), corr_scale]
    dsimp only
    rw [sq_scale, sq_scale]
    have ha2 : 1 ≤ amp * amp := by
      have := Int.mul_le_mul ha ha (by decide) (by omega : (0 : Int) ≤ amp)
      simpa using this
    generalize amp * amp = a2 at *
    have hd : z - k = 1 ∨ z - k = 2 ∨ z - k = 3 := by omega
    rw [Bool.and_eq_false_iff]
    right
    rw [decide_eq_false_iff_not]
    rcases hd with h | h | h <;> rw [h]
    · have e1 : corrS ((List.replicate 1 ((0, 0) : Sp) ++ pre).take 8) 8 = (-4, -2, 14) := by decide
      rw [e1]; dsimp only; omega
    · have e1 : corrS ((List.replicate 2 ((0, 0) : Sp) ++ pre).take 8) 8 = (0, 4, 12) := by decide
      rw [e1]; dsimp only; omega
    · have e1 : corrS ((List.replicate 3 ((0, 0) : Sp) ++ pre).take 8) 8 = (-6, 0, 10) := by decide
      rw [e1]; dsimp only; omega
/-- It begins there. -/
theorem late_there (l : List Bool) (amp : Int) (z : Nat) (ha : 1 ≤ amp) (ha2 : amp ≤ 65536) : ∃ x n, 0 < x ∧ matchS (lateL l amp z) (z : Int) = ((x, 0), n, true) := by
  have hW0 : ((lateL l amp z).drop z).take 8 = pre.map (scale amp) := by
    rw [late_scale, ← List.map_drop, ← List.map_take, late_window l z z (Nat.le_refl _), Nat.sub_self]
    rfl
  have hW : ∀ k, k < 8 → Near amp 0 (pre[k]?.getD (0, 0)) ((((lateL l amp z).drop z).take 8)[k]?.getD (0, 0)) := fun k _ => by
    rw [hW0, scale_get]
    exact ⟨0, 0, by simp [scale], by decide, by decide⟩
  obtain ⟨m1, m2, m3, _, m5⟩ := near_match (by decide) (by omega) ha hW
  have hall : (((lateL l amp z).drop z).take 8).all mayS = true := by
    have h := late_may l amp z ha ha2
    rw [List.all_eq_true] at h ⊢
    exact fun s hs => h s (List.mem_of_mem_drop (List.mem_of_mem_take hs))
  have hlen := late_length l amp z
  refine ⟨(corrS (((lateL l amp z).drop z).take 8) 8).1, (corrS (((lateL l amp z).drop z).take 8) 8).2.2, m3, ?_⟩
  unfold matchS
  rw [Int.toNat_natCast, if_neg (by rw [hall]; rintro (h | h | h) <;> first | omega | cases h)]
  dsimp only
  rw [decide_eq_true m1, decide_eq_true m2, m5 rfl]
  rfl
theorem late_find (l : List Bool) (amp q : Int) (z : Nat) (ha : 1 ≤ amp) (ha2 : amp ≤ 65536) (hz : z ≤ 3) : findS ((lateL l amp z).map (turn1 · q)) 0 = ((z : Int), q % 4, 0) := by
  have hall := late_may l amp z ha ha2
  obtain ⟨x, n, hx, hm⟩ := late_there l amp z ha ha2
  have hlen := late_length l amp z
  have h2 : (matchS ((lateL l amp z).map (turn1 · q)) (z : Int)).2 = (n, true) := by rw [match_turn hall, hm]
  have h1 : (matchS ((lateL l amp z).map (turn1 · q)) (z : Int)).1 = turn1 (x, 0) q := by rw [match_turn1 hall, hm]
  have := find_some ((lateL l amp z).map (turn1 · q)) 0 z (Nat.zero_le _) (by rw [List.length_map, hlen]; omega) (fun j _ hj => by rw [match_turn hall]; exact late_early l amp z j ha hz hj) (by rw [h2])
  rw [h1, quart_turn x q hx] at this
  exact this
theorem late_receive (l : List Bool) (amp q : Int) (z : Nat) (ha : 1 ≤ amp) (ha2 : amp ≤ 65536) (hz : z ≤ 3) (hl : l.length ≤ 4095) : receiveS ((lateL l amp z).map (turn1 · q)) = (0, l) := by
  unfold receiveS
  rw [late_find l amp q z ha ha2 hz]
  dsimp only
  rw [if_pos rfl]
  have hlen := late_length l amp z
  rw [decode_decD _ z _ (by rw [List.length_map, hlen]; omega)]
  have hget : ∀ i, (((lateL l amp z).map (turn1 · q)).drop (z + 8))[i]?.getD (0, 0) = turn1 (scale amp ((behindL l)[i]?.getD (0, 0))) q := fun i => by
    rw [List.getElem?_drop, turn_get]
    unfold lateL
    rw [List.getElem?_append_right (by rw [List.length_replicate]; omega), List.length_replicate, show z + 8 + i - z = 8 + i by omega, scale_get, sig_behind]
  refine decD_of hl (by rw [List.length_drop, List.length_map, hlen, behindL_length]; omega) (fun i hi => ?_) (fun i hi => ?_)
  · rw [List.length_drop, List.length_map, hlen] at hi
    rw [hget]
    exact turn1_may (near_may (h := 0) (behind_unit4 l i (by rw [behindL_length]; omega)) ⟨0, 0, by simp [scale], by decide, by decide⟩ (by omega) (by decide) ha2) q
  · rw [hget]
    unfold bits1
    rw [turn1_add, ← turn1_mod, show (q + (4 - q % 4 % 4)) % 4 = 0 by omega]
    exact near_bits (amp := amp) (behind_unit4 l i hi) (h := 0) ⟨0, 0, by simp [scale, turn1], by decide, by decide⟩ (by omega)
end Go.Proofs.Ytdmedhklcicpeaa

namespace Go.Proofs.Ytdmedhklcicpeaa
open Go.RowKit

set_option maxRecDepth 4000 in
set_option maxHeartbeats 400000 in
theorem air_any (n : Int) (w : World) : Calls Try.prog 14 #[.int .i64 n] w fun e w' => e = .returned (.int .i64 (airS n)) ∧ w = w' := by
  unfold airS
  by_cases h0 : n < 0
  · rw [if_pos (.inl h0)]
    have hd : decide (n < 0) = true := by simpa using h0
    go_enter Try.func14, Try.ntmps14
    go_wp2
    go_ret
    exact ⟨rfl, rfl⟩
  · have hd : decide (n < 0) = false := by simpa using h0
    by_cases h1 : 4095 < n
    · rw [if_pos (.inr h1)]
      have hd1 : decide (4095 < n) = true := by simpa using h1
      go_enter Try.func14, Try.ntmps14
      go_wp2
      go_ret
      exact ⟨rfl, rfl⟩
    · rw [if_neg (fun h => h.elim h0 h1)]
      have hd1 : decide (4095 < n) = false := by simpa using h1
      obtain ⟨m, rfl⟩ := Int.eq_ofNat_of_zero_le (show 0 ≤ n by omega)
      have hd2 : decide (4095 < m) = false := by simp; omega
      have hpa := fun w1 => payLen_any m w1 (by omega)
      obtain ⟨p, hp⟩ : ∃ p, p = (m + 1) / 2 := ⟨_, rfl⟩
      rw [← hp] at hpa
      have hr : (14 : Int) + ((m : Int) + 1) / 2 = 14 + (p : Int) := by omega
      rw [hr]
      have HPA := Lib.hid hpa
      clear hpa hr
      have hw : IntKind.i64.wrap (14 + (p : Int)) = 14 + (p : Int) := IntWalk.i64_in _ (by omega)
      clear hp
      go_enter Try.func14, Try.ntmps14
      go_wp2_with fail
      refine (HPA.out _).mono ?_
      rintro e w1 ⟨rfl, rfl⟩
      go_wp2
      go_ret
      exact ⟨rfl, rfl⟩

theorem made_two (m : Nat) : SRow (madeCells #[.int .i64 0, .int .i64 0] (m * 2)) (List.replicate m (0, 0)) := by
  have hg : ∀ j, j < m * 2 → (madeCells #[.int .i64 0, .int .i64 0] (m * 2))[j]? = some (.int .i64 0) := fun j hj => by
    unfold madeCells
    rw [Array.getElem?_map, Array.getElem?_range, if_pos hj]
    rcases Nat.mod_two_eq_zero_or_one j with h | h <;> simp [h]
  intro j hj
  rw [List.length_replicate] at hj
  rw [List.getElem?_replicate, if_pos hj]
  exact ⟨hg _ (by omega), hg _ (by omega)⟩
/-- make([]api.Sample, m), m a number of 8 bits, over whatever world. -/
theorem run_make_zeros (m : Nat) (hm : m ≤ 3) :
    ∃ cs : Array Value, SRow cs (List.replicate m (0, 0)) ∧ ∀ w : World, (Instr.makeSlice 25 (.int .u8 (m : Int)) (.int .u8 (m : Int))).run Try.prog w = .ok (.slice (some ⟨w.heap.size, 0, none⟩) m m) (w.alloc (.cells cs 38)) := by
  obtain ⟨i0, hi, hz0, hz1, hz2⟩ := info_parts Try.infoS
  refine ⟨_, made_two m, fun w => ?_⟩
  have := run_make_rowN (P := Try.prog) 25 38 i0 _ Try.underlying25 hi hz0 .u8 .u8 m m (Nat.le_refl _) (by rw [hz2]; omega) (by omega) w
  rw [hz1] at this
  exact this

set_option maxRecDepth 8000 in
set_option maxHeartbeats 4000000 in
theorem back_law (N amp q ah : Int) (A : Option Addr) (n c : Nat) (bs : List UInt8) (w : World) (hn : n = bs.length) (hm : n ≤ maxLen) (hA : Byt w.heap.size w A bs) (hh0 : 0 ≤ ah) (hh1 : ah ≤ 255) :
    Calls Try.prog 7 #[.agg #[.int .i64 N, .slice A n c], .int .i64 amp, .int .i64 q, .int .u8 ah] w fun e w' => e = .returned (.bool true) ∧ Below w.heap.size w w' := by
  have hBb : Below w.heap.size w (w.alloc (.cells #[.int .i64 N, .slice A n c] 24)) := (Below.refl _ _).alloc (Nat.le_refl _) _
  have hen := encode_any N amp A n c bs _ hn hm (hA.on hBb)
  have kb := Blk.new w 24 #[.int .i64 N, .slice A n c]
  have HBG := Lib.hid begun_any
  have HA := Lib.hid hA; have HN := Lib.hid hn
  clear hA hn hm
  by_cases hok : goodB N bs = true ∧ (1 ≤ amp ∧ amp ≤ 65536) ∧ N ≤ 4095
  · obtain ⟨hg, ⟨ha0, ha1⟩, hN5⟩ := hok
    have he : encodeS N bs amp = (0, encL (listOf N bs) amp) := by unfold encodeS; rw [if_pos hg, if_pos ⟨ha0, ha1⟩, if_pos hN5]
    rw [he] at hen
    have hgl := good_length hg
    have hib := good_isBits hg
    generalize listOf N bs = l at *
    have hl5 : l.length ≤ 4095 := by omega
    subst hgl
    have hel := encL_length l amp
    rw [encL_sigL] at hen hel
    obtain ⟨len, hlen⟩ : ∃ len, len = 14 + (l.length + 1) / 2 := ⟨_, rfl⟩
    rw [← hlen] at hel
    have hlen6 : len ≤ 65000 := by omega
    -- how many are ahead
    obtain ⟨z, hz⟩ : ∃ z : Nat, ah % 4 = (z : Int) := ⟨(ah % 4).toNat, by omega⟩
    have hz3 : z ≤ 3 := by omega
    obtain ⟨ah', rfl⟩ := Int.eq_ofNat_of_zero_le hh0
    have hzq : ah' % 4 = z := by omega
    obtain ⟨csz, hcsz, hmk⟩ := run_make_zeros z hz3
    -- the quarters
    obtain ⟨t, ht⟩ : ∃ t, q.tmod 4 = t := ⟨_, rfl⟩
    have htl : -4 < t ∧ t < 4 := by
      rw [← ht]
      have h1 := Int.tmod_lt_of_pos q (show (0 : Int) < 4 by decide)
      have h2 := Int.lt_tmod_of_pos q (show (0 : Int) < 4 by decide)
      omega
    have hr : (t + 4) % 4 = q % 4 := by
      rw [← ht]
      have := Int.tmod_add_mul_tdiv q 4
      omega
    have hr2 : (t + 4).tmod 4 = q % 4 := by rw [Int.tmod_eq_emod_of_nonneg (by omega)]; exact hr
    obtain ⟨ht0, ht1⟩ := htl
    have hfi := late_find l amp q z ha0 ha1 hz3
    have hre := late_receive l amp q z ha0 ha1 hz3 hl5
    have hty : turnS (lateL l amp z) q = (0, (lateL l amp z).map (turn1 · q)) := by unfold turnS; rw [if_pos (late_may l amp z ha0 ha1)]
    have hll := late_length l amp z
    rw [← hlen] at hll
    have hair := fun w1 => air_any (l.length : Int) w1
    have ha : airS (l.length : Int) = (len : Int) := by unfold airS; rw [if_neg (by omega)]; omega
    rw [ha] at hair
    have hlt : ((lateL l amp z).map (turn1 · q)).length = z + len := by rw [List.length_map, hll]
    have htn := fun B bn bc W (h1 : bn = z + len) (h3 : Smps W.heap.size W B (lateL l amp z)) => turn_s B bn bc (lateL l amp z) q W (h1.trans hll.symm) (by omega) h3
    rw [hty] at htn
    have hfa := fun B bn bc W (h1 : bn = z + len) (h2 : bn ≤ bc) (h3 : Smps W.heap.size W B ((lateL l amp z).map (turn1 · q))) => find_any B bn bc ((lateL l amp z).map (turn1 · q)) 0 W (h1.trans hlt.symm) (by omega) h2 h3
    rw [hfi] at hfa
    have hra := fun B bn bc W (h1 : bn = z + len) (h2 : bn ≤ bc) (h3 : Smps W.heap.size W B ((lateL l amp z).map (turn1 · q))) => receive_any B bn bc ((lateL l amp z).map (turn1 · q)) W (h1.trans hlt.symm) (by omega) h2 h3
    rw [hre] at hra
    dsimp only at hfa
    generalize hq4 : q % 4 = q4 at *
    generalize (lateL l amp z).map (turn1 · q) = T at *
    have HEN := Lib.hid hen; have HIB := Lib.hid hib; have HEL := Lib.hid hel; have HLEN := Lib.hid hlen; have HCSZ := Lib.hid hcsz; have HLL := Lib.hid hll; have HLT := Lib.hid hlt
    have HTN := Lib.hid htn; have HFA := Lib.hid hfa; have HRA := Lib.hid hra; have HAIR := Lib.hid hair
    clear hen hib hel hlen hcsz hll hlt htn hfa hra hair hg he hN5 hfi hre hty ha
    go_enter Try.func7, Try.ntmps7
    go_wp2_with fail
    refine HEN.out.mono ?_
    rintro e w1 ⟨SA, sn, sc, rfl, hsn, hsc, hS, hB1, _⟩
    dsimp only at hsn hS
    rw [HEL.out] at hsn
    subst hsn
    have kb1 := kb.on hB1
    have b1 := hBb.trans (hB1.mono hBb.size)
    have HS := Lib.hid hS; clear hS
    dsimp only
    go_wp2_with fail
    refine (HBG.out _).mono ?_
    rintro e w2 ⟨rfl, hB2⟩
    have kb2 := kb1.on hB2
    have b2 := b1.trans (hB2.mono b1.size)
    have HS2 := Lib.hid (HS.out.on hB2)
    go_wp2_with fail
    have hsn14 : 14 ≤ sn := by have := HLEN.out; omega
    obtain ⟨sb, so, hSA, _⟩ := HS2.out.at_ (k := 0) (by rw [HEL.out]; omega)
    subst hSA
    have al1 : Below w2.heap.size w2 (w2.alloc (.cells csz 38)) := (Below.refl _ _).alloc (Nat.le_refl _) _
    have al2 : Below (w2.alloc (.cells csz 38)).heap.size (w2.alloc (.cells csz 38)) ((w2.alloc (.cells csz 38)).alloc (.cells #[.slice (some ⟨w2.heap.size, 0, none⟩) z z, .slice (some ⟨sb, so, none⟩) sn sc] 25)) := (Below.refl _ _).alloc (Nat.le_refl _) _
    have kz := Blk.new w2 38 csz
    have kx : Blk ((w2.alloc (.cells csz 38)).alloc (.cells #[.slice (some ⟨w2.heap.size, 0, none⟩) z z, .slice (some ⟨sb, so, none⟩) sn sc] 25)) (w2.heap.size + 1) 25 #[.slice (some ⟨w2.heap.size, 0, none⟩) z z, .slice (some ⟨sb, so, none⟩) sn sc] := by
      simpa using Blk.new (w2.alloc (.cells csz 38)) 25 #[.slice (some ⟨w2.heap.size, 0, none⟩) z z, .slice (some ⟨sb, so, none⟩) sn sc]
    have b3 := (b2.trans (al1.mono b2.size)).trans (al2.mono (b2.trans (al1.mono b2.size)).size)
    have kb3 := (kb2.on al1).on al2
    have hz0 := (smps_of_blk kz HCSZ.out).on al2
    have hs0 := (HS2.out.on al1).on al2
    generalize (w2.alloc (.cells csz 38)).alloc (.cells #[.slice (some ⟨w2.heap.size, 0, none⟩) z z, .slice (some ⟨sb, so, none⟩) sn sc] 25) = w3 at *
    have hrws : Rws w3 (some ⟨w2.heap.size + 1, 0, none⟩) [⟨some ⟨w2.heap.size, 0, none⟩, z, z, List.replicate z (0, 0)⟩, ⟨some ⟨sb, so, none⟩, sn, sc, (sigL l).map (scale amp)⟩] := ⟨two_svs (x := (some ⟨w2.heap.size, 0, none⟩, z, z)) (y := (some ⟨sb, so, none⟩, sn, sc)) kx, fun r hr => by
      rcases List.mem_cons.1 hr with rfl | hr
      · exact ⟨(List.length_replicate ..).symm, Nat.le_refl _, hz0⟩
      · rcases List.mem_cons.1 hr with rfl | hr
        · exact ⟨HEL.out.symm, hsc, hs0⟩
        · cases hr⟩
    have hflat : List.flatMap (fun r : RW => r.l) [⟨some ⟨w2.heap.size, 0, none⟩, z, z, List.replicate z (0, 0)⟩, ⟨some ⟨sb, so, none⟩, sn, sc, (sigL l).map (scale amp)⟩] = lateL l amp z := by
      simp [lateL]
    have hcc := concat_any (some ⟨w2.heap.size + 1, 0, none⟩) 2 2 _ w3 rfl (by decide) hrws (fun r hr => by
      rcases List.mem_cons.1 hr with rfl | hr
      · exact ⟨_, rfl⟩
      · rcases List.mem_cons.1 hr with rfl | hr
        · exact ⟨_, rfl⟩
        · cases hr) (by unfold totalS; rw [hflat, HLL.out]; omega) (by unfold totalS; rw [hflat, HLL.out]; omega)
    rw [hflat, HLL.out] at hcc
    have HCC := Lib.hid hcc
    clear hcc hflat hrws kx kz hz0 hs0 al1 al2
    refine HCC.out.mono ?_
    rintro e w4 ⟨LA, ln, lc, rfl, hln, hlc, hLS, hB4⟩
    have b4 := b3.trans (hB4.mono b3.size)
    have kb4 := kb3.on hB4
    have HLN := Lib.hid hln; have HLS := Lib.hid hLS
    clear hln hLS
    go_wp2_with fail
    refine (HTN.out LA ln lc _ HLN.out HLS.out).mono ?_
    rintro e w5 ⟨TA, tn, tc, rfl, htn, htc, hTS, hB5, _⟩
    dsimp only at htn hTS
    rw [HLT.out] at htn
    have b5 := b4.trans (hB5.mono b4.size)
    have kb5 := kb4.on hB5
    have HTN2 := Lib.hid htn; have HTS := Lib.hid hTS
    clear htn hTS
    dsimp only
    go_wp2_with fail
    refine (HFA.out TA tn tc _ HTN2.out htc HTS.out).mono ?_
    rintro e w6 ⟨rfl, hB6⟩
    have b6 := b5.trans (hB6.mono b5.size)
    have kb6 := kb5.on hB6
    have HTS6 := Lib.hid (HTS.out.on hB6)
    go_wp2_with fail
    refine (HRA.out TA tn tc _ HTN2.out htc HTS6.out).mono ?_
    rintro e w7 ⟨A7, n7, c7, bs7, rfl, hn7, hi7, _, hA7, hB7, _⟩
    have b7 := b6.trans (hB7.mono b6.size)
    have kb7 := kb6.on hB7
    have HN7 := Lib.hid hn7; have HI7 := Lib.hid hi7; have HA7 := Lib.hid hA7
    clear hn7 hi7 hA7
    dsimp only
    have al7 : Below w7.heap.size w7 (w7.alloc (.cells #[.int .i64 l.length, .slice A7 n7 c7] 24)) := (Below.refl _ _).alloc (Nat.le_refl _) _
    have kb8 := kb7.on al7
    have b8 := b7.trans (al7.mono b7.size)
    obtain ⟨p1, p2, _⟩ := kb7.two
    have y1 := kb7.lt
    go_wp2_with fail
    refine (same_res l A A7 n n7 c c7 bs bs7 _ HN.out HN7.out HIB.out HI7.out (HA.out.on b8) (HA7.out.on al7)).mono ?_
    rintro e w9 ⟨rfl, hB9⟩
    have b9 := b8.trans (hB9.mono b8.size)
    have kb9 := kb8.on hB9
    obtain ⟨p3, p4, _⟩ := kb9.two
    have y2 := kb9.lt
    have hzl : IntKind.i64.wrap ((sn : Int) + (z : Int)) = (sn : Int) + (z : Int) := IntWalk.i64_in _ (by omega)
    go_wp2_with fail
    refine (HAIR.out _).mono ?_
    rintro e w10 ⟨rfl, rfl⟩
    have hln2 : (ln : Int) = (sn : Int) + (z : Int) := by have := HLN.out; omega
    have hln3 : ((ln : Int) == (sn : Int) + (z : Int)) = true := by simpa using hln2
    go_wp2
    go_ret
    exact ⟨rfl, b9⟩
  · have he : (encodeS N bs amp).1 ≠ 0 := by
      unfold encodeS
      by_cases h1 : goodB N bs = true
      · rw [if_pos h1]
        by_cases h2 : 1 ≤ amp ∧ amp ≤ 65536
        · rw [if_pos h2, if_neg (fun h3 => hok ⟨h1, h2, h3⟩)]; decide
        · rw [if_neg h2]; decide
      · rw [if_neg h1]; decide
    generalize encodeS N bs amp = E at *
    obtain ⟨ee, el⟩ := E
    dsimp only at he
    have hne : (ee != 0) = true := by simpa using he
    have hne2 : (ee == 0) = false := by simpa using he
    have HEN := Lib.hid hen
    clear hen hok he
    go_enter Try.func7, Try.ntmps7
    go_wp2_with fail
    refine HEN.out.mono ?_
    rintro e w1 ⟨SA, sn, sc, rfl, _, _, _, hB1, _⟩
    have b1 := hBb.trans (hB1.mono hBb.size)
    dsimp only
    go_wp2_with fail
    refine (HBG.out _).mono ?_
    rintro e w2 ⟨rfl, hB2⟩
    have b2 := b1.trans (hB2.mono b1.size)
    go_wp2_with fail
    refine (HBG.out _).mono ?_
    rintro e w3 ⟨rfl, hB3⟩
    go_wp2
    go_ret
    exact ⟨rfl, b2.trans (hB3.mono b2.size)⟩
end Go.Proofs.Ytdmedhklcicpeaa
