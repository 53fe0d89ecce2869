/-
  Round of package fta: clocks behind a round. Conditions: those that the theorem names.
-/
import Derived.Test.YtfncccjiiipfoaaFR
namespace Go.Proofs.Ytfncccjiiipfoaa
open Go.RowKit

def roundV (B : Option Addr) (d : Nat) (r : List Int × Int) : Value := .tuple #[.slice B r.1.length d, .int .i64 r.2]
theorem roundS_arg {cs : List Int} {rows : List (List Int)} (h : ¬ (4 ≤ cs.length ∧ cs.length ≤ 8 ∧ sizedS cs.length rows = true)) : roundS cs rows = ([], 2) := by unfold roundS; rw [if_pos h]
theorem roundS_off {cs : List Int} {rows : List (List Int)} (h : 4 ≤ cs.length ∧ cs.length ≤ 8 ∧ sizedS cs.length rows = true) (h2 : (offS cs || rows.any offS) = true) : roundS cs rows = ([], 80) := by unfold roundS; rw [if_neg (fun e => e h), if_pos h2]
theorem roundS_fit {cs : List Int} {rows : List (List Int)} (h : 4 ≤ cs.length ∧ cs.length ≤ 8 ∧ sizedS cs.length rows = true) (h2 : (offS cs || rows.any offS) = false) : roundS cs rows = (roundL cs rows, 0) := by unfold roundS; rw [if_neg (fun e => e h), if_neg (by rw [h2]; decide)]
theorem sizedS_row {n : Nat} {rows : List (List Int)} (h : sizedS n rows = true) : rows.length = n ∧ ∀ r ∈ rows, r.length = n := by
  unfold sizedS at h
  rw [Bool.and_eq_true] at h
  obtain ⟨h1, h2⟩ := h
  refine ⟨by simpa using h1, fun r hr => ?_⟩
  rw [Bool.not_eq_true', List.any_eq_false] at h2
  have := h2 r hr
  unfold wrongS at this
  simpa using this
theorem nthR_at {rows : List (List Int)} {k : Nat} {y : List Int} (h : rows[k]? = some y) : nthR rows k = y := by unfold nthR; rw [h]; rfl
theorem ints_nil (B : Nat) (W : World) : Ints B W none [] := fun h => absurd rfl h

set_option maxRecDepth 8000 in
set_option maxHeartbeats 8000000 in
theorem round_any (A X : Option Addr) (n c xn xc : Nat) (cs : List Int) (rs : List RJ) (w : World) (hn : n = cs.length) (hm : n ≤ maxLen) (hA : Ints w.heap.size w A cs) (hx : xn = rs.length) (hxm : xn ≤ maxLen) (hX : RowsJ w.heap.size w X rs) :
    Calls Try.prog 19 #[.slice A n c, .slice X xn xc] w fun e w' => ∃ B d, e = .returned (roundV B d (roundS cs (rs.map RJ.l))) ∧ Ints w'.heap.size w' B (roundS cs (rs.map RJ.l)).1 ∧ Below w.heap.size w w' := by
  have hcl := fun w => isCluster_any A n c w
  have hsz := isOfSize_any X xn xc rs n w hx hxm hX
  have hof := fun w1 (h : Below w.heap.size w w1) => isOff_any A n c cs w1 hn hm ((hA.below h).mono h.size)
  have hro := fun w1 (h : Below w.heap.size w w1) => containsO_any X xn xc rs w1 hx hxm ((hX.below h).mono h.size)
  have HCL := Lib.hid hcl; have HSZ := Lib.hid hsz; have HOF := Lib.hid hof; have HRO := Lib.hid hro
  clear hcl hsz hof hro
  have hB := Below.refl w.heap.size w
  unfold roundV
  by_cases h1 : 4 ≤ n ∧ n ≤ 8
  · have q1 : (decide (4 ≤ n) && decide (n ≤ 8)) = true := by simp [h1]
    rw [q1] at HCL
    have arg := roundS_arg (cs := cs) (rows := rs.map RJ.l)
    have off := roundS_off (cs := cs) (rows := rs.map RJ.l)
    have fit := roundS_fit (cs := cs) (rows := rs.map RJ.l)
    have hrow := sizedS_row (n := n) (rows := rs.map RJ.l)
    rw [← hn] at arg off fit
    by_cases h2 : sizedS n (rs.map RJ.l) = true
    · rw [h2] at HSZ
      replace off := off ⟨h1.1, h1.2, h2⟩
      replace fit := fit ⟨h1.1, h1.2, h2⟩
      obtain ⟨hr1, hr2⟩ := hrow h2
      clear arg q1 hrow
      by_cases h3 : (offS cs || (rs.map RJ.l).any offS) = true
      · rw [off h3]
        clear off fit hA hX hn hx hr1 hr2 h2
        by_cases h4 : offS cs = true
        · rw [h4] at HOF
          clear h3 h4
          go_enter Try.func19, Try.ntmps19
          go_wp2_with (first
            | (go_at_call 29; refine (HCL.out _).mono ?_; rintro e w1 ⟨rfl, rfl⟩)
            | (go_at_call 30; refine HSZ.out.mono ?_; rintro e w1 ⟨rfl, hC⟩; replace hB := hC)
            | (go_at_call 31; refine (HOF.out _ hB).mono ?_; rintro e w2 ⟨rfl, rfl⟩)
            | (go_at_call 32; refine (HRO.out _ hB).mono ?_; rintro e w2 ⟨rfl, rfl⟩))
          go_ret2
          exact ⟨none, 0, rfl, ints_nil _ _, hB⟩
        · have h5 : offS cs = false := by simpa using h4
          have h6 : (rs.map RJ.l).any offS = true := by rw [h5] at h3; exact h3
          rw [h5] at HOF
          rw [h6] at HRO
          clear h3 h4 h5 h6
          go_enter Try.func19, Try.ntmps19
          go_wp2_with (first
            | (go_at_call 29; refine (HCL.out _).mono ?_; rintro e w1 ⟨rfl, rfl⟩)
            | (go_at_call 30; refine HSZ.out.mono ?_; rintro e w1 ⟨rfl, hC⟩; replace hB := hC)
            | (go_at_call 31; refine (HOF.out _ hB).mono ?_; rintro e w2 ⟨rfl, rfl⟩)
            | (go_at_call 32; refine (HRO.out _ hB).mono ?_; rintro e w2 ⟨rfl, rfl⟩))
          go_ret2
          exact ⟨none, 0, rfl, ints_nil _ _, hB⟩
      · have h3' : (offS cs || (rs.map RJ.l).any offS) = false := by simpa using h3
        have h5 : offS cs = false := by cases h : offS cs <;> simp [h] at h3' ⊢
        have h6 : (rs.map RJ.l).any offS = false := by rw [h5] at h3'; exact h3'
        rw [fit h3']
        rw [h5] at HOF
        rw [h6] at HRO
        clear off fit h3 h3'
        have hmk := run_make_J n (by omega)
        have hll : (roundL cs (rs.map RJ.l)).length = n := by rw [roundL_length]; exact hn.symm
        have hnth := fun k (hk : k < n) => roundL_nth cs (rs.map RJ.l) k (by omega)
        have hpl := fun k (hk : k ≤ n) => partS_length (roundL cs (rs.map RJ.l)) k (by omega)
        have hst := fun k (hk : k < n) => partS_step (roundL cs (rs.map RJ.l)) k (by omega)
        have hwh : partS (roundL cs (rs.map RJ.l)) n = roundL cs (rs.map RJ.l) := by have := partS_whole (roundL cs (rs.map RJ.l)); rwa [hll] at this
        rw [hll] at hpl
        have hcb := nth_in (B := 274877906944) (by decide) (offS_in h5)
        have hag := fun V vn vc (ws : List Int) (k : Nat) w1 (hb : Below w.heap.size w w1) h1 h2 h3 h4 h5' => against_any A V n c vn vc cs ws k w1 hn (by omega) h1 h2 h3 ((hA.below hb).mono hb.size) h4 h5 h5'
        have hmid := fun g (ws : List Int) (k : Nat) w1 (h : Ints w1.heap.size w1 (some ⟨g, 0, none⟩) (agS cs ws k)) => mid_any (some ⟨g, 0, none⟩) n n (agS cs ws k) w1 (by rw [agS_length]; exact hn) (by omega) h
        have hnew := fun (w1 : World) => ownJ_new w1 n
        generalize ((List.replicate n (0 : Int)).map (Value.int .i64)).toArray = cells at *
        rw [show (List.replicate n (0 : Int)) = partS (roundL cs (rs.map RJ.l)) 0 by rw [partS_zero, hll]] at hnew
        have hxl : rs.length = n := by rw [← hr1, List.length_map]
        have hrb := fun k (hk : k < n) => hX.row (k := k) (by omega)
        have hroff := nthR_off h6
        obtain rfl : n = xn := by omega
        clear hxl
        generalize hLL : roundL cs (rs.map RJ.l) = L at *
        unfold midV at hmid
        have HA := Lib.hid hA; have HN := Lib.hid hn; have HLEN := Lib.hid hll; have HNTH := Lib.hid hnth; have HPL := Lib.hid hpl; have HST := Lib.hid hst; have HWH := Lib.hid hwh; have HCB := Lib.hid hcb; have HAG := Lib.hid hag; have HMID := Lib.hid hmid; have HNEW := Lib.hid hnew; have HRB := Lib.hid hrb; have HROFF := Lib.hid hroff; have HR2 := Lib.hid hr2
        clear hA hX hn hx hr1 hr2 h2 h5 h6 hll hnth hpl hst hwh hcb hag hmid hnew hrb hroff hLL
        go_enter Try.func19, Try.ntmps19
        go_wp2_with (first
            | (go_at_call 29; refine (HCL.out _).mono ?_; rintro e w1 ⟨rfl, rfl⟩)
            | (go_at_call 30; refine HSZ.out.mono ?_; rintro e w1 ⟨rfl, hC⟩; replace hB := hC)
            | (go_at_call 31; refine (HOF.out _ hB).mono ?_; rintro e w2 ⟨rfl, rfl⟩)
            | (go_at_call 32; refine (HRO.out _ hB).mono ?_; rintro e w2 ⟨rfl, rfl⟩))
        have hg := hB.size
        have hO0 := HNEW.out w1
        have al := Below.al w1 (.cells cells 2)
        have hB0 := hB.trans (al.mono hB.size)
        clear al hB
        generalize w1.heap.size = g at *
        go_loopw [7, 31] (fun _ j wr => ∃ (k : Nat) (cur : Array Value), k ≤ n ∧ j = .int .i64 k ∧ OwnJ wr g (partS L k) 2 cur ∧ Below w.heap.size w wr) (fun _ j _ => n - (intOf j).toNat)
        case atStart => exact ⟨0, _, by omega, rfl, hO0, hB0⟩
        case round =>
          obtain ⟨k, cur, hk, rfl, hO, hB⟩ := hrel
          clear hO0 hB0
          by_cases hlt : k < n
          · obtain ⟨bx, ox, y, rfl, hbx, hcx, hyok, hyr⟩ := HRB.out k hlt
            obtain ⟨b, off, rfl, hb, hc0⟩ := HA.out.nAt (k := k) (by rw [← HN.out]; exact hlt)
            have hcell := fun W (h : Below w.heap.size w W) => (h.cell (p := ⟨b, off + k, none⟩) hb).trans hc0
            have hcx2 := (hB.cell (p := ⟨bx, ox + k, none⟩) hbx).trans hcx
            have hyl := HR2.out _ (List.mem_of_getElem? hyr)
            have hyo := HROFF.out k
            rw [nthR_at hyr] at hyo
            have hth := HNTH.out k hlt
            rw [nthR_at hyr] at hth
            unfold clS at hth
            have hag2 := HAG.out y.A y.n y.c y.l k wr hB hyok.1 (by rw [hyok.1, hyl]) hlt ((hyok.2.2.below hB).mono hB.size) hyo
            have hmid2 := fun g w1 h => HMID.out g y.l k w1 h
            have hcb := HCB.out k
            have hmb := midS_bound (agS cs y.l k)
            have hset := fun W c (h : OwnJ W g (partS L k) 2 c) => h.set_ (k := k) (by rw [HPL.out k hk]; exact hlt) (nth cs k + (midS (agS cs y.l k)).1)
            rw [HST.out k hlt _ hth] at hset
            have hoc := fun W c (h : OwnJ W g (partS L k) 2 c) => h.cell (j := k) (by rw [HPL.out k hk]; exact hlt)
            have hgl := hO.lt
            obtain ⟨Ay, ny, cy, ly⟩ := y
            dsimp only at *
            generalize agS cs ly k = ag at *
            generalize midS ag = p at *
            obtain ⟨p1, p2⟩ := p
            dsimp only at *
            generalize nth cs k = z at *
            generalize nth (partS L k) k = u at *
            unfold mOff at hmb
            have ez : IntKind.i64.wrap (z + p1) = z + p1 := IntWalk.i64_in _ (by omega)
            have HAG2 := Lib.hid hag2; have HM2 := Lib.hid hmid2; have HSET := Lib.hid hset; have HOC := Lib.hid hoc; have HCELL := Lib.hid hcell; have HO := Lib.hid hO
            have hbw : b < wr.heap.size := Nat.lt_of_lt_of_le hb hB.size
            have hbxw : bx < wr.heap.size := Nat.lt_of_lt_of_le hbx hB.size
            clear hag2 hmid2 hset hoc hcell hO hc0 hcx hyok hyr hyl hyo hth hcb hmb
            go_wp2_with (first
              | (go_at_call 33; refine HAG2.out.mono ?_; rintro e w3 ⟨g3, rfl, hI, hC⟩; have hB3 := hB.trans (hC.mono hB.size); have hO3 := HO.out.on hC; clear hC)
              | (go_at_call 13; refine (HM2.out _ _ hI).mono ?_; rintro e w4 ⟨rfl, hC⟩; have hB4 := hB3.trans (hC.mono hB3.size); have hO4 := hO3.on hC; have hl4 := hO4.lt; have hc4 := HCELL.out _ hB4; have hu4 := HOC.out _ _ hO4; have hf4 := hO4.blk.frozen k; have hb4 : b < w4.heap.size := Nat.lt_of_lt_of_le hb hB4.size; have HO4 := Lib.hid hO4; clear hC hO3 hI hO4))
            go_roundw
            case rel => exact ⟨k + 1, _, by omega, by go_num, HSET.out _ _ HO4.out, hB4.setCell (p := ⟨g, k, none⟩) hg _⟩
            case measure => simp [intOf]; omega
          · obtain rfl : k = n := by omega
            have hO2 := hO
            rw [HWH.out] at hO2
            have hl := HLEN.out
            go_wp2
            go_ret2
            exact ⟨some ⟨g, 0, none⟩, k, (by rw [hl] <;> rfl), hO2.ints, hB⟩
    · have h3 : sizedS n (rs.map RJ.l) = false := by simpa using h2
      rw [h3] at HSZ
      rw [arg (fun h => h2 h.2.2)]
      clear arg off fit hrow q1 hA hX hn hx h2 h3
      go_enter Try.func19, Try.ntmps19
      go_wp2_with (first
        | (go_at_call 29; refine (HCL.out _).mono ?_; rintro e w1 ⟨rfl, rfl⟩)
        | (go_at_call 30; refine HSZ.out.mono ?_; rintro e w1 ⟨rfl, hC⟩; replace hB := hC))
      go_ret2
      exact ⟨none, 0, rfl, ints_nil _ _, hB⟩
  · have q1 : (decide (4 ≤ n) && decide (n ≤ 8)) = false := by
      rw [Bool.and_eq_false_iff]; simp; omega
    rw [q1] at HCL
    rw [roundS_arg (fun h => h1 ⟨by omega, by omega⟩)]
    clear q1 hA hX hn hx
    go_enter Try.func19, Try.ntmps19
    go_wp2_with (first
      | (go_at_call 29; refine (HCL.out _).mono ?_; rintro e w1 ⟨rfl, rfl⟩))
    go_ret2
    exact ⟨none, 0, rfl, ints_nil _ _, hB⟩
end Go.Proofs.Ytfncccjiiipfoaa
