/-
  The document's Settle: clocks behind some rounds in which nothing is seen wrong. Conditions: those that each theorem names.
-/
import Derived.Test.YtfncccjiiipfoaaFV
namespace Go.Proofs.Ytfncccjiiipfoaa
open Go.RowKit

/-- Rows of nothing, put one behind the other. -/
structure SeenR (w : World) (n k : Nat) (sv : Value) (W : World) : Prop where
  rows : ∃ bs : List Nat, bs.length = k ∧ W.ownsRow w.heap.size 22 1 sv k (bs.map fun b => Value.slice (some ⟨b, 0, none⟩) n n) ∧ ∀ b ∈ bs, OwnJ W b (List.replicate n 0) 2 ((List.replicate n (0 : Int)).map (Value.int .i64)).toArray
  low : Below w.heap.size w W
theorem own_apart {W : World} {base b : Nat} {v : Value} {k : Nat} {xs : List Value} {cs : Array Value} (h : W.ownsRow base 22 1 v k xs) (hb : Blk W b 2 cs) : some b ≠ v.ownBlock := by
  rcases h.2 with ⟨rfl, _⟩ | ⟨g, cap, cur, rfl, _, hh, _⟩
  · intro e; cases e
  · intro e
    have e2 : b = g := by injection e
    subst e2
    have hh2 : Blk W b 22 cur := hh
    unfold Blk at hh2 hb
    rw [hh2] at hb
    injection hb with hb; injection hb with _ hb
    exact absurd hb (by decide)
theorem SeenR.app {w W W' : World} {n k : Nat} {sv v' : Value} {o : Obj} {cells : Array Value} (hcs : ((List.replicate n (0 : Int)).map (Value.int .i64)).toArray = cells) (bs : List Nat) (hl : bs.length = k) (ho : W.ownsRow w.heap.size 22 1 sv k (bs.map fun b => Value.slice (some ⟨b, 0, none⟩) n n)) (hb : ∀ b ∈ bs, OwnJ W b (List.replicate n 0) 2 cells) (hlow : Below w.heap.size w W)
    (hg : ((W.alloc (.cells cells 2)).alloc o).grownBy W' sv.ownBlock)
    (hr : W'.ownsRow w.heap.size 22 1 v' (k + 1) ((bs.map fun b => Value.slice (some ⟨b, 0, none⟩) n n) ++ [.slice (some ⟨W.heap.size, 0, none⟩) n n])) : SeenR w n (k + 1) v' W' := by
  subst hcs
  have al := Below.al W (.cells ((List.replicate n (0 : Int)).map (Value.int .i64)).toArray 2)
  have ho2 := own_on ho al
  have hnew := ownJ_new W n
  refine ⟨⟨bs ++ [W.heap.size], by simp; omega, by simpa using hr, fun b hbm => ?_⟩, own_below ho2 hg (hlow.trans (al.mono hlow.size)) (Nat.le_refl _) (hlow.trans (al.mono hlow.size)).size⟩
  have key : OwnJ (W.alloc (.cells ((List.replicate n (0 : Int)).map (Value.int .i64)).toArray 2)) b (List.replicate n 0) 2 ((List.replicate n (0 : Int)).map (Value.int .i64)).toArray := by
    rcases List.mem_append.1 hbm with hbm | hbm
    · exact (hb b hbm).on al
    · obtain rfl := List.mem_singleton.1 hbm; exact hnew
  exact ⟨(key.blk.alloc o).grown hg (own_apart ho2 key.blk), key.at_⟩
theorem SeenR.rowsJ {w W : World} {n : Nat} {sv : Value} (h : SeenR w n n sv W) (hn : n ≤ 8) : ∃ X d rs, sv = .slice X n d ∧ RowsJ W.heap.size W X rs ∧ rs.map RJ.l = zeroR n ∧ rs.length = n := by
  obtain ⟨bs, hl, ho, hb⟩ := h.rows
  refine ?_
  have hrl : (bs.map fun b => (⟨some ⟨b, 0, none⟩, n, n, List.replicate n 0⟩ : RJ)).map RJ.l = zeroR n := by
    unfold zeroR
    rw [List.map_map, ← hl]
    refine List.ext_getElem (by simp) fun j h1 h2 => by simp [hl]
  have hok : ∀ r ∈ bs.map fun b => (⟨some ⟨b, 0, none⟩, n, n, List.replicate n 0⟩ : RJ), RJok W.heap.size W r := fun r hr => by
    obtain ⟨b, hbm, rfl⟩ := List.mem_map.1 hr
    exact ⟨by simp, by show n ≤ maxLen; unfold maxLen; omega, (hb b hbm).ints⟩
  rcases h2 : ho.2 with ⟨rfl, h0⟩ | ⟨g, cap, cur, rfl, _, hh, hc, _⟩
  · refine ⟨none, 0, _, by rw [h0], ⟨fun hne => ?_, hok⟩, hrl, by simpa using hl⟩
    exact absurd (by rw [List.map_eq_nil_iff]; exact List.eq_nil_of_length_eq_zero (by omega)) hne
  · refine ⟨some ⟨g, 0, none⟩, cap, _, rfl, ⟨fun _ => ⟨g, 0, rfl, (Array.getElem?_eq_some_iff.1 hh).1, fun j hj => ?_⟩, hok⟩, hrl, by simpa using hl⟩
    have hj' : j < bs.length := by simpa using hj
    have e1 := ho.cells (g := g) rfl j (.slice (some ⟨bs[j], 0, none⟩) n n) (by rw [List.getElem?_map, List.getElem?_eq_getElem hj']; rfl)
    rw [addr_add] at e1
    rw [e1, List.getElem?_map, List.getElem?_eq_getElem hj']
    rfl

set_option maxRecDepth 8000 in
set_option maxHeartbeats 8000000 in
theorem rsettle_any (A : Option Addr) (n c : Nat) (cs : List Int) (r : Int) (w : World) (hn : n = cs.length) (hm : n ≤ maxLen) (hA : Ints w.heap.size w A cs) :
    Calls Try.prog 22 #[.slice A n c, .int .i64 r] w fun e w' => ∃ B d, e = .returned (roundV B d (settleS cs r)) ∧ Ints w'.heap.size w' B (settleS cs r).1 ∧ Below w.heap.size w w' := by
  have hof := roff_any A n c cs w hn hm hA
  unfold roundV
  by_cases h1 : 0 ≤ r
  · have d1 : decide (r < 0) = false := by simp; omega
    by_cases h2 : r ≤ 64
    · have d2 : decide (64 < r) = false := by simp; omega
      by_cases h3 : 4 ≤ n
      · have d3 : decide ((n : Int) < 4) = false := by simp; omega
        by_cases h4 : n ≤ 8
        · have d4 : decide (8 < (n : Int)) = false := by simp; omega
          have off := settleS_off (cs := cs) (r := r)
          have fit := settleS_fit (cs := cs) (r := r)
          rw [← hn] at off fit
          replace off := off ⟨h1, h2, h3, h4⟩
          replace fit := fit ⟨h1, h2, h3, h4⟩
          cases hq : offS cs with
          | true =>
            rw [off hq]
            rw [hq] at hof
            have HOF := Lib.hid hof
            clear off fit hof hA hn hq
            go_enter Try.func22, Try.ntmps22
            go_wp2_with (first
              | (go_at_call 34; refine HOF.out.mono ?_; rintro e w2 ⟨rfl, rfl⟩))
            go_ret2
            exact ⟨none, 0, rfl, ints_nil _ _, Below.refl _ _⟩
          | false =>
            rw [fit hq]
            rw [hq] at hof
            have hz0 : stepsS (zeroR n) 0 cs = cs := rfl
            have hsl := stepsS_length (zeroR n) cs (by omega)
            have hrd : ∀ (B X : Option Addr) (d xc k : Nat) (rs : List RJ) (w1 : World), Ints w1.heap.size w1 B (stepsS (zeroR n) k cs) → RowsJ w1.heap.size w1 X rs → rs.map RJ.l = zeroR n → rs.length = n → Calls Try.prog 20 #[.slice B (stepsS (zeroR n) k cs).length d, .slice X n xc] w1 fun e w' => ∃ B2 d2, e = .returned (.tuple #[.slice B2 (stepsS (zeroR n) (k + 1) cs).length d2, .int .i64 (roundS (stepsS (zeroR n) k cs) (zeroR n)).2]) ∧ Ints w'.heap.size w' B2 (stepsS (zeroR n) (k + 1) cs) ∧ Below w1.heap.size w1 w' := fun B X d xc k rs w1 hI hR hrl hrn => by
              have := rround_any B X (stepsS (zeroR n) k cs).length d n xc (stepsS (zeroR n) k cs) rs w1 rfl (by have := hsl k; unfold maxLen; omega) hI hrn.symm (by unfold maxLen; omega) hR
              rw [hrl] at this
              exact this
            generalize hst : stepsS (zeroR n) = st at *
            have hmk := run_make_J n (by omega)
            have hfin := fun (W : World) (sv : Value) (h : SeenR w n n sv W) => h.rowsJ h4
            have hpair : cs ≠ [] := by rintro rfl; simp at hn; omega
            obtain ⟨b, oo, rfl, hb, hcell⟩ := hA hpair
            have hal := fun W (h : Below w.heap.size w W) => ints_cells (a := ⟨b, oo, none⟩) (hA.below h)
            have hcl : (cs.map (Value.int .i64)).length = n * 1 := by rw [List.length_map]; omega
            have hone := ints_one cs
            obtain ⟨i0, hi, hz0', hz1, hz2⟩ := info_parts Try.infoJ
            obtain ⟨i1, hi1, hy0, hy1, hy2⟩ := info_parts Try.infoRJ
            have hseen0 : SeenR w n 0 (.slice none 0 0) w := ⟨⟨[], rfl, World.ownsRow_nil _ _ _ _, fun b hb => by cases hb⟩, Below.refl _ _⟩
            have HOF := Lib.hid hof; have HRD := Lib.hid hrd; have HZ := Lib.hid hz0; have HN := Lib.hid hn; have HFIN := Lib.hid hfin; have HAL := Lib.hid hal; have HCL := Lib.hid hcl; have HONE := Lib.hid hone
            clear off fit hof hA hn hq hrd hz0 hsl hst hfin hal hcl hone hcell hpair
            generalize hcells : ((List.replicate n (0 : Int)).map (Value.int .i64)).toArray = cells at *
            go_enter Try.func22, Try.ntmps22
            go_wp2_with (first
              | (go_at_call 34; refine HOF.out.mono ?_; rintro e w2 ⟨rfl, rfl⟩))
            go_loopw [6, 7] (fun sv i wr => ∃ (k : Nat) (sb : Option Addr) (sd : Nat), k ≤ n ∧ i = .int .i64 k ∧ sv = .slice sb k sd ∧ SeenR w n k sv wr) (fun _ i _ => n - (intOf i).toNat)
            case atStart => exact ⟨0, none, 0, by omega, rfl, rfl, hseen0⟩
            case round =>
              obtain ⟨k, sb, sd, hk, rfl, rfl, hS⟩ := hrel
              clear hseen0
              by_cases hlt : k < n
              · obtain ⟨bs, hbl, hrow, hrows⟩ := hS.rows
                have hlow := hS.low
                rw [hcells] at hrows
                have al := Below.al wr (.cells cells 2)
                have hrow2 := own_on hrow al
                have hsz := hlow.size
                have hsz2 := al.size
                have hcn : ∀ (j : Nat) (u : Value), [Value.slice (some ⟨wr.heap.size, 0, none⟩) n n][j]? = some u → ((wr.alloc (.cells cells 2)).alloc (.cells #[.slice (some ⟨wr.heap.size, 0, none⟩) n n] 22)).cell? ((⟨wr.heap.size + 1, 0, none⟩ : Addr).add j) = some u := fun j u hj => by
                  have := cell_one_new (wr.alloc (.cells cells 2)) (.slice (some ⟨wr.heap.size, 0, none⟩) n n) 22 j u hj
                  rw [show (wr.alloc (.cells cells 2)).heap.size = wr.heap.size + 1 by simp] at this
                  exact this
                have HCN := Lib.hid hcn; clear hcn
                have HROW := Lib.hid hrow; have HROWS := Lib.hid hrows; have HBL := Lib.hid hbl; have HLOW := Lib.hid hlow; have HROW2 := Lib.hid hrow2; have HCELLS := Lib.hid hcells
                clear hrow hrows hbl hlow hrow2 al hcells hS
                go_wp2_with (at_builtin; refine wpList_append_own _ rfl _ _ 36 rfl w.heap.size 22 i1 (.slice none 0 0) 1 24 Try.underlying36 hi1 hy0 hy1 hy2 rfl (by decide) (.slice sb k sd) k _ rfl (HROW2.out.alloc _) ⟨wr.heap.size + 1, 0, none⟩ 1 1 [.slice (some ⟨wr.heap.size, 0, none⟩) n n] rfl rfl HCN.out (by simp [Value.oneCell']) (by unfold maxLen; omega) (by omega) (by simp; omega) ?_; intro v' w6 hown6 hgrow _; obtain ⟨A6, c6, hv6⟩ := own_slice hown6; subst hv6; have hS6 := SeenR.app HCELLS.out bs HBL.out HROW.out HROWS.out HLOW.out hgrow hown6)
                have HS6 := Lib.hid hS6
                clear hS6 hown6 hgrow HROW HROWS HROW2 HLOW
                go_roundw
                case rel => exact ⟨k + 1, A6, c6, by omega, by go_num, rfl, HS6.out⟩
                case measure => simp [intOf]; omega
              · obtain rfl : k = n := by omega
                obtain ⟨X, d, rs, hv, hR, hrl, hrn⟩ := HFIN.out wr _ hS
                injection hv with v1 v2 v3
                subst v1
                subst v3
                have hlow := hS.low
                have hI0 := HAL.out wr hlow
                have HI0 := Lib.hid hI0; have HR := Lib.hid hR; have HRL := Lib.hid hrl; have HRN := Lib.hid hrn
                clear hS hI0 hR hrl hrn v2 hcells
                go_wp2_with (at_builtin; refine wpList_append_own _ rfl _ _ 22 rfl wr.heap.size 2 i0 (.int .i64 0) 1 8 Try.underlying22 hi hz0' hz1 hz2 rfl (by decide) (.slice none 0 0) 0 _ rfl (World.ownsRow_nil _ _ _ _) ⟨b, oo, none⟩ k c (cs.map (Value.int .i64)) rfl HCL.out (fun j u hj => HI0.out j u hj) HONE.out (by unfold maxLen; omega) (by omega) (Nat.le_refl _) ?_; intro v' w6 hown6 hgrow _; rw [Nat.zero_add, List.nil_append] at hown6; have hst6 := (Below.refl wr.heap.size wr).grown hgrow (Nat.le_refl _) (fun q e => by cases e); obtain ⟨A6, c6, hv6, -, -, hI6⟩ := ints_own hown6; have hR6 := (HR.out.below hst6).mono hst6.size; have hB6 := hlow.trans (hst6.mono hlow.size); rw [HZ.out.symm] at hv6 hI6; subst hv6; clear hown6 hgrow hst6)
                clear hlow HI0 HR
                go_loopw [8, 9] (fun ov i w3 => ∃ (j : Nat) (B : Option Addr) (d : Nat), (j : Int) ≤ r ∧ i = .int .i64 j ∧ ov = .slice B (st j cs).length d ∧ Ints w3.heap.size w3 B (st j cs) ∧ RowsJ w3.heap.size w3 sb rs ∧ Below w.heap.size w w3) (fun _ i _ => r.toNat - (intOf i).toNat)
                case atStart => exact ⟨0, A6, c6, by omega, rfl, rfl, hI6, hR6, hB6⟩
                case round =>
                  obtain ⟨j, B', d', hj, rfl, rfl, hI, hR', hB⟩ := hrel
                  clear hI6 hR6 hB6
                  by_cases hlt2 : (j : Int) < r
                  · have hc := HRD.out B' sb d' sd j rs _ hI hR' HRL.out HRN.out
                    have HC := Lib.hid hc; clear hc
                    generalize (roundS (st j cs) (zeroR k)).2 = er at *
                    generalize (st j cs).length = ln at *
                    generalize hl2 : (st (j + 1) cs).length = ln2 at *
                    have HL2 := Lib.hid hl2; clear hl2
                    go_wp2_with (go_at_call 20; refine HC.out.mono ?_; rintro e w3 ⟨B3, d3, rfl, hI3, hC3⟩; have hR3 := (hR'.below hC3).mono hC3.size; have hB3 := hB.trans (hC3.mono hB.size); clear hC3 hI hR' hB)
                    go_roundw
                    case rel => exact ⟨j + 1, B3, d3, by omega, by go_num, by rw [HL2.out], hI3, hR3, hB3⟩
                    case measure => simp [intOf]; omega
                  · have hkr : r.toNat = j := by omega
                    rw [hkr]
                    go_wp2
                    go_ret2
                    exact ⟨B', ⟨d', rfl⟩, hI, hB⟩
        · have d4 : decide (8 < (n : Int)) = true := by simp; omega
          rw [settleS_arg (fun h => h4 (by omega))]
          clear hA hn hof h4
          go_enter Try.func22, Try.ntmps22
          go_wp2
          go_ret2
          exact ⟨none, 0, rfl, ints_nil _ _, Below.refl _ _⟩
      · have d3 : decide ((n : Int) < 4) = true := by simp; omega
        rw [settleS_arg (fun h => h3 (by omega))]
        clear hA hn hof h3
        go_enter Try.func22, Try.ntmps22
        go_wp2
        go_ret2
        exact ⟨none, 0, rfl, ints_nil _ _, Below.refl _ _⟩
    · have d2 : decide (64 < r) = true := by simp; omega
      rw [settleS_arg (fun h => h2 h.2.1)]
      clear hA hn hof h2
      go_enter Try.func22, Try.ntmps22
      go_wp2
      go_ret2
      exact ⟨none, 0, rfl, ints_nil _ _, Below.refl _ _⟩
  · have d1 : decide (r < 0) = true := by simp; omega
    rw [settleS_arg (fun h => h1 h.1)]
    clear hA hn hof h1
    go_enter Try.func22, Try.ntmps22
    go_wp2
    go_ret2
    exact ⟨none, 0, rfl, ints_nil _ _, Below.refl _ _⟩
end Go.Proofs.Ytfncccjiiipfoaa
