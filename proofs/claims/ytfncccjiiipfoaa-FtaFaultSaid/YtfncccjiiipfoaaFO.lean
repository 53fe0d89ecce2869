/-
  The law of one fault. Conditions: those that each theorem names.
-/
import Derived.Test.YtfncccjiiipfoaaFN
import Derived.Test.YtfncccjiiipfoaaFK
import Derived.Deep.RegionHeld3
import Derived.Deep.AppendLies
namespace Go.Proofs.Ytfncccjiiipfoaa
open Go.RowKit

theorem put_row {W : World} {b g j : Nat} {e : TypeId} {v : Value} {n : Nat} {xs : List Value} (h : W.ownsRow b e 1 v n xs) (hg : g < b) (u : Value) : (W.setCell ⟨g, j, none⟩ u).ownsRow b e 1 v n xs :=
  h.kept (only_setCell (World.grownBy.refl W (some g)) (.inl rfl) u) (.inr fun e => by have := (h.lt g e).1; omega)
/-- What the loop of the law keeps: both lists, what is good of them, and all that was there before. -/
structure FltR (w : World) (g1 g2 G : Nat) (t u : List Int) (v : Value) (gl : List Int) (W : World) : Prop where
  a : ∃ cur, OwnJ W g1 t 2 cur
  b : ∃ cur, OwnJ W g2 u 2 cur
  row : W.ownsRow G 2 1 v gl.length (gl.map (Value.int .i64))
  low : Below w.heap.size w W
  ge : G ≤ W.heap.size
theorem FltR.put {w : World} {g1 g2 G : Nat} {t u : List Int} {v : Value} {gl : List Int} {W : World} (h : FltR w g1 g2 G t u v gl W) (h12 : g1 ≠ g2) (h2 : g2 < G) (hw : w.heap.size ≤ g2) {i : Nat} (hi : i < u.length) (x : Int) : FltR w g1 g2 G t (u.set i x) v gl (W.setCell ⟨g2, i, none⟩ (.int .i64 x)) := by
  obtain ⟨cur, ha⟩ := h.a
  obtain ⟨cub, hb⟩ := h.b
  exact ⟨⟨cur, ha.blk.far h12 _, ha.at_⟩, ⟨_, hb.set_ hi x⟩, put_row h.row h2 _, h.low.setCell (p := ⟨g2, i, none⟩) hw _, by simpa using h.ge⟩
theorem FltR.drew {w : World} {g1 g2 G : Nat} {t u : List Int} {v : Value} {gl : List Int} {W : World} (h : FltR w g1 g2 G t u v gl W) : FltR w g1 g2 G t u v gl W.drew := by
  obtain ⟨cur, ha⟩ := h.a
  obtain ⟨cub, hb⟩ := h.b
  exact ⟨⟨cur, ha.blk.drew, ha.at_⟩, ⟨cub, hb.blk.drew, hb.at_⟩, own_on h.row (Below.refl _ _).drew, h.low.drew, h.ge⟩
theorem FltR.app {w : World} {g1 g2 G : Nat} {t u : List Int} {v v' : Value} {gl gm : List Int} {W W' : World} {o : Obj} {n : Nat} (h : FltR w g1 g2 G t u v gl W) (hw : w.heap.size ≤ G) (h1 : g1 < G) (h2 : g2 < G) (hg : (W.alloc o).grownBy W' v.ownBlock) (hr : W'.ownsRow G 2 1 v' n (gl.map (Value.int .i64) ++ gm.map (Value.int .i64))) (hn : n = (gl ++ gm).length) : FltR w g1 g2 G t u v' (gl ++ gm) W' := by
  obtain ⟨cur, ha⟩ := h.a
  obtain ⟨cub, hb⟩ := h.b
  have ne : ∀ q, q < G → some q ≠ v.ownBlock := fun q hq e => by have := (h.row.lt q e.symm).1; omega
  refine ⟨⟨cur, (ha.blk.alloc o).grown hg (ne _ h1), ha.at_⟩, ⟨cub, (hb.blk.alloc o).grown hg (ne _ h2), hb.at_⟩, ?_, own_below h.row hg h.low hw (Nat.le_trans hw h.ge), ?_⟩
  · rw [List.map_append, ← hn]; exact hr
  · have := hg.size; have := h.ge; simp at *; omega
theorem FltR.put1 {w : World} {g1 g2 G : Nat} {t u : List Int} {v : Value} {gl : List Int} {W : World} (h : FltR w g1 g2 G t u v gl W) (h12 : g1 ≠ g2) (h1 : g1 < G) (hw : w.heap.size ≤ g1) {i : Nat} (hi : i < t.length) (x : Int) : FltR w g1 g2 G (t.set i x) u v gl (W.setCell ⟨g1, i, none⟩ (.int .i64 x)) := by
  obtain ⟨cur, ha⟩ := h.a
  obtain ⟨cub, hb⟩ := h.b
  exact ⟨⟨_, ha.set_ hi x⟩, ⟨cub, hb.blk.far (Ne.symm h12) _, hb.at_⟩, put_row h.row h1 _, h.low.setCell (p := ⟨g1, i, none⟩) hw _, by simpa using h.ge⟩
theorem FltR.on {w : World} {g1 g2 G : Nat} {t u : List Int} {v : Value} {gl : List Int} {W W' : World} (h : FltR w g1 g2 G t u v gl W) (hb : Below W.heap.size W W') : FltR w g1 g2 G t u v gl W' := by
  obtain ⟨cur, ha⟩ := h.a
  obtain ⟨cub, hb2⟩ := h.b
  exact ⟨⟨cur, ha.on hb⟩, ⟨cub, hb2.on hb⟩, own_on h.row hb, h.low.trans (hb.mono h.low.size), Nat.le_trans h.ge hb.size⟩
theorem max3 (e d : Int) : max (max e d) (-d) = if (if e < d then d else e) < -d then -d else (if e < d then d else e) := by rw [max_if, max_if]

set_option maxRecDepth 8000 in
set_option maxHeartbeats 8000000 in
theorem fault_law (A : Option Addr) (n c : Nat) (l : List Int) (O : Option Addr) (on oc : Nat) (offs : List Int) (at_ : Nat) (mine other : Int) (w : World) (hn : n = l.length) (hm : n ≤ maxLen) (hcap : n ≤ c) (hcn : A = none → n = 0 ∧ c = 0) (hA : Ints w.heap.size w A l)
    (hon : on = offs.length) (hom : on ≤ maxLen) (hO : Shorts w.heap.size w O offs) (hob : ∀ z ∈ offs, -32768 ≤ z ∧ z ≤ 32767) (hat : at_ < 256) :
    Calls Try.prog 6 #[.slice A n c, .slice O on oc, .int .u8 (at_ : Int), .int .i64 mine, .int .i64 other] w fun e w' => e = .returned (.bool true) ∧ Below w.heap.size w w' := by
  obtain ⟨m, hmin⟩ : ∃ m, m = min n 60 := ⟨_, rfl⟩
  have hfew := fewJ_any A n c m w hcap hm hmin hcn
  have hml : m = (l.take m).length := by rw [List.length_take]; omega
  have hI := hA.take m
  have hnil : A = none → m = 0 ∧ c = 0 := fun h => ⟨by have := hcn h; omega, (hcn h).2⟩
  have hm6 : m ≤ 60 := by omega
  clear hmin hA hn hcn hcap hm
  generalize l.take m = t at *
  have hB := Below.refl w.heap.size w
  have HF := Lib.hid hfew
  clear hfew
  by_cases h4 : m < 4
  · have d1 : decide ((m : Int) < 4) = true := by simp; omega
    clear hml hI hnil hm6 hon hom hO hob hat
    go_enter Try.func6, Try.ntmps6
    go_wp2_with (first
      | (go_at_call 9; refine HF.out.mono ?_; rintro e w1 ⟨rfl, rfl⟩)
      | (go_at_call 15; refine (begun_any _).mono ?_; rintro e w1 ⟨rfl, hC⟩; replace hB := hB.trans (hC.mono hB.size); clear hC))
    go_ret
    exact ⟨rfl, hB⟩
  have d1 : decide ((m : Int) < 4) = false := by simp; omega
  obtain ⟨dd, hdd⟩ : ∃ dd : Nat → Int, dd = fun j => if on = 0 then 0 else nth offs (j % on) := ⟨_, rfl⟩
  have hdb : ∀ j, -32768 ≤ dd j ∧ dd j ≤ 32768 := fun j => by
    rw [hdd]
    show -32768 ≤ (if on = 0 then 0 else nth offs (j % on)) ∧ (if on = 0 then 0 else nth offs (j % on)) ≤ 32768
    split
    · omega
    · have := hob _ (nth_mem (l := offs) (i := j % on) (by rw [← hon]; exact Nat.mod_lt _ (by omega))); omega
  obtain ⟨k, hk⟩ : ∃ k, k = at_ % m := ⟨_, rfl⟩
  have hkm : k < m := by rw [hk]; exact Nat.mod_lt _ (by omega)
  have hrem := rem_nat at_ m
  rw [← hk] at hrem
  have hrem2 : (at_ : Int) % (m : Int) = (k : Int) := by rw [hk]; rfl
  have ea : IntKind.i64.wrap (at_ : Int) = (at_ : Int) := IntWalk.i64_in _ (by omega)
  have hin := fun w1 (h : Below w.heap.size w w1) => (hI.below h).mono h.size
  have hcl := fun w1 (h : Below w.heap.size w w1) => jcopy_any A m c t w1 hml (by omega) (hin w1 h) hnil
  have ht0 : 0 < t.length := by omega
  obtain ⟨i0, hi, hz0, hz1, hz2⟩ := info_parts Try.infoJ
  have HCL := Lib.hid hcl; have HT0 := Lib.hid ht0; have HML := Lib.hid hml; have HDB := Lib.hid hdb; have HDD := Lib.hid hdd; have HO := Lib.hid hO; have HON := Lib.hid hon
  clear hcl ht0 hml hdb hdd hin hI hnil hO hon hob hk hat hrem2
  go_enter Try.func6, Try.ntmps6
  go_wp2_with (first
    | (go_at_call 9; refine HF.out.mono ?_; rintro e w1 ⟨rfl, rfl⟩)
    | (go_at_call 15; refine (begun_any _).mono ?_; rintro e w1 ⟨rfl, hC⟩; replace hB := hB.trans (hC.mono hB.size); clear hC)
    | (have _ := hO1; go_at_call 10; refine (HCL.out _ hB).mono ?_; rintro e w2 ⟨B2, c2, rfl, -, -, ho, -, hC⟩; obtain ⟨g2, cur2, rfl, hg2, hO2⟩ := own_block ho HT0.out; have h12 : g1 ≠ g2 := (by have := hO1.lt; omega); have hw2 := Nat.le_trans hB.size hg2; replace hO1 := hO1.on hC; replace hB := hB.trans (hC.mono hB.size); clear hC ho)
    | (go_at_call 10; refine (HCL.out _ hB).mono ?_; rintro e w1 ⟨B1, c1, rfl, -, -, ho, -, hC⟩; obtain ⟨g1, cur1, rfl, hg1, hO1⟩ := own_block ho HT0.out; have hw1 := Nat.le_trans hB.size hg1; replace hB := hB.trans (hC.mono hB.size); clear hC ho))
  have hG2 : g2 < w2.heap.size := hO2.lt
  have hG1 : g1 < w2.heap.size := hO1.lt
  have hwG : w.heap.size ≤ w2.heap.size := hB.size
  go_loopw [14, 15, 44] (fun gv ev i wr => ∃ j : Nat, j ≤ m ∧ i = .int .i64 j ∧ ev = .int .i64 (eF dd k j) ∧ (∀ q, q < j → q ≠ k → -mOff ≤ nth t q ∧ nth t q ≤ mOff) ∧ (goodF t dd k j).length ≤ 2 * j ∧ FltR w g1 g2 w2.heap.size t (bF t dd k j) gv (goodF t dd k j) wr) (fun _ _ i _ => m - (intOf i).toNat)
  case atStart => exact ⟨0, by omega, rfl, rfl, (fun q hq => absurd hq (Nat.not_lt_zero _)), Nat.le_refl _, ⟨⟨cur1, hO1⟩, ⟨cur2, by rw [bF_zero]; exact hO2⟩, World.ownsRow_nil _ _ _ _, hB, Nat.le_refl _⟩⟩
  case round =>
    obtain ⟨j, hj, rfl, rfl, hall, hgl, hR⟩ := hrel
    clear hO1 hO2 hB
    generalize w2.heap.size = G at *
    have HALL := Lib.hid hall; clear hall
    by_cases hlt : j < m
    · have hjl : j < t.length := by have := HML.out; omega
      by_cases hjk : j = k
      · subst hjk
        have he : eF dd j (j + 1) = eF dd j j := if_pos rfl
        have hg : goodF t dd j (j + 1) = goodF t dd j j := if_pos rfl
        have hb := bF_skip t dd j
        have HE := Lib.hid he; have HG := Lib.hid hg; have HBF := Lib.hid hb; clear he hg hb hjl
        go_wp2
        go_roundw
        case rel => exact ⟨j + 1, by omega, by go_num, by rw [HE.out], (fun q hq hne => HALL.out q (by omega) hne), by rw [HG.out]; omega, by rw [HBF.out, HG.out]; exact hR⟩
        case measure => simp [intOf]; omega
      · have he : eF dd k (j + 1) = max (max (eF dd k j) (dd j)) (-(dd j)) := if_neg hjk
        have hg : goodF t dd k (j + 1) = goodF t dd k j ++ [nth t j, nth t j + dd j] := if_neg hjk
        have hb := bF_step t dd k j hjk hjl
        have hbn := bF_nth t dd k j j hjl
        rw [if_neg (by omega)] at hbn
        have hbn2 := bF_nth t dd k (j + 1) j hjl
        rw [if_pos ⟨by omega, hjk⟩] at hbn2
        obtain ⟨ca, ha⟩ := hR.a
        obtain ⟨cb, hbo⟩ := hR.b
        have hc0 := ha.cell hjl
        have hc1 := hbo.cell (j := j) (by rw [bF_length]; exact hjl)
        rw [hbn] at hc1
        have hl1 := ha.lt
        have hl2 := hbo.lt
        have hf2 := hbo.blk.frozen j
        have hput := fun d => hR.put h12 hG2 hw2 (i := j) (by rw [bF_length]; exact hjl) d
        have dk : ((j : Int) == (k : Int)) = false := by simp; omega
        have dk2 : decide ((j : Int) = (k : Int)) = false := by simp; omega
        have dk3 : (j == k) = false := by simp; omega
        have dk4 : decide (j = k) = false := by simp; omega
        have hdj := HDB.out j
        have hddj : dd j = if on = 0 then 0 else nth offs (j % on) := by rw [HDD.out]
        have hyall : ∀ y, y = nth t j → -mOff ≤ y ∧ y ≤ mOff → ∀ q, q < j + 1 → q ≠ k → -mOff ≤ nth t q ∧ nth t q ≤ mOff := fun y hy hyb q hq hne => by
          by_cases e : q = j
          · rw [e, ← hy]; exact hyb
          · exact HALL.out q (by omega) hne
        replace he := he.trans (max3 _ _)
        have hepos := (eF_bound (dd := dd) (k := k) (B := 32768) (by decide) HDB.out j).1
        obtain ⟨y, hy⟩ : ∃ y, y = nth t j := ⟨_, rfl⟩
        rw [← hy] at hc0 hc1 hg hb hbn2
        obtain ⟨d, hd⟩ : ∃ d, d = dd j := ⟨_, rfl⟩
        rw [← hd] at he hg hb hbn2 hdj hddj
        obtain ⟨E, hE⟩ : ∃ E, E = eF dd k j := ⟨_, rfl⟩
        rw [← hE] at he hepos ⊢
        obtain ⟨F1, hF1⟩ : ∃ F1, (if E < d then d else E) = F1 := ⟨_, rfl⟩
        rw [hF1] at he
        obtain ⟨F, hF⟩ : ∃ F, (if F1 < -d then -d else F1) = F := ⟨_, rfl⟩
        rw [hF] at he
        replace hput := hput (y + d)
        rw [hb] at hput
        replace hyall := hyall y hy
        clear ha hbo hbn hb
        have HY := Lib.hid hy; have HD := Lib.hid hd; have HE := Lib.hid he; have HG := Lib.hid hg; have HBN := Lib.hid hbn2; have HPUT := Lib.hid hput; have HYA := Lib.hid hyall; have HR := Lib.hid hR; have HJL := Lib.hid hjl; have HE0 := Lib.hid hE
        clear hy hd he hg hbn2 hput hyall hR hjl hE hjk
        by_cases y1 : y < -mOff
        · unfold mOff at y1
          go_wp2
          go_ret
          exact ⟨rfl, HR.out.low⟩
        have e1 : decide (y < -1099511627776) = false := by unfold mOff at y1; simp; omega
        by_cases y2 : mOff < y
        · unfold mOff at y2
          have e2 : decide (1099511627776 < y) = true := by simpa using y2
          clear y1
          go_wp2
          go_ret
          exact ⟨rfl, HR.out.low⟩
        have e2 : decide (1099511627776 < y) = false := by unfold mOff at y2; simp; omega
        have hyb : -1099511627776 ≤ y ∧ y ≤ 1099511627776 := by unfold mOff at y1 y2; omega
        replace HYA := Lib.hid (HYA.out hyb)
        clear y1 y2
        have ey : IntKind.i64.wrap (y + d) = y + d := IntWalk.i64_in _ (by omega)
        have en : IntKind.i64.wrap (-d) = -d := IntWalk.i64_in _ (by omega)
        by_cases h0 : on = 0
        · obtain rfl : d = 0 := by rw [hddj, if_pos h0]
          subst h0
          clear hddj
          rw [Int.neg_zero] at hF
          rw [if_neg (by omega)] at hF1
          subst hF1
          rw [if_neg (by omega)] at hF
          subst hF
          have hput := HPUT.out; rw [Int.add_zero] at hput; replace HPUT := Lib.hid hput; clear hput
          have hbn := HBN.out; rw [Int.add_zero] at hbn; replace HBN := Lib.hid hbn; clear hbn
          have hg := HG.out; rw [Int.add_zero] at hg; replace HG := Lib.hid hg; clear hg
          go_wp2
          have hX := HPUT.out
          generalize hx : wr.setCell ⟨g2, j, none⟩ (.int .i64 y) = x at *
          clear hx
          have hR2 := hX.drew
          clear hX HPUT
          obtain ⟨ca, ha⟩ := hR2.a
          obtain ⟨cb, hbo⟩ := hR2.b
          have hc0 := ha.cell HJL.out
          have hc1 := hbo.cell (j := j) (by rw [bF_length]; exact HJL.out)
          rw [← HY.out] at hc0
          rw [HBN.out] at hc1
          have hl1 := ha.lt
          have hl2 := hbo.lt
          have al := Below.al x.drew (.cells #[.int .i64 y, .int .i64 y] 2)
          have ha9 := ha.on al
          have hb9 := hbo.on al
          have k0 := ha9.cell HJL.out
          have k1 := hb9.cell (j := j) (by rw [bF_length]; exact HJL.out)
          rw [← HY.out] at k0
          rw [HBN.out] at k1
          obtain ⟨vA, vc, hv⟩ := own_slice hR2.row
          subst hv
          have ho9 := own_on hR2.row al
          have hbk := Blk.new x.drew 2 #[.int .i64 y, .int .i64 y]
          have hGx : G ≤ (x.drew.alloc (.cells #[.int .i64 y, .int .i64 y] 2)).heap.size := by have := hR2.ge; simp at *; omega
          clear ha hbo ha9 hb9 al
          generalize hgn : (goodF t dd k j).length = gn at *
          go_region_held3 (fun w' => w'.cell? ⟨g1, j, none⟩ = some (.int .i64 y) ∧ w'.cell? ⟨g2, j, none⟩ = some (.int .i64 y)) (first | exact ⟨hc0, hc1⟩ | exact ⟨k0, k1⟩ | exact ⟨p0, p1⟩) (first
            | (refine step_append_own2 _ rfl (.tmp 85) (.tmp 94) 22 rfl G 2 i0 (.int .i64 0) 1 8 Try.underlying22 hi hz0 hz1 hz2 rfl (by decide) (.slice vA gn vc) gn _ (by simp [Act.eval]) ho9 ⟨x.drew.heap.size, 0, none⟩ 2 2 [.int .i64 y, .int .i64 y] (by simp [Act.eval]) rfl (World.news_of_block hbk) (by simp [Value.oneCell']) (by unfold maxLen; omega) (by omega) hGx ?_; intro v' w4 hown hgrow; have hR4 := hR2.app (gm := [y, y]) hwG hG1 hG2 hgrow hown (by rw [List.length_append, hgn]; rfl); obtain ⟨cc, hcc⟩ := hR4.a; obtain ⟨cd, hcd⟩ := hR4.b; have p0 := hcc.cell HJL.out; have p1 := hcd.cell (j := j) (by rw [bF_length]; exact HJL.out); rw [← HY.out] at p0; rw [HBN.out] at p1))
          rw [← HG.out] at hR4
          have HR4 := Lib.hid hR4
          clear hR4 ho9 hbk hown hgrow hR2 hc0 hc1 k0 k1 p0 p1
          go_wp2
          go_roundw
          case rel => exact ⟨j + 1, by omega, by go_num, by rw [HE.out], HYA.out, by rw [HG.out, List.length_append, hgn]; show gn + 2 ≤ _; omega, HR4.out⟩
          case measure => simp [intOf]; omega
        · rw [if_neg h0] at hddj
          have hr1 := rem_nat j on
          have hr2 : j % on < on := Nat.mod_lt _ (by omega)
          obtain ⟨bo, oo, rfl, hbo, hco⟩ := (HO.out.below HR.out.low) (by intro e; have := HON.out; rw [e] at this; exact h0 this)
          have hc2 := hco (j % on) (by rw [← HON.out]; exact hr2)
          have hbw : bo < wr.heap.size := Nat.lt_of_lt_of_le hbo HR.out.low.size
          rw [← hddj] at hc2
          have d0 : decide (0 < (on : Int)) = true := by simp; omega
          have d5 : ((on : Int) == 0) = false := by simp; omega
          generalize j % on = r at *
          have ed : IntKind.i64.wrap d = d := IntWalk.i64_in _ (by omega)
          clear hco hddj
          go_wp2
          clear hc2 hr1
          have hX := HPUT.out
          generalize hx : wr.setCell ⟨g2, j, none⟩ (.int .i64 ((y + d))) = x at *
          clear hx
          have hR2 := hX.drew
          clear hX HPUT
          obtain ⟨ca, ha⟩ := hR2.a
          obtain ⟨cb, hbo⟩ := hR2.b
          have hc0 := ha.cell HJL.out
          have hc1 := hbo.cell (j := j) (by rw [bF_length]; exact HJL.out)
          rw [← HY.out] at hc0
          rw [HBN.out] at hc1
          have hl1 := ha.lt
          have hl2 := hbo.lt
          have al := Below.al x.drew (.cells #[.int .i64 y, .int .i64 ((y + d))] 2)
          have ha9 := ha.on al
          have hb9 := hbo.on al
          have k0 := ha9.cell HJL.out
          have k1 := hb9.cell (j := j) (by rw [bF_length]; exact HJL.out)
          rw [← HY.out] at k0
          rw [HBN.out] at k1
          obtain ⟨vA, vc, hv⟩ := own_slice hR2.row
          subst hv
          have ho9 := own_on hR2.row al
          have hbk := Blk.new x.drew 2 #[.int .i64 y, .int .i64 ((y + d))]
          have hGx : G ≤ (x.drew.alloc (.cells #[.int .i64 y, .int .i64 ((y + d))] 2)).heap.size := by have := hR2.ge; simp at *; omega
          clear ha hbo ha9 hb9 al
          generalize hgn : (goodF t dd k j).length = gn at *
          go_region_held3 (fun w' => w'.cell? ⟨g1, j, none⟩ = some (.int .i64 y) ∧ w'.cell? ⟨g2, j, none⟩ = some (.int .i64 ((y + d)))) (first | exact ⟨hc0, hc1⟩ | exact ⟨k0, k1⟩ | exact ⟨p0, p1⟩) (first
            | (refine step_append_own2 _ rfl (.tmp 85) (.tmp 94) 22 rfl G 2 i0 (.int .i64 0) 1 8 Try.underlying22 hi hz0 hz1 hz2 rfl (by decide) (.slice vA gn vc) gn _ (by simp [Act.eval]) ho9 ⟨x.drew.heap.size, 0, none⟩ 2 2 [.int .i64 y, .int .i64 ((y + d))] (by simp [Act.eval]) rfl (World.news_of_block hbk) (by simp [Value.oneCell']) (by unfold maxLen; omega) (by omega) hGx ?_; intro v' w4 hown hgrow; have hR4 := hR2.app (gm := [y, (y + d)]) hwG hG1 hG2 hgrow hown (by rw [List.length_append, hgn]; rfl); obtain ⟨cc, hcc⟩ := hR4.a; obtain ⟨cd, hcd⟩ := hR4.b; have p0 := hcc.cell HJL.out; have p1 := hcd.cell (j := j) (by rw [bF_length]; exact HJL.out); rw [← HY.out] at p0; rw [HBN.out] at p1))
          rw [← HG.out] at hR4
          have HR4 := Lib.hid hR4
          clear hR4 ho9 hbk hown hgrow hR2 hc0 hc1 k0 k1 p0 p1
          go_wp2
          go_roundw
          case rel => exact ⟨j + 1, by omega, by go_num, by rw [HE.out], HYA.out, by rw [HG.out, List.length_append, hgn]; show gn + 2 ≤ _; omega, HR4.out⟩
          case measure => simp [intOf]; omega
    · obtain rfl : j = m := by omega
      have hkl : k < t.length := by have := HML.out; omega
      have htl : t.length = j := HML.out.symm
      have hput := (hR.put1 h12 hG1 hw1 hkl mine).put h12 hG2 hw2 (i := k) (by rw [bF_length]; exact hkl) other
      have hmath := fault_math t dd k mine other (by omega) hkl HDB.out (fun q hq hne => HALL.out q (by omega) hne)
      rw [htl] at hmath
      have hgl2 : (goodF t dd k j).length ≤ 65536 := by omega
      have hsp := fun A c w1 (h : Ints w1.heap.size w1 A (goodF t dd k j)) => spread_any A (goodF t dd k j).length c (goodF t dd k j) w1 rfl hgl2 h
      have hma := fun B d w1 (h : Ints w1.heap.size w1 B (t.set k mine)) => mid_any B j d (t.set k mine) w1 (by rw [List.length_set]; exact htl.symm) (by omega) h
      have hmb := fun B d w1 (h : Ints w1.heap.size w1 B ((bF t dd k j).set k other)) => mid_any B j d ((bF t dd k j).set k other) w1 (by rw [List.length_set, bF_length]; exact htl.symm) (by omega) h
      have heb := (eF_bound (dd := dd) (k := k) (B := 32768) (by decide) HDB.out j)
      have hE0 := heb.1; have hE1 := heb.2.1
      clear heb
      obtain ⟨ca, ha⟩ := hR.a
      obtain ⟨cb, hbo⟩ := hR.b
      have hf1 := ha.blk.frozen k
      have hf2 := hbo.blk.frozen k
      have hl1 := ha.lt
      have hl2 := hbo.lt
      have hs1 := ha.cell hkl
      have hs2 := hbo.cell (j := k) (by rw [bF_length]; exact hkl)
      clear ha hbo hR hkl htl hgl hgl2 HALL
      obtain ⟨gA, gc, hgv⟩ := own_slice hput.row
      subst hgv
      unfold midV at hma hmb
      generalize midS (t.set k mine) = p at *
      generalize midS ((bF t dd k j).set k other) = q at *
      obtain ⟨p1, p2⟩ := p
      obtain ⟨q1, q2⟩ := q
      dsimp only at hmath hma hmb
      generalize spreadS (goodF t dd k j) = S at *
      generalize eF dd k j = E at *
      obtain ⟨ca2, ha2⟩ := hput.a
      have hia := ha2.ints
      have HX := Lib.hid hput; have HMAT := Lib.hid hmath; have HSP := Lib.hid hsp; have HMA := Lib.hid hma; have HMB := Lib.hid hmb; have HIA := Lib.hid hia
      clear hput hmath hsp hma hmb ha2 hia
      generalize hgn : (goodF t dd k j).length = gn at *
      have b1 : ∀ x : Int, ¬ x = 0 → (x == 0) = false ∧ (x != 0) = true ∧ decide (x = 0) = false := fun x hx => ⟨by simpa using hx, by simpa using hx, by simpa using hx⟩
      by_cases a0 : p2 = 0
      · subst a0
        by_cases b0 : q2 = 0
        · subst b0
          clear b1
          obtain ⟨m1, m2, m3, m4, m5, m6, m7, m8⟩ := HMAT.out rfl rfl
          unfold mOff at m4 m5 m6 m7 m8
          have e1 : IntKind.i64.wrap (p1 - q1) = p1 - q1 := IntWalk.i64_in _ (by omega)
          have e2 : IntKind.i64.wrap (q1 - p1) = q1 - p1 := IntWalk.i64_in _ (by omega)
          have e3 : wrap64 S = S := IntWalk.wrap64_in _ (by omega)
          have hD2 : 2 * max (p1 - q1) (q1 - p1) ≤ S + E + 2 ∧ 0 ≤ max (p1 - q1) (q1 - p1) ∧ max (p1 - q1) (q1 - p1) ≤ 4398046511104 := by omega
          have e4 : wrap64 (2 * max (p1 - q1) (q1 - p1)) = 2 * max (p1 - q1) (q1 - p1) := IntWalk.wrap64_in _ (by omega)
          have e5 : IntKind.i64.wrap (S + E) = S + E := IntWalk.i64_in _ (by omega)
          have e6 : IntKind.i64.wrap (S + E + 2) = S + E + 2 := IntWalk.i64_in _ (by omega)
          have e7 : decide (2 * max (p1 - q1) (q1 - p1) ≤ S + E + 2) = true := by simpa using hD2.1
          clear m1 m2 m3 m4 m5 m6 m7 m8 HMAT hD2
          go_wp2_with (first
          | (go_at_call 13; refine (HMA.out _ _ _ HIA.out).mono ?_; rintro e w3 ⟨rfl, hC⟩; have hX3 := HX.out.on hC; obtain ⟨cb2, hb2⟩ := hX3.b; have hib := hb2.ints; clear hC HX HIA hb2 hf1 hf2 hl1 hl2 hs1 hs2)
          | (go_at_call 13; refine (HMB.out _ _ _ hib).mono ?_; rintro e w4 ⟨rfl, hC⟩; have hX4 := hX3.on hC; clear hC hX3 hib; obtain ⟨A2, c2, hv, -, -, hI⟩ := ints_own hX4.row; have hlow := hX4.low; injection hv with v1 v2 v3; subst v1; clear hX4 v2 v3)
          | (go_at_call 16; refine (HSP.out _ _ _ hI).mono ?_; rintro e w5 ⟨rfl, rfl⟩))
          go_ret
          exact ⟨rfl, hlow⟩
        · obtain ⟨b2, b3, b4⟩ := b1 _ b0
          clear b1 HMAT
          go_wp2_with (first
          | (go_at_call 13; refine (HMA.out _ _ _ HIA.out).mono ?_; rintro e w3 ⟨rfl, hC⟩; have hX3 := HX.out.on hC; obtain ⟨cb2, hb2⟩ := hX3.b; have hib := hb2.ints; clear hC HX HIA hb2 hf1 hf2 hl1 hl2 hs1 hs2)
          | (go_at_call 13; refine (HMB.out _ _ _ hib).mono ?_; rintro e w4 ⟨rfl, hC⟩; have hX4 := hX3.on hC; clear hC hX3 hib))
          go_ret
          exact ⟨rfl, hX4.low⟩
      · obtain ⟨b2, b3, b4⟩ := b1 _ a0
        clear b1 HMAT
        go_wp2_with (first
          | (go_at_call 13; refine (HMA.out _ _ _ HIA.out).mono ?_; rintro e w3 ⟨rfl, hC⟩; have hX3 := HX.out.on hC; obtain ⟨cb2, hb2⟩ := hX3.b; have hib := hb2.ints; clear hC HX HIA hb2 hf1 hf2 hl1 hl2 hs1 hs2)
          | (go_at_call 13; refine (HMB.out _ _ _ hib).mono ?_; rintro e w4 ⟨rfl, hC⟩; have hX4 := hX3.on hC; clear hC hX3 hib))
        go_ret
        exact ⟨rfl, hX4.low⟩
end Go.Proofs.Ytfncccjiiipfoaa
