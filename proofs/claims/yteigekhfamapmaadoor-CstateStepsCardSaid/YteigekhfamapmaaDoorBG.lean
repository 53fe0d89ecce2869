/-
  Count of package cstate, and what is told of a sequence of members, up to so many. No condition.
-/
import Derived.Test.YteigekhfamapmaaDoorBF
import Derived.Test.YteigekhfamapmaaDoorH3
namespace Go.Proofs.YteigekhfamapmaaDoor
open Go.RowKit Go.Shelf
attribute [local go_sem] Oper.semAt_some

/-- What lies in Count's own variable. -/
def CountI (w : World) (k : Nat) (W : World) : Prop := Boxed W (w.heap.size + 1) 3 (.int .i64 (k : Int)) ∧ Below w.heap.size w W ∧ w.heap.size + 2 ≤ W.heap.size
theorem countI_kept {w : World} {k : Nat} {X Y : World} {row : Option Nat} (h : CountI w k X) (hg : X.grownBy Y row) (hr : ∀ r, row = some r → w.heap.size + 2 ≤ r ∧ ∃ o : Obj, X.heap[r]? = some o ∧ o.isCells = false) : CountI w k Y := by
  obtain ⟨h1, h5, h6⟩ := h
  have hr' : ∀ r, row = some r → ∃ o : Obj, X.heap[r]? = some o ∧ o.isCells = false := fun r e => (hr r e).2
  refine ⟨boxed_own _ _ (fun _ : Unit => _) () X Y row h1 hg hr', ?_, Nat.le_trans h6 hg.size⟩
  exact h5.grown hg (by omega) (fun q e => by have := (hr q e).1; omega)

set_option maxRecDepth 100000 in
set_option maxHeartbeats 2000000 in
theorem count_any (c : CS) (w : World) : Calls Tryd.prog 26 #[.agg c.cells] w fun e w' => e = .returned (.int .i64 (memC c).length) ∧ Below w.heap.size w w' := by
  have hall := fun w1 => members_any c w1
  have hlen : (memC c).length ≤ 8 := memTo_length c 8
  obtain ⟨s0, s1, s2, s3, s4⟩ := c
  unfold CS.cells at *
  dsimp only at *
  generalize hc : CS.mk s0 s1 s2 s3 s4 = c at *
  have HALL := Lib.hid hall; clear hall hc
  refine (callsIn_wide (n := 5)).1 ?_
  refine callsIn_of_wp_marks Tryd.func26 rfl trivial ?_ rfl
  simp only [Tryd.ntmps26, List.size_toArray, List.length_cons, List.length_nil, Nat.reduceAdd, Nat.reduceSub, Array.replicate_succ, Array.replicate_zero, List.push_toArray, List.append_toArray, List.nil_append, List.cons_append]
  gi_wp2_with fail
  refine ⟨trivial, ?_⟩
  refine (callsIn_wide.2 (HALL.out _)).mono ?_
  rintro e w1 ⟨gf, lb, ob, rfl, hent, htells, ho1, ho2, hB⟩
  dsimp only
  have HT := Lib.hid htells; have HE := Lib.hid hent; clear htells hent
  gi_wp2_with fail
  have bD : Boxed w1 (w.heap.size + 1) 3 (.int .i64 0) := by
    have h2 : Boxed ((w.alloc (.cells #[.int .i64 s0, .int .i64 s1, .int .i64 s2, .int .i64 s3, .int .i64 s4] 23)).alloc (.cells #[.int .i64 0] 3)) (w.heap.size + 1) 3 (.int .i64 0) := by
      simpa using Boxed.new (w.alloc (.cells #[.int .i64 s0, .int .i64 s1, .int .i64 s2, .int .i64 s3, .int .i64 s4] 23)) 3 (.int .i64 0)
    exact (hB.block _ (by simp)).trans h2
  have hBw : Below w.heap.size w w1 := (((Below.refl _ _).alloc (Nat.le_refl _) _).alloc (by simp) _).trans (hB.mono (by simp; omega))
  have ho3 : w.heap.size + 2 ≤ ob := by simpa using ho1
  clear ho1 hB
  refine wpIn_rangeFunc_ownG rfl (by omega) (gf := gf) (lb := lb) rfl trivial HE.out (HT.out (5 - 1) (by omega)) Keeps2.trans (keeps2_b ho2 ho2) (Below.refl _ _) (fun _ => rfl)
    (fun pre W => CountI w pre.length W)
    (fun _ _ _ => False)
    (fun s X Y row hs hgr hr => countI_kept hs hgr (fun r e => ⟨by have := (hr r e).1; omega, (hr r e).2⟩))
    (fun _ _ _ _ _ hs _ _ => hs)
    ⟨bD, hBw, by omega⟩
    (fun x => { tmps := #[.agg #[.int .i64 s0, .int .i64 s1, .int .i64 s2, .int .i64 s3, .int .i64 s4], .pointer (some ⟨w.heap.size, 0, none⟩), .int .i64 0, .pointer (some ⟨w.heap.size + 1, 0, none⟩), .agg #[.int .i64 s0, .int .i64 s1, .int .i64 s2, .int .i64 s3, .int .i64 s4], .func (.func gf) #[] lb, .int .i64 (x : Int), undef, undef, undef], defers := [] }) ?assign ?body ?done ?stop
  case assign =>
    intro l x W K hK
    gi_wp2
    simpa [enc1] using hK
  case body =>
    rintro lp pre x W ⟨hv, hBb, hsz⟩ hlt
    have hc := hv.cell
    have hf := hv.frozen
    have hwr : IntKind.i64.wrap ((pre.length : Int) + 1) = (pre.length : Int) + 1 := IntWalk.i64_in _ (by omega)
    gi_wp2
    refine ⟨(KeepsOthers.setCell _ _ _).from _, ⟨Below.heap_setCell _ _ _ _ (by simp; omega), Below.heap_setCell _ _ _ _ (by simp; omega)⟩, ?_, hBb.setCell (p := ⟨w.heap.size + 1, 0, none⟩) (by simp) _, by simpa using hsz⟩
    have := hv.set (.int .i64 ((pre.length : Int) + 1))
    rw [List.length_append, List.length_singleton]
    exact this
  case done =>
    rintro D ys W hD rfl ⟨hv, hBb, hsz⟩ hK
    have hc := hv.cell
    gi_wp2
    refine ⟨by simp, .inl ⟨_, _, rfl, run_takeDeferred hK, ?_⟩⟩
    exact ⟨_, results_tmp rfl _ _ _, rfl, hBb.trans (belowK_b (w := w) (Nat.le_refl _) W D _ _ (by omega) hK rfl rfl)⟩
  case stop =>
    rintro D c pre W _ _ h _
    exact h.elim

theorem Tryd.info3m : (Tryd.prog.info? 3).map (fun i => (i.zero, i.size, i.bytes)) = some (some (.int .i64 0), 1, 8) := by kernel_rfl
/-- Nodes as places. -/
def places4 (l : List Nat) : List Int := l.map fun (x : Nat) => (x : Int)
theorem ints_own4 {w : World} {base : Nat} {v : Value} {k : Nat} {l : List Nat} (h : w.ownsRow base 3 1 v k (l.map fun (x : Nat) => Value.int .i64 (x : Int))) : ∃ A c, v = .slice A l.length c ∧ l.length ≤ c ∧ Ints w.heap.size w A (places4 l) := by
  have hk : l.length = k := by have := h.1; simpa using this
  rcases h.2 with ⟨rfl, h0⟩ | ⟨g, cap, cur, rfl, _, hh, hcap, _⟩
  · exact ⟨none, 0, by rw [hk, h0], by omega, fun hne => absurd (by have := hk.trans h0; simpa [places4] using this) hne⟩
  · refine ⟨some ⟨g, 0, none⟩, cap, by rw [hk], ?_, fun _ => ⟨g, 0, rfl, (Array.getElem?_eq_some_iff.1 hh).1, fun j hj => ?_⟩⟩
    · omega
    · have hj' : j < l.length := by simpa [places4] using hj
      have := h.cells (g := g) rfl j (.int .i64 ((places4 l)[j]?.getD 0)) (by simp [places4, hj'])
      rwa [addr_add] at this

theorem run_equalIn_seq_nil (d gf : Nat) (lb : Array Value) (W : World) : (Op.equalIn (d + 1) 47 (.func (.func gf) #[] lb) .nilFunc).run Tryd.prog W = .ok false W := by
  simp [Op.equalIn, run_underlying Tryd.underlying47]
theorem run_eql_seq_nil (gf : Nat) (lb : Array Value) (W : World) : (binOp .eql 47 (.func (.func gf) #[] lb) .nilFunc).run Tryd.prog W = .ok (.bool false) W := by
  simp only [binOp]
  simp [Op.equal, Op.maxDepth, run_equalIn_seq_nil 9999 gf lb W]

/-- What lies in told's own variables. -/
def ToldM (w : World) (most k : Nat) (xs : List Value) (W : World) : Prop :=
  (∃ v, Boxed W (w.heap.size + 1) 39 v ∧ W.ownsRow (w.heap.size + 2) 3 1 v k xs ∧ True) ∧ Boxed W w.heap.size 3 (.int .i64 most) ∧ Below w.heap.size w W ∧ w.heap.size + 2 ≤ W.heap.size
theorem toldM_kept {w : World} {most k : Nat} {xs : List Value} {X Y : World} {row : Option Nat} (h : ToldM w most k xs X) (hg : X.grownBy Y row) (hr : ∀ r, row = some r → w.heap.size + 2 ≤ r ∧ ∃ o : Obj, X.heap[r]? = some o ∧ o.isCells = false) : ToldM w most k xs Y := by
  obtain ⟨h1, h2, h5, h6⟩ := h
  have hr' : ∀ r, row = some r → ∃ o : Obj, X.heap[r]? = some o ∧ o.isCells = false := fun r e => (hr r e).2
  refine ⟨holdsRow_own (w.heap.size + 2) (w.heap.size + 1) 39 3 1 (fun _ : Unit => k) (fun _ => xs) (fun _ _ => True) () X Y row h1 hg hr', boxed_own _ _ (fun _ : Unit => _) () X Y row h2 hg hr', ?_, Nat.le_trans h6 hg.size⟩
  exact h5.grown hg (by omega) (fun q e => by have := (hr q e).1; omega)

set_option maxRecDepth 100000 in
set_option maxHeartbeats 2000000 in
theorem told4_any (gf : Nat) (lb : Array Value) (ob most : Nat) (c : CS) (w : World) (hmost : most ≤ 9999)
    (hent : ∀ args w, (callFunc gf args).run Tryd.prog w = .ok (.enter gf args) w) (htells : ∀ n, 1 ≤ n → TellsM n gf lb ob c w) (ho : ob < w.heap.size) :
    Calls Tryd.prog 28 #[.func (.func gf) #[] lb, .int .i64 most] w fun e w' => ∃ v, e = .returned v ∧ w'.ownsRow w.heap.size 3 1 v ((memC c).take most).length (((memC c).take most).map fun (x : Nat) => Value.int .i64 (x : Int)) ∧ Below w.heap.size w w' := by
  have HT := Lib.hid htells; have HE := Lib.hid hent; clear htells hent
  obtain ⟨tk, htk⟩ : ∃ tk, tk = (memC c).take most := ⟨_, rfl⟩
  rw [← htk]
  have HTK := Lib.hid htk; clear htk
  refine (callsIn_wide (n := 5)).1 ?_
  refine callsIn_of_wp_marks Tryd.func28 rfl trivial ?_ rfl
  simp only [Tryd.ntmps28, List.size_toArray, List.length_cons, List.length_nil, Nat.reduceAdd, Nat.reduceSub, Array.replicate_succ, Array.replicate_zero, List.push_toArray, List.append_toArray, List.nil_append, List.cons_append]
  have hnil := run_eql_seq_nil gf lb
  gi_wp2
  clear hnil
  obtain ⟨i0, hi, hz0, hz1, hz2⟩ := info_parts Tryd.info3m
  have hW0 : ToldM w most 0 [] ((w.alloc (.cells #[.int .i64 most] 3)).alloc (.cells #[.slice none 0 0] 39)) := by
    refine ⟨⟨_, ?_, World.ownsRow_nil _ _ _ _, trivial⟩, ?_, ?_, by simp⟩
    · simpa using Boxed.new (w.alloc (.cells #[.int .i64 most] 3)) 39 (.slice none 0 0)
    · exact (Boxed.new w 3 (.int .i64 most)).alloc _
    · exact ((Below.refl _ _).alloc (Nat.le_refl _) _).alloc (by simp) _
  have hsz : ((w.alloc (.cells #[.int .i64 most] 3)).alloc (.cells #[.slice none 0 0] 39)).heap.size = w.heap.size + 2 := by simp
  generalize (w.alloc (.cells #[.int .i64 most] 3)).alloc (.cells #[.slice none 0 0] 39) = W0 at *
  refine wpIn_rangeFunc_ownG rfl (by omega) (gf := gf) (lb := lb) rfl trivial HE.out (HT.out (5 - 1) (by omega)) Keeps2.trans (keeps2_b (by omega) (by omega)) hW0.2.2.1 (fun _ => rfl)
    (fun pre W => ToldM w most pre.length (pre.map (fun (x : Nat) => Value.int .i64 (x : Int))) W ∧ pre.length ≤ most)
    (fun cd pre W => cd = .exit 0 ∧ ToldM w most most ((pre.take most).map (fun (x : Nat) => Value.int .i64 (x : Int))) W ∧ pre.length = most + 1)
    (fun s X Y row hs hgr hr => ⟨toldM_kept hs.1 hgr (fun r e => by rw [← hsz]; exact hr r e), hs.2⟩)
    (fun cd s X Y row hs hgr hr => ⟨hs.1, toldM_kept hs.2.1 hgr (fun r e => by rw [← hsz]; exact hr r e), hs.2.2⟩)
    ⟨hW0, Nat.zero_le _⟩
    (fun x => { tmps := #[.func (.func gf) #[] lb, .int .i64 most, undef, .pointer (some ⟨w.heap.size, 0, none⟩), .slice none 0 0, .pointer (some ⟨w.heap.size + 1, 0, none⟩), .int .i64 (x : Int), .func (.func gf) #[] lb, .bool false, .func (.func gf) #[] lb, .int .i64 (x : Int), undef, undef, undef, undef, undef, undef, undef, undef, undef], defers := [] }) ?assign ?body ?done ?stop
  case assign =>
    intro l x W K hK
    gi_wp2
    exact hK
  case body =>
    rintro lp pre x W ⟨⟨⟨v, hv, hrow, _⟩, hb1, hBb, hsW⟩, hle⟩ hlt
    obtain ⟨VA, vc, rfl, hVA⟩ : ∃ A c, v = .slice A pre.length c ∧ True := by
      rcases hrow.2 with ⟨rfl, h0⟩ | ⟨g', cap', cur', rfl, _⟩
      · exact ⟨none, 0, by rw [h0], trivial⟩
      · exact ⟨_, _, rfl, trivial⟩
    have hc := hv.cell
    have hcm := hb1.cell
    by_cases hge : most ≤ pre.length
    · obtain rfl : most = pre.length := by omega
      gi_wp2
      refine ⟨(KeepsOthers.refl _).from _, rfl, ⟨⟨_, hv, ?_, trivial⟩, hb1, hBb, hsW⟩, by simp⟩
      rw [List.take_left']
      · exact hrow
      · rfl
    · have hlt2 : pre.length < most := by omega
      gi_wp2_with (gi_at_builtin; refine wpListIn_append_own _ rfl _ _ 39 rfl (w.heap.size + 2) 3 i0 (.int .i64 0) 1 8 Tryd.underlying39 hi hz0 hz1 hz2 rfl (by decide) _ _ _ rfl (hrow.alloc _) ⟨W.heap.size, 0, none⟩ 1 1 [.int .i64 (x : Int)] rfl rfl (cell_one_new _ _ _) (by simp [Value.oneCell']) (by unfold maxLen; omega) (by omega) (by simp; omega) ?_; intro v' w2 hown' hgrow _; obtain ⟨g', cap', rfl⟩ := ownsRow_succ hown'; obtain ⟨hv1, hv2, hr2, hk2, hbb2, hq2⟩ := appended2 (n₀ := w.heap.size) hv (by decide) hrow hsW (by omega) (by omega) hown' hgrow; have hc1 := hv1.cell; have hf1 := hv1.frozen)
      refine ⟨hk2.from _, ⟨hq2 ob (by omega) (by omega), hq2 ob (by omega) (by omega)⟩, ⟨⟨_, hv2, ?_, trivial⟩, (hq2 _ (by omega) (by omega)).trans hb1, hBb.trans hbb2, Nat.le_trans hsW hk2.size⟩, by simp; omega⟩
      rw [List.map_append, List.length_append]
      exact hr2
  case done =>
    rintro D ys W hD rfl ⟨⟨⟨v, hv, hrow, _⟩, hb1, hBb, hsW⟩, hle⟩ hK
    have htk : tk = memC c := by rw [HTK.out]; exact List.take_of_length_le hle
    rw [← htk] at hrow
    clear htk hle
    have hc := hv.cell
    gi_wp2
    refine ⟨by simp, .inl ⟨_, _, rfl, run_takeDeferred hK, ?_⟩⟩
    exact ⟨_, results_tmp rfl _ _ _, _, rfl, own_mono (ownsRow_putObj hrow _ hK rfl) (by omega), hBb.trans (belowK_b (w := w) (Nat.le_refl _) W D _ _ (by omega) hK rfl rfl)⟩
  case stop =>
    rintro D cd pre W hD ⟨k, hk, rfl⟩ ⟨rfl, ⟨⟨v, hv, hrow, _⟩, hb1, hBb, hsW⟩, hle⟩ hK
    have htk : tk = (memTo c k).take most := by
      obtain ⟨r, hr⟩ := memTo_pre c hk
      rw [HTK.out]
      show (memTo c 8).take most = _
      rw [hr, List.take_append_of_le_length (by omega)]
    have htl : tk.length = most := by rw [htk]; simp; omega
    rw [← htk, ← htl] at hrow
    clear htk htl hle
    have hc := hv.cell
    gi_wp2
    refine ⟨by simp, .inl ⟨_, _, rfl, run_takeDeferred hK, ?_⟩⟩
    exact ⟨_, results_tmp rfl _ _ _, _, rfl, own_mono (ownsRow_putObj hrow _ hK rfl) (by omega), hBb.trans (belowK_b (w := w) (Nat.le_refl _) W D _ _ (by omega) hK rfl rfl)⟩

set_option maxHeartbeats 1000000 in
/-- slices.Equal, of two lists of numbers that are the same. -/
theorem isame_yes (A A' : Option Addr) (c c' n : Nat) (l : List Int) (w : World) (hn : n = l.length) (hm : n ≤ maxLen) (hA : Ints w.heap.size w A l) (hA' : Ints w.heap.size w A' l) :
    Calls Tryd.prog 27 #[.slice A n c, .slice A' n c'] w fun e w' => e = .returned (.bool true) ∧ Below w.heap.size w w' := by
  unfold maxLen at hm
  have HN := Lib.hid hn; clear hn
  go_enter Tryd.func27, Tryd.ntmps27
  go_wp2
  go_loopw [13] (fun i wr => ∃ (k q : Nat), k ≤ n ∧ i = .int .i64 k ∧ wr = w.drewN q)
    (fun i _ => n - (intOf i).toNat)
  case atStart => exact ⟨0, 0, by omega, rfl, rfl⟩
  case round =>
    obtain ⟨k, q, hk, rfl, rfl⟩ := hrel
    by_cases hlt : k < n
    · obtain ⟨b, off, rfl, _, hcell⟩ := hA.at_ (k := k) (by have := HN.out; omega)
      obtain ⟨b', off', rfl, _, hcell'⟩ := hA'.at_ (k := k) (by have := HN.out; omega)
      have hki : (k : Int) < (n : Int) := by omega
      generalize l[k]?.getD 0 = x at *
      go_wp2
      go_quiet (fail)
      go_wp2
      go_roundw
      case rel => exact ⟨k + 1, _, by omega, by go_num, rfl⟩
      case measure => simp [intOf]; omega
    · go_wp2
      go_ret
      exact ⟨rfl, below_drewN (Below.refl _ _) _⟩
end Go.Proofs.YteigekhfamapmaaDoor
