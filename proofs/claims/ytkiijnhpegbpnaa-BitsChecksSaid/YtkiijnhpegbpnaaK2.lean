/-
  What is told by a sequence of places and bits, up to so many. Condition: the sequence tells a list of bits, each at its place.
-/
import Derived.Test.YtkiijnhpegbpnaaK1
namespace Go.Proofs.Ytkiijnhpegbpnaa
open Go.RowKit Go.Shelf
attribute [local go_sem] Oper.semAt_some

theorem run_equalIn_func_nil (d gf : Nat) (lb : Array Value) (W : World) : (Op.equalIn (d + 1) 34 (.func (.func gf) #[] lb) .nilFunc).run Try.prog W = .ok false W := by
  simp [Op.equalIn, run_underlying Try.underlying34]
theorem run_eql_func_nil (gf : Nat) (lb : Array Value) (W : World) : (binOp .eql 34 (.func (.func gf) #[] lb) .nilFunc).run Try.prog W = .ok (.bool false) W := by
  simp only [binOp]
  simp [Op.equal, Op.maxDepth, run_equalIn_func_nil 9999 gf lb W]

/-- What lies in told's own variables. -/
def ToldI (w : World) (most k : Nat) (xs : List Value) (W : World) : Prop :=
  (∃ v, Boxed W (w.heap.size + 1 + 1 + 1) 25 v ∧ W.ownsRow (w.heap.size + 4) 4 1 v k xs ∧ True) ∧ Boxed W w.heap.size 3 (.int .i64 most) ∧ Boxed W (w.heap.size + 1) 25 (.slice none 0 0) ∧ Boxed W (w.heap.size + 1 + 1) 4 (.bool false) ∧ Below w.heap.size w W ∧ w.heap.size + 4 ≤ W.heap.size
theorem toldI_kept {w : World} {most k : Nat} {xs : List Value} {X Y : World} {row : Option Nat} (h : ToldI w most k xs X) (hg : X.grownBy Y row) (hr : ∀ r, row = some r → w.heap.size + 4 ≤ r ∧ ∃ o : Obj, X.heap[r]? = some o ∧ o.isCells = false) : ToldI w most k xs Y := by
  obtain ⟨h1, h2, h3, h4, h5, h6⟩ := h
  have hr' : ∀ r, row = some r → ∃ o : Obj, X.heap[r]? = some o ∧ o.isCells = false := fun r e => (hr r e).2
  refine ⟨holdsRow_own (w.heap.size + 4) (w.heap.size + 1 + 1 + 1) 25 4 1 (fun _ : Unit => k) (fun _ => xs) (fun _ _ => True) () X Y row h1 hg hr', boxed_own _ _ (fun _ : Unit => _) () X Y row h2 hg hr', boxed_own _ _ (fun _ : Unit => _) () X Y row h3 hg hr', boxed_own _ _ (fun _ : Unit => _) () X Y row h4 hg hr', ?_, Nat.le_trans h6 hg.size⟩
  exact h5.grown hg (by omega) (fun q e => by have := (hr q e).1; omega)
theorem upto_fst (l : List Bool) (k : Nat) (pre : List (Nat × Bool)) (x : Nat × Bool) (h : pre ++ [x] = upto l k) : x.1 = pre.length := by
  have hl : pre.length + 1 = k := by have := congrArg List.length h; simpa [upto_length] using this
  have h2 : (upto l k)[pre.length]? = some x := by rw [← h]; simp
  subst hl
  simp [upto] at h2
  rw [← h2]
theorem upto_take (l : List Bool) (k : Nat) (h : k ≤ l.length) : (upto l k).map (fun y => Value.bool y.2) = (l.take k).map Value.bool := by
  apply List.ext_getElem
  · simp [upto]; omega
  · intro i h1 h2
    simp [upto] at h1 ⊢
    rw [List.getElem?_eq_getElem (by omega)]; rfl

set_option maxRecDepth 100000 in
set_option maxHeartbeats 2000000 in
theorem told_any (gf : Nat) (lb : Array Value) (g ob most : Nat) (l : List Bool) (w : World) (hlen : l.length ≤ 4096) (hmost : most ≤ 9999)
    (hent : ∀ args w, (callFunc gf args).run Try.prog w = .ok (.enter gf args) w) (htells : ∀ n, 1 ≤ n → Tells n gf lb g ob l w) (hg : g < w.heap.size) (ho : ob < w.heap.size) :
    Calls Try.prog 11 #[.func (.func gf) #[] lb, .int .i64 most] w fun e w' => ∃ v, e = .returned (.tuple #[v, .bool true]) ∧ w'.ownsRow w.heap.size 4 1 v (l.take most).length ((l.take most).map Value.bool) ∧ Below w.heap.size w w' := by
  have HT := Lib.hid htells; have HE := Lib.hid hent; clear htells hent
  obtain ⟨tk, htk⟩ : ∃ tk, tk = l.take most := ⟨_, rfl⟩
  rw [← htk]
  have HTK := Lib.hid htk; clear htk
  refine (callsIn_wide (n := 5)).1 ?_
  refine callsIn_of_wp_marks Try.func11 rfl trivial ?_ rfl
  simp only [Try.ntmps11, List.size_toArray, List.length_cons, List.length_nil, Nat.reduceAdd, Nat.reduceSub, Array.replicate_succ, Array.replicate_zero, List.push_toArray, List.append_toArray, List.nil_append, List.cons_append]
  have hnil := run_eql_func_nil gf lb
  gi_wp2
  clear hnil
  obtain ⟨i0, hi, hz0, hz1, hz2⟩ := info_parts Try.info4
  have hW0 : ToldI w most 0 [] ((((w.alloc (.cells #[.int .i64 most] 3)).alloc (.cells #[.slice none 0 0] 25)).alloc (.cells #[.bool false] 4)).alloc (.cells #[.slice none 0 0] 25)) := by
    refine ⟨⟨_, ?_, World.ownsRow_nil _ _ _ _, trivial⟩, ?_, ?_, ?_, ?_, by simp⟩
    · simpa using Boxed.new (((w.alloc (.cells #[.int .i64 most] 3)).alloc (.cells #[.slice none 0 0] 25)).alloc (.cells #[.bool false] 4)) 25 (.slice none 0 0)
    · exact (((Boxed.new w 3 (.int .i64 most)).alloc _).alloc _).alloc _
    · have := ((Boxed.new (w.alloc (.cells #[.int .i64 most] 3)) 25 (.slice none 0 0)).alloc (.cells #[.bool false] 4)).alloc (.cells #[.slice none 0 0] 25)
      simpa using this
    · have := (Boxed.new ((w.alloc (.cells #[.int .i64 most] 3)).alloc (.cells #[.slice none 0 0] 25)) 4 (.bool false)).alloc (.cells #[.slice none 0 0] 25)
      simpa using this
    · exact ((((Below.refl _ _).alloc (Nat.le_refl _) _).alloc (by simp) _).alloc (by simp; omega) _).alloc (by simp; omega) _
  have hsz : ((((w.alloc (.cells #[.int .i64 most] 3)).alloc (.cells #[.slice none 0 0] 25)).alloc (.cells #[.bool false] 4)).alloc (.cells #[.slice none 0 0] 25)).heap.size = w.heap.size + 4 := by simp
  generalize (((w.alloc (.cells #[.int .i64 most] 3)).alloc (.cells #[.slice none 0 0] 25)).alloc (.cells #[.bool false] 4)).alloc (.cells #[.slice none 0 0] 25) = W0 at *
  refine wpIn_rangeFunc_ownG rfl (by omega) (gf := gf) (lb := lb) rfl trivial HE.out (HT.out (5 - 1) (by omega)) Keeps2.trans (keeps2_b (by omega) (by omega)) hW0.2.2.2.2.1 (fun _ => rfl)
    (fun pre W => ToldI w most pre.length (pre.map (fun y : Nat × Bool => Value.bool y.2)) W ∧ pre.length ≤ most)
    (fun cd pre W => (cd = .exit 0 ∧ ToldI w most most ((pre.take most).map (fun y : Nat × Bool => Value.bool y.2)) W ∧ pre.length = most + 1) ∨ (cd = .ret ∧ ∃ pre' x, pre = pre' ++ [x] ∧ x.1 ≠ pre'.length))
    (fun s X Y row hs hgr hr => ⟨toldI_kept hs.1 hgr (fun r e => by rw [← hsz]; exact hr r e), hs.2⟩)
    (fun cd s X Y row hs hgr hr => by
      rcases hs with ⟨h1, h2, h3⟩ | h
      · exact .inl ⟨h1, toldI_kept h2 hgr (fun r e => by rw [← hsz]; exact hr r e), h3⟩
      · exact .inr h)
    ⟨hW0, Nat.zero_le _⟩
    (fun x => { tmps := #[.func (.func gf) #[] lb, .int .i64 most, undef, .pointer (some ⟨w.heap.size, 0, none⟩), .pointer (some ⟨w.heap.size + 1, 0, none⟩), .pointer (some ⟨w.heap.size + 1 + 1, 0, none⟩), .pointer (some ⟨w.heap.size + 1 + 1 + 1, 0, none⟩), .int .i64 (x.1 : Int), .bool x.2, .func (.func gf) #[] lb, .bool false, .func (.func gf) #[] lb, .int .i64 (x.1 : Int), .bool x.2, undef, undef, undef, undef, undef, undef, undef, undef, undef, undef, undef, undef, undef], defers := [] }) ?assign ?body ?done ?stop
  case assign =>
    intro l x W K hK
    gi_wp2
    exact hK
  case body =>
    rintro lp pre ⟨j, b⟩ W ⟨⟨⟨v, hv, hrow, _⟩, hb1, hb2, hb3, hBb, hsW⟩, hle⟩ hlt
    obtain ⟨VA, vc, rfl, hVA⟩ : ∃ A c, v = .slice A pre.length c ∧ True := by
      rcases hrow.2 with ⟨rfl, h0⟩ | ⟨g', cap', cur', rfl, _⟩
      · exact ⟨none, 0, by rw [h0], trivial⟩
      · exact ⟨_, _, rfl, trivial⟩
    have hc := hv.cell
    have hcm := hb1.cell
    dsimp only
    by_cases hge : most ≤ pre.length
    · obtain rfl : most = pre.length := by omega
      gi_wp2
      refine ⟨(KeepsOthers.refl _).from _, .inl ⟨rfl, ⟨⟨_, hv, ?_, trivial⟩, hb1, hb2, hb3, hBb, hsW⟩, by simp⟩⟩
      rw [List.take_left']
      · exact hrow
      · rfl
    · have hlt2 : pre.length < most := by omega
      by_cases hj : j = pre.length
      · subst hj
        have hne : ((pre.length : Int) != (pre.length : Int)) = false := by simp
        gi_wp2_with (gi_at_builtin; refine wpListIn_append_own _ rfl _ _ 25 rfl (w.heap.size + 4) 4 i0 (.bool false) 1 1 Try.underlying25 hi hz0 hz1 hz2 rfl (by decide) _ _ _ rfl (hrow.alloc _) ⟨W.heap.size, 0, none⟩ 1 1 [.bool b] rfl rfl (cell_one_new _ _ _) (by simp [Value.oneCell']) (by unfold maxLen; omega) (by omega) (by simp; omega) ?_; intro v' w2 hown' hgrow _; obtain ⟨g', cap', rfl⟩ := ownsRow_succ hown'; obtain ⟨hv1, hv2, hr2, hk2, hbb2, hq2⟩ := appended2 (n₀ := w.heap.size) hv (by decide) hrow hsW (by omega) (by omega) hown' hgrow; have hc1 := hv1.cell; have hf1 := hv1.frozen)
        refine ⟨hk2.from _, ⟨hq2 g (by omega) (by omega), hq2 ob (by omega) (by omega)⟩, ⟨⟨_, hv2, ?_, trivial⟩, (hq2 _ (by omega) (by omega)).trans hb1, (hq2 _ (by omega) (by omega)).trans hb2, (hq2 _ (by omega) (by omega)).trans hb3, hBb.trans hbb2, Nat.le_trans hsW hk2.size⟩, by simp; omega⟩
        rw [List.map_append, List.length_append]
        exact hr2
      · have hne : ((j : Int) != (pre.length : Int)) = true := by rw [bne_iff_ne]; omega
        have hc2 := hb2.cell
        have hf2 := hb2.frozen
        have hc3 := hb3.cell
        have hf3 := hb3.frozen
        gi_wp2
        exact ⟨((KeepsOthers.setCell _ _ _).trans (KeepsOthers.setCell _ _ _)).from _, .inr ⟨rfl, pre, (j, b), rfl, hj⟩⟩
  case done =>
    rintro D ys W hD rfl ⟨⟨⟨v, hv, hrow, _⟩, hb1, hb2, hb3, hBb, hsW⟩, hle⟩ hK
    rw [upto_length] at hle hrow
    rw [upto_take l l.length (Nat.le_refl _), List.take_length] at hrow
    have htk : tk = l := by rw [HTK.out]; exact List.take_of_length_le hle
    rw [← htk] at hrow
    obtain ⟨VA, vc, rfl, hVA⟩ := bools_of_own hrow
    clear htk hVA hle
    have hc := hv.cell
    have hc2 := hb2.cell
    have hf2 := hb2.frozen
    have hc3 := hb3.cell
    have hf3 := hb3.frozen
    gi_wp2
    have hK' := ((KeepsOthers.setCell W ⟨w.heap.size + 1, 0, none⟩ (.slice VA tk.length vc)).trans (KeepsOthers.setCell _ ⟨w.heap.size + 1 + 1, 0, none⟩ (.bool true))).same D _ hK rfl
    have hx2 : Boxed ((W.setCell ⟨w.heap.size + 1, 0, none⟩ (.slice VA tk.length vc)).setCell ⟨w.heap.size + 1 + 1, 0, none⟩ (.bool true)) (w.heap.size + 1) 25 (.slice VA tk.length vc) := (Below.heap_setCell _ _ _ _ (by simp)).trans (hb2.set _)
    have hx3 : Boxed ((W.setCell ⟨w.heap.size + 1, 0, none⟩ (.slice VA tk.length vc)).setCell ⟨w.heap.size + 1 + 1, 0, none⟩ (.bool true)) (w.heap.size + 1 + 1) 4 (.bool true) := Boxed.set _ ((Below.heap_setCell _ _ _ _ (by simp)).trans hb3)
    have hgp := grownBy_putObj' ((W.setCell ⟨w.heap.size + 1, 0, none⟩ (.slice VA tk.length vc)).setCell ⟨w.heap.size + 1 + 1, 0, none⟩ (.bool true)) D (.deferred none)
    have hy2 := (hx2.kept hgp (by simp; omega)).cell
    have hy3 := (hx3.kept hgp (by simp; omega)).cell
    refine ⟨by simp, .inl ⟨_, _, rfl, run_takeDeferred hK', ?_⟩⟩
    refine ⟨.tuple #[.slice VA tk.length vc, .bool true], by simp [results, Try.results11, go_sem, hy2, hy3], _, rfl, ?_, ?_⟩
    · have r1 := hrow.kept (grownBy_setCell' W (w.heap.size + 1) (.slice VA tk.length vc)) (.inr fun e => by have := (hrow.lt _ e).1; omega)
      have r2 := r1.kept (grownBy_setCell' _ (w.heap.size + 1 + 1) (.bool true)) (.inr fun e => by have := (r1.lt _ e).1; omega)
      exact own_mono (ownsRow_putObj r2 _ hK' rfl) (by omega)
    · exact ((hBb.setCell (p := ⟨w.heap.size + 1, 0, none⟩) (by simp) _).setCell (p := ⟨w.heap.size + 1 + 1, 0, none⟩) (by simp; omega) _).grown hgp (by simp; omega) (fun k e => by injection e with e; omega)
  case stop =>
    rintro D cd pre W hD ⟨k, hk, rfl⟩ h hK
    rcases h with ⟨rfl, ⟨⟨v, hv, hrow, _⟩, hb1, hb2, hb3, hBb, hsW⟩, hle⟩ | ⟨_, pre', x, hp, hx⟩
    rotate_left
    · exact absurd (upto_fst l k pre' x hp.symm) hx
    rw [upto_length] at hle
    have htl : tk.length = most := by rw [HTK.out]; simp; omega
    rw [List.map_take, upto_take l k hk, ← List.map_take, List.take_take, Nat.min_eq_left (by omega), ← HTK.out, ← htl] at hrow
    obtain ⟨VA, vc, rfl, hVA⟩ := bools_of_own hrow
    clear hVA hle htl
    have hc := hv.cell
    have hc2 := hb2.cell
    have hf2 := hb2.frozen
    have hc3 := hb3.cell
    have hf3 := hb3.frozen
    gi_wp2
    have hK' := ((KeepsOthers.setCell W ⟨w.heap.size + 1, 0, none⟩ (.slice VA tk.length vc)).trans (KeepsOthers.setCell _ ⟨w.heap.size + 1 + 1, 0, none⟩ (.bool true))).same D _ hK rfl
    have hx2 : Boxed ((W.setCell ⟨w.heap.size + 1, 0, none⟩ (.slice VA tk.length vc)).setCell ⟨w.heap.size + 1 + 1, 0, none⟩ (.bool true)) (w.heap.size + 1) 25 (.slice VA tk.length vc) := (Below.heap_setCell _ _ _ _ (by simp)).trans (hb2.set _)
    have hx3 : Boxed ((W.setCell ⟨w.heap.size + 1, 0, none⟩ (.slice VA tk.length vc)).setCell ⟨w.heap.size + 1 + 1, 0, none⟩ (.bool true)) (w.heap.size + 1 + 1) 4 (.bool true) := Boxed.set _ ((Below.heap_setCell _ _ _ _ (by simp)).trans hb3)
    have hgp := grownBy_putObj' ((W.setCell ⟨w.heap.size + 1, 0, none⟩ (.slice VA tk.length vc)).setCell ⟨w.heap.size + 1 + 1, 0, none⟩ (.bool true)) D (.deferred none)
    have hy2 := (hx2.kept hgp (by simp; omega)).cell
    have hy3 := (hx3.kept hgp (by simp; omega)).cell
    refine ⟨by simp, .inl ⟨_, _, rfl, run_takeDeferred hK', ?_⟩⟩
    refine ⟨.tuple #[.slice VA tk.length vc, .bool true], by simp [results, Try.results11, go_sem, hy2, hy3], _, rfl, ?_, ?_⟩
    · have r1 := hrow.kept (grownBy_setCell' W (w.heap.size + 1) (.slice VA tk.length vc)) (.inr fun e => by have := (hrow.lt _ e).1; omega)
      have r2 := r1.kept (grownBy_setCell' _ (w.heap.size + 1 + 1) (.bool true)) (.inr fun e => by have := (r1.lt _ e).1; omega)
      exact own_mono (ownsRow_putObj r2 _ hK' rfl) (by omega)
    · exact ((hBb.setCell (p := ⟨w.heap.size + 1, 0, none⟩) (by simp) _).setCell (p := ⟨w.heap.size + 1 + 1, 0, none⟩) (by simp; omega) _).grown hgp (by simp; omega) (fun k e => by injection e with e; omega)
end Go.Proofs.Ytkiijnhpegbpnaa
