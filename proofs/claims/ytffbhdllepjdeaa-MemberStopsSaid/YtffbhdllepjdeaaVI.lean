/-
  Views of package member, whole, and the set of a number among them. No condition.
-/
import Derived.Test.YtffbhdllepjdeaaVH
namespace Go.Proofs.Ytffbhdllepjdeaa
open Go.RowKit Go.Shelf
attribute [local go_sem] Oper.semAt_some

/-- A sequence that tells a list of up to two sets, with their numbers. -/
abbrev TellsZ (n gf : Nat) (lb : Array Value) (L : List Int) (w : World) : Prop :=
  SeqStopsK Fence.wide n Try.prog gf lb encZ (fun _ _ => True) (fun ys => ys = upZ L L.length) (fun pre => ∃ k, k ≤ L.length ∧ pre = upZ L k) 2 w
/-- What Views answers. -/
def ViewsGives (w : World) (L : List Int) (e : Ending) (w' : World) : Prop :=
  ∃ (gf : Nat) (lb : Array Value), e = .returned (.func (.func gf) #[] lb) ∧ (∀ args w, (callFunc gf args).run Try.prog w = .ok (.enter gf args) w) ∧ (∀ w'', Below w'.heap.size w' w'' → ∀ n, 1 ≤ n → TellsZ n gf lb L w'') ∧ Below w.heap.size w w'

set_option maxRecDepth 8000 in
set_option maxHeartbeats 1000000 in
theorem views_any (m : MV) (s : Int) (w : World) : Calls Try.prog 15 #[.agg m.cells, .int .i64 s] w (ViewsGives w (viewsV m s)) := by
  obtain ⟨k1, k2, bc⟩ := bx2 w m.cells #[.int .i64 s] 23 3
  have H1 := Lib.hid k1; have H2 := Lib.hid k2; have BC := Lib.hid bc; clear k1 k2 bc
  obtain ⟨x, hx⟩ : ∃ x, x = m.cells := ⟨_, rfl⟩
  rw [← hx] at H1 H2 BC ⊢
  have HX := Lib.hid hx
  obtain ⟨I, N, S, A, F, G, R⟩ := m
  unfold MV.cells at hx
  dsimp only at hx
  subst hx
  go_enter Try.func15, Try.ntmps15
  go_wp2
  go_ret
  refine ⟨35, _, rfl, enters_of Try.func35 (by kernel_rfl) rfl, fun w'' hD q hq => ?_, BC.out⟩
  refine fun lp J Jx W hW hJ _ hY h0 => views1_in q lp _ _ hq _ s J Jx W hJ (fun d pre x W1 h hl => (yieldAt_any rfl d (hY pre x W1 h hl)).mono fun e W' h => ?_) ((H1.out.on hD).below hW (H1.out.on hD).lt) ((H2.out.on hD).below hW (H2.out.on hD).lt) h0
  rcases h with ⟨h1, h2, _⟩ | h
  · exact .inl ⟨h1, h2⟩
  · exact .inr h

/-- What lies in viewOf's own variables. -/
def ViewI (w : World) (k : Int) (W : World) : Prop :=
  Blk W (w.heap.size + 1) 3 #[.int .i64 k] ∧ Blk W (w.heap.size + 1 + 1) 3 #[.int .i64 0] ∧ Blk W (w.heap.size + 1 + 1 + 1) 4 #[.bool false] ∧ Below w.heap.size w W ∧ w.heap.size + 4 ≤ W.heap.size
def ViewX (w : World) (v : Int) (W : World) : Prop :=
  Blk W (w.heap.size + 1 + 1) 3 #[.int .i64 v] ∧ Blk W (w.heap.size + 1 + 1 + 1) 4 #[.bool true] ∧ Below w.heap.size w W ∧ w.heap.size + 4 ≤ W.heap.size
theorem bk_kept {W W' : World} {g : Nat} {t : TypeId} {cs : Array Value} {row : Option Nat} (h : Blk W g t cs) (hg : W.grownBy W' row) (hr : ∀ r, row = some r → ∃ o : Obj, W.heap[r]? = some o ∧ o.isCells = false) : Blk W' g t cs := by
  refine h.grown hg (fun e => ?_)
  obtain ⟨o, ho, hc⟩ := hr g e.symm
  unfold Blk at h
  rw [h] at ho
  cases ho
  cases hc
theorem viewI_kept {w : World} {k : Int} {X Y : World} {row : Option Nat} (h : ViewI w k X) (hg : X.grownBy Y row) (hr : ∀ r, row = some r → w.heap.size + 4 ≤ r ∧ ∃ o : Obj, X.heap[r]? = some o ∧ o.isCells = false) : ViewI w k Y := by
  obtain ⟨h1, h2, h3, h5, h6⟩ := h
  have hr' : ∀ r, row = some r → ∃ o : Obj, X.heap[r]? = some o ∧ o.isCells = false := fun r e => (hr r e).2
  exact ⟨bk_kept h1 hg hr', bk_kept h2 hg hr', bk_kept h3 hg hr', h5.grown hg (by omega) (fun q e => by have := (hr q e).1; omega), Nat.le_trans h6 hg.size⟩
theorem viewX_kept {w : World} {v : Int} {X Y : World} {row : Option Nat} (h : ViewX w v X) (hg : X.grownBy Y row) (hr : ∀ r, row = some r → w.heap.size + 4 ≤ r ∧ ∃ o : Obj, X.heap[r]? = some o ∧ o.isCells = false) : ViewX w v Y := by
  obtain ⟨h2, h3, h5, h6⟩ := h
  have hr' : ∀ r, row = some r → ∃ o : Obj, X.heap[r]? = some o ∧ o.isCells = false := fun r e => (hr r e).2
  exact ⟨bk_kept h2 hg hr', bk_kept h3 hg hr', h5.grown hg (by omega) (fun q e => by have := (hr q e).1; omega), Nat.le_trans h6 hg.size⟩

theorem upZ_length (L : List Int) (k : Nat) : (upZ L k).length = k := by simp [upZ]
theorem upZ_last {L : List Int} {k : Nat} {pre : List (Nat × Int)} {x : Nat × Int} (h : pre ++ [x] = upZ L k) : ∃ j, k = j + 1 ∧ x = (j, L[j]?.getD 0) := by
  have hl := congrArg List.length h
  rw [upZ_length, List.length_append, List.length_singleton] at hl
  refine ⟨pre.length, hl.symm, ?_⟩
  rw [← hl] at h
  unfold upZ at h
  rw [List.range_succ, List.map_append] at h
  have := (List.append_inj' h rfl).2
  simpa using this
/-- No number told so far is the one that is asked for. -/
def NotYet (k : Int) (pre : List (Nat × Int)) : Prop := ∀ y ∈ pre, (y.1 : Int) ≠ k

set_option maxRecDepth 100000 in
set_option maxHeartbeats 4000000 in
theorem viewOf_any (m : MV) (s k : Int) (w : World) : Calls Try.prog 42 #[.agg m.cells, .int .i64 s, .int .i64 k] w fun e w' => e = .returned (.tuple #[.int .i64 ((viewOfV m s k).getD 0), .bool (viewOfV m s k).isSome]) ∧ Below w.heap.size w w' := by
  have hvw := fun W => views_any m s W
  unfold viewOfV
  obtain ⟨L, hL⟩ : ∃ L, L = viewsV m s := ⟨_, rfl⟩
  rw [← hL] at hvw ⊢
  clear hL
  obtain ⟨o, ho⟩ : ∃ o, o = if k < 0 then none else L[k.toNat]? := ⟨_, rfl⟩
  rw [← ho]
  have HO := Lib.hid ho; clear ho
  obtain ⟨k0, k1, k2, k3, bc⟩ := bx4 w m.cells #[.int .i64 k] #[.int .i64 0] #[.bool false] 23 3 3 4
  have hsz : ((((w.alloc (.cells m.cells 23)).alloc (.cells #[.int .i64 k] 3)).alloc (.cells #[.int .i64 0] 3)).alloc (.cells #[.bool false] 4)).heap.size = w.heap.size + 4 := by simp
  clear k0
  have hW0 : ViewI w k ((((w.alloc (.cells m.cells 23)).alloc (.cells #[.int .i64 k] 3)).alloc (.cells #[.int .i64 0] 3)).alloc (.cells #[.bool false] 4)) := ⟨k1, k2, k3, bc, by omega⟩
  clear k1 k2 k3 bc
  obtain ⟨I, N, S, A, F, G, R⟩ := m
  unfold MV.cells at *
  dsimp only at *
  have HV := Lib.hid hvw; have HW := Lib.hid hW0; clear hvw hW0
  refine (callsIn_wide (n := 5)).1 ?_
  refine callsIn_of_wp_marks Try.func42 rfl trivial ?_ rfl
  simp only [Try.ntmps42, List.size_toArray, List.length_cons, List.length_nil, Nat.reduceAdd, Nat.reduceSub, Array.replicate_succ, Array.replicate_zero, List.push_toArray, List.append_toArray, List.nil_append, List.cons_append]
  gi_wp2_with fail
  generalize (((w.alloc _).alloc _).alloc _).alloc _ = W0 at *
  refine ⟨trivial, ?_⟩
  refine (callsIn_wide.2 (HV.out _)).mono ?_
  rintro e W1 ⟨gf, lb, rfl, hent, htells, hB⟩
  dsimp only
  have hI1 := viewI_kept HW.out (only_of_below hB none) (fun r e => by cases e)
  have hs1 : w.heap.size + 4 ≤ W1.heap.size := hI1.2.2.2.2
  have HT := Lib.hid htells; have HE := Lib.hid hent; have HI := Lib.hid hI1; clear htells hent hI1 HW hB
  gi_wp2_with fail
  rename_i Q' K hK0
  have HK := Lib.hid hK0; clear hK0
  refine wpIn_rangeFunc_ownG rfl (by omega) (gf := gf) (lb := lb) rfl trivial HE.out (HT.out W1 (Below.refl _ _) (5 - 1) (by omega)) (fun _ _ => trivial) (fun _ _ _ _ _ _ _ _ => trivial) (Below.refl _ _) (fun _ => rfl)
    (fun pre W => ViewI w k W ∧ NotYet k pre)
    (fun cd pre W => cd = .ret ∧ ∃ pre' x, pre = pre' ++ [x] ∧ (x.1 : Int) = k ∧ ViewX w x.2 W)
    (fun s X Y row hs hgr hr => ⟨viewI_kept hs.1 hgr (fun r e => ⟨by have := (hr r e).1; omega, (hr r e).2⟩), hs.2⟩)
    (fun cd s X Y row hs hgr hr => ⟨hs.1, by obtain ⟨p', x, h1, h2, h3⟩ := hs.2; exact ⟨p', x, h1, h2, viewX_kept h3 hgr (fun r e => ⟨by have := (hr r e).1; omega, (hr r e).2⟩)⟩⟩)
    ⟨HI.out, fun _ h => by cases h⟩
    (fun x => { tmps := #[.agg (cM I N S A F G R), .int .i64 s, .int .i64 k, .pointer (some ⟨w.heap.size, 0, none⟩), undef, .pointer (some ⟨w.heap.size + 1, 0, none⟩), .pointer (some ⟨w.heap.size + 1 + 1, 0, none⟩), .pointer (some ⟨w.heap.size + 1 + 1 + 1, 0, none⟩), .int .i64 (x.1 : Int), .int .i64 x.2, .agg (cM I N S A F G R), .int .i64 s, .func (.func gf) #[] lb, .int .i64 (x.1 : Int), .int .i64 x.2, undef, undef, undef, undef], defers := [] }) ?assign ?body ?done ?stop
  case assign =>
    intro l x W K hK
    gi_wp2
    simpa [encZ] using hK
  case body =>
    rintro lp pre x W ⟨⟨h1, h2, h3, hb, hz⟩, hny⟩ hlt
    obtain ⟨p1, -⟩ := h1.one
    obtain ⟨p2, f2⟩ := h2.one
    obtain ⟨p3, f3⟩ := h3.one
    by_cases hx : (x.1 : Int) = k
    · have hd : ((x.1 : Int) == k) = true := by simpa using hx
      gi_wp2
      refine ⟨((KeepsOthers.setCell _ _ _).trans (KeepsOthers.setCell _ _ _)).from _, rfl, pre, x, rfl, hx, ?_, ?_, (hb.setCell (p := ⟨w.heap.size + 1 + 1, 0, none⟩) (by dsimp only; omega) _).setCell (p := ⟨w.heap.size + 1 + 1 + 1, 0, none⟩) (by dsimp only; omega) _, by simpa using hz⟩
      · exact (h2.put1 _).far (p := ⟨w.heap.size + 1 + 1 + 1, 0, none⟩) (by dsimp only; omega) _
      · exact (h3.far (p := ⟨w.heap.size + 1 + 1, 0, none⟩) (by dsimp only; omega) _).put1 _
    · have hd : ((x.1 : Int) == k) = false := by simpa using hx
      gi_wp2
      refine ⟨(KeepsOthers.refl _).from _, trivial, ⟨h1, h2, h3, hb, hz⟩, ?_⟩
      intro y hy
      rcases List.mem_append.1 hy with h | h
      · exact hny y h
      · obtain rfl : y = x := by simpa using h
        exact hx
  case done =>
    rintro D ys W hD rfl ⟨⟨h1, h2, h3, hb, hz⟩, hny⟩ hK
    obtain ⟨p2, f2⟩ := h2.one
    obtain ⟨p3, f3⟩ := h3.one
    have hnone : o = none := by
      rw [HO.out]
      split
      · rfl
      · rename_i hk0
        refine List.getElem?_eq_none ?_
        rcases Nat.lt_or_ge k.toNat L.length with h | h
        · exfalso
          refine hny (k.toNat, L[k.toNat]?.getD 0) ?_ (by dsimp only; omega)
          unfold upZ
          exact List.mem_map.2 ⟨k.toNat, List.mem_range.2 h, rfl⟩
        · exact h
    subst hnone
    refine HK.out _ _ ?_
    gi_wp2
    have hD2 : D ≠ w.heap.size + 1 + 1 := by omega
    have hD3 : D ≠ w.heap.size + 1 + 1 + 1 := by omega
    have hKd : ((W.setCell ⟨w.heap.size + 1 + 1, 0, none⟩ (.int .i64 0)).setCell ⟨w.heap.size + 1 + 1 + 1, 0, none⟩ (.bool false)).heap[D]? = some (.deferred (some [])) := (Below.heap_setCell _ _ _ D hD3).trans ((Below.heap_setCell _ _ _ D hD2).trans hK)
    refine ⟨by simp, .inl ⟨_, _, rfl, run_takeDeferred hKd, ?_⟩⟩
    clear p2 p3 f2 f3
    have j2 : Blk (((W.setCell ⟨w.heap.size + 1 + 1, 0, none⟩ (.int .i64 0)).setCell ⟨w.heap.size + 1 + 1 + 1, 0, none⟩ (.bool false)).putObj D (.deferred none)) (w.heap.size + 1 + 1) 3 #[.int .i64 0] := Blk.grown ((h2.put1 _).far (p := ⟨w.heap.size + 1 + 1 + 1, 0, none⟩) (by dsimp only; omega) _) (grownBy_putObj' _ D _) (fun e => hD2 (Option.some.inj e).symm)
    have j3 : Blk (((W.setCell ⟨w.heap.size + 1 + 1, 0, none⟩ (.int .i64 0)).setCell ⟨w.heap.size + 1 + 1 + 1, 0, none⟩ (.bool false)).putObj D (.deferred none)) (w.heap.size + 1 + 1 + 1) 4 #[.bool false] := Blk.grown ((h3.far (p := ⟨w.heap.size + 1 + 1, 0, none⟩) (by dsimp only; omega) _).put1 _) (grownBy_putObj' _ D _) (fun e => hD3 (Option.some.inj e).symm)
    have jb : Below w.heap.size w (((W.setCell ⟨w.heap.size + 1 + 1, 0, none⟩ (.int .i64 0)).setCell ⟨w.heap.size + 1 + 1 + 1, 0, none⟩ (.bool false)).putObj D (.deferred none)) := ((hb.setCell (p := ⟨w.heap.size + 1 + 1, 0, none⟩) (by dsimp only; omega) _).setCell (p := ⟨w.heap.size + 1 + 1 + 1, 0, none⟩) (by dsimp only; omega) _).grown (grownBy_putObj' _ D _) (by simp; omega) (fun q e => by have := Option.some.inj e; omega)
    generalize ((W.setCell ⟨w.heap.size + 1 + 1, 0, none⟩ (.int .i64 0)).setCell ⟨w.heap.size + 1 + 1 + 1, 0, none⟩ (.bool false)).putObj D (.deferred none) = U at *
    obtain ⟨p2, -⟩ := j2.one
    obtain ⟨p3, -⟩ := j3.one
    exact ⟨.tuple #[.int .i64 0, .bool false], by simp [results, Try.results42, go_sem, p2, p3], rfl, jb⟩
  case stop =>
    rintro D cd pre W hD ⟨q, hq, hpre⟩ ⟨rfl, p', x, hp, hxk, h2, h3, hb, hz⟩ hK
    obtain ⟨p2, f2⟩ := h2.one
    obtain ⟨p3, f3⟩ := h3.one
    obtain ⟨j, hj, rfl⟩ := upZ_last (hp.symm.trans hpre)
    have hsome : o = some (L[j]?.getD 0) := by
      rw [HO.out, if_neg (by dsimp only at hxk; omega), show k.toNat = j by dsimp only at hxk; omega]
      rw [List.getElem?_eq_getElem (by omega)]
      rfl
    subst hsome
    gi_wp2
    have hD2 : D ≠ w.heap.size + 1 + 1 := by omega
    have hD3 : D ≠ w.heap.size + 1 + 1 + 1 := by omega
    refine ⟨by simp, .inl ⟨_, _, rfl, run_takeDeferred hK, ?_⟩⟩
    clear p2 p3 f2 f3
    have j2 : Blk ((W).putObj D (.deferred none)) (w.heap.size + 1 + 1) 3 #[.int .i64 (L[j]?.getD 0)] := Blk.grown h2 (grownBy_putObj' _ D _) (fun e => hD2 (Option.some.inj e).symm)
    have j3 : Blk ((W).putObj D (.deferred none)) (w.heap.size + 1 + 1 + 1) 4 #[.bool true] := Blk.grown h3 (grownBy_putObj' _ D _) (fun e => hD3 (Option.some.inj e).symm)
    have jb : Below w.heap.size w ((W).putObj D (.deferred none)) := hb.grown (grownBy_putObj' _ D _) (by omega) (fun q e => by have := Option.some.inj e; omega)
    generalize (W).putObj D (.deferred none) = U at *
    obtain ⟨p2, -⟩ := j2.one
    obtain ⟨p3, -⟩ := j3.one
    exact ⟨.tuple #[.int .i64 (L[j]?.getD 0), .bool true], by simp [results, Try.results42, go_sem, p2, p3], rfl, jb⟩
end Go.Proofs.Ytffbhdllepjdeaa
