/-
  What is told of a sequence of sets, up to so many. Conditions: those that the theorem names.
-/
import Derived.Test.YtffbhdllepjdeaaVL
namespace Go.Proofs.Ytffbhdllepjdeaa
open Go.RowKit Go.Shelf
attribute [local go_sem] Oper.semAt_some

theorem Try.info3z : (Try.prog.info? 3).map (fun i => (i.zero, i.size, i.bytes)) = some (some (.int .i64 0), 1, 8) := by kernel_rfl
theorem run_equalIn_seqz_nil (d gf : Nat) (lb : Array Value) (W : World) : (Op.equalIn (d + 1) 32 (.func (.func gf) #[] lb) .nilFunc).run Try.prog W = .ok false W := by
  simp [Op.equalIn, run_underlying Try.underlying32]
theorem run_eql_seqz_nil (gf : Nat) (lb : Array Value) (W : World) : (binOp .eql 32 (.func (.func gf) #[] lb) .nilFunc).run Try.prog W = .ok (.bool false) W := by
  simp only [binOp]
  simp [Op.equal, Op.maxDepth, run_equalIn_seqz_nil 9999 gf lb W]
/-- Sets as cells. -/
def valsZ (l : List Int) : List Value := l.map fun z => Value.int .i64 z
theorem ints_ownZ {w : World} {base : Nat} {v : Value} {k : Nat} {l : List Int} (h : w.ownsRow base 3 1 v k (valsZ l)) : ∃ A c, v = .slice A l.length c ∧ l.length ≤ c ∧ (A = none → l.length = 0 ∧ c = 0) ∧ Ints w.heap.size w A l := by
  have hk : l.length = k := by have := h.1; simpa [valsZ] using this
  rcases h.2 with ⟨rfl, h0⟩ | ⟨g, cap, cur, rfl, _, hh, hcap, _⟩
  · exact ⟨none, 0, by rw [hk, h0], by omega, (fun _ => ⟨by omega, rfl⟩), fun hne => absurd (List.eq_nil_of_length_eq_zero (hk.trans h0)) hne⟩
  · refine ⟨some ⟨g, 0, none⟩, cap, by rw [hk], ?_, (fun e => by cases e), fun _ => ⟨g, 0, rfl, (Array.getElem?_eq_some_iff.1 hh).1, fun j hj => ?_⟩⟩
    · omega
    · have := h.cells (g := g) rfl j (.int .i64 (l[j]?.getD 0)) (by simp [valsZ, hj])
      rwa [addr_add] at this

/-- What lies in told's own variables. -/
def ToldZ (w : World) (most : Int) (k : Nat) (xs : List Value) (W : World) : Prop :=
  (∃ v, Boxed W (w.heap.size + 1 + 1 + 1) 27 v ∧ W.ownsRow (w.heap.size + 4) 3 1 v k xs ∧ True) ∧ Blk W w.heap.size 3 #[.int .i64 most] ∧ Blk W (w.heap.size + 1) 27 #[.slice none 0 0] ∧ Blk W (w.heap.size + 1 + 1) 4 #[.bool false] ∧ Below w.heap.size w W ∧ w.heap.size + 4 ≤ W.heap.size
theorem toldZ_kept {w : World} {most : Int} {k : Nat} {xs : List Value} {X Y : World} {row : Option Nat} (h : ToldZ w most k xs X) (hg : X.grownBy Y row) (hr : ∀ r, row = some r → w.heap.size + 4 ≤ r ∧ ∃ o : Obj, X.heap[r]? = some o ∧ o.isCells = false) : ToldZ w most k xs Y := by
  obtain ⟨h1, h2, h3, h4, h5, h6⟩ := h
  have hr' : ∀ r, row = some r → ∃ o : Obj, X.heap[r]? = some o ∧ o.isCells = false := fun r e => (hr r e).2
  refine ⟨holdsRow_own (w.heap.size + 4) (w.heap.size + 1 + 1 + 1) 27 3 1 (fun _ : Unit => k) (fun _ => xs) (fun _ _ => True) () X Y row h1 hg hr', bk_kept h2 hg hr', bk_kept h3 hg hr', bk_kept h4 hg hr', ?_, Nat.le_trans h6 hg.size⟩
  exact h5.grown hg (by omega) (fun q e => by have := (hr q e).1; omega)
theorem slice_of_own {W : World} {base : Nat} {v : Value} {k : Nat} {xs : List Value} (h : W.ownsRow base 3 1 v k xs) : ∃ A c, v = .slice A k c := by
  rcases h.2 with ⟨rfl, h0⟩ | ⟨g', cap', cur', rfl, _⟩
  · exact ⟨none, 0, by rw [h0]⟩
  · exact ⟨_, _, rfl⟩
/-- The sets told so far. -/
def setsOf (pre : List (Nat × Int)) : List Int := pre.map (·.2)
theorem setsOf_up (L : List Int) (k : Nat) (hk : k ≤ L.length) : setsOf (upZ L k) = L.take k := by
  apply List.ext_getElem
  · simp [setsOf, upZ]; omega
  · intro i h1 h2
    have hi : i < L.length := by simp at h2; omega
    simp [setsOf, upZ, hi]

set_option maxRecDepth 100000 in
set_option maxHeartbeats 4000000 in
theorem toldZ_any (gf : Nat) (lb : Array Value) (most : Nat) (L : List Int) (w : World) (hmost : most ≤ 9999)
    (hent : ∀ args w, (callFunc gf args).run Try.prog w = .ok (.enter gf args) w) (htells : ∀ w', Below w.heap.size w w' → ∀ n, 1 ≤ n → TellsZ n gf lb L w') :
    Calls Try.prog 14 #[.func (.func gf) #[] lb, .int .i64 most] w fun e w' => ∃ v, e = .returned (.tuple #[v, .bool true]) ∧ w'.ownsRow w.heap.size 3 1 v (L.take most).length (valsZ (L.take most)) ∧ Below w.heap.size w w' := by
  have HT := Lib.hid htells; have HE := Lib.hid hent; clear htells hent
  obtain ⟨tk, htk⟩ : ∃ tk, tk = L.take most := ⟨_, rfl⟩
  rw [← htk]
  have HTK := Lib.hid htk; clear htk
  refine (callsIn_wide (n := 5)).1 ?_
  refine callsIn_of_wp_marks Try.func14 rfl trivial ?_ rfl
  simp only [Try.ntmps14, List.size_toArray, List.length_cons, List.length_nil, Nat.reduceAdd, Nat.reduceSub, Array.replicate_succ, Array.replicate_zero, List.push_toArray, List.append_toArray, List.nil_append, List.cons_append]
  have hnil := run_eql_seqz_nil gf lb
  gi_wp2_with fail
  clear hnil
  rename_i Q' K hK0
  have HK := Lib.hid hK0; clear hK0
  obtain ⟨i0, hi, hz0, hz1, hz2⟩ := info_parts Try.info3z
  obtain ⟨b0, b1, b2, b3, bw⟩ := bx4 w #[.int .i64 (most : Int)] #[.slice none 0 0] #[.bool false] #[.slice none 0 0] 3 27 4 27
  have hsz : ((((w.alloc (.cells #[.int .i64 (most : Int)] 3)).alloc (.cells #[.slice none 0 0] 27)).alloc (.cells #[.bool false] 4)).alloc (.cells #[.slice none 0 0] 27)).heap.size = w.heap.size + 4 := by simp
  generalize (((w.alloc _).alloc _).alloc _).alloc _ = W0 at *
  have hW0 : ToldZ w most 0 (valsZ []) W0 := ⟨⟨_, b3, World.ownsRow_nil _ _ _ _, trivial⟩, b0, b1, b2, bw, by omega⟩
  have hseq := HT.out W0 bw (5 - 1) (by omega)
  clear b0 b1 b2 b3
  have HW := Lib.hid hW0; clear hW0 HT
  refine wpIn_rangeFunc_ownG rfl (by omega) (gf := gf) (lb := lb) rfl trivial HE.out hseq (fun _ _ => trivial) (fun _ _ _ _ _ _ _ _ => trivial) (Below.refl _ _) (fun _ => rfl)
    (fun pre W => ToldZ w most pre.length (valsZ (setsOf pre)) W ∧ pre.length ≤ most)
    (fun cd pre W => (cd = .exit 0 ∧ ToldZ w most most (valsZ ((setsOf pre).take most)) W ∧ pre.length = most + 1) ∨ (cd = .ret ∧ ∃ p' x, pre = p' ++ [x] ∧ x.1 ≠ p'.length))
    (fun s X Y row hs hgr hr => ⟨toldZ_kept hs.1 hgr (fun r e => by rw [← hsz]; exact hr r e), hs.2⟩)
    (fun cd s X Y row hs hgr hr => hs.imp (fun h => ⟨h.1, toldZ_kept h.2.1 hgr (fun r e => by rw [← hsz]; exact hr r e), h.2.2⟩) id)
    ⟨HW.out, Nat.zero_le _⟩
    (fun x => { tmps := #[.func (.func gf) #[] lb, .int .i64 (most : Int), undef, .pointer (some ⟨w.heap.size, 0, none⟩), .pointer (some ⟨w.heap.size + 1, 0, none⟩), .pointer (some ⟨w.heap.size + 1 + 1, 0, none⟩), .pointer (some ⟨w.heap.size + 1 + 1 + 1, 0, none⟩), .int .i64 (x.1 : Int), .int .i64 x.2, .func (.func gf) #[] lb, .bool false, .func (.func gf) #[] lb, .int .i64 (x.1 : Int), .int .i64 x.2, undef, undef, undef, undef, undef, undef, undef, undef, undef, undef, undef, undef, undef], defers := [] }) ?assign ?body ?done ?stop
  case assign =>
    intro l x W K hK
    gi_wp2
    simpa [encZ] using hK
  case body =>
    rintro lp pre x W ⟨⟨⟨v, hv, hrow, _⟩, b0, b1, b2, hBb, hsW⟩, hle⟩ hlt
    obtain ⟨VA, vc, rfl⟩ := slice_of_own hrow
    have hc := hv.cell
    obtain ⟨p0, -⟩ := b0.one
    obtain ⟨p1, f1⟩ := b1.one
    obtain ⟨p2, f2⟩ := b2.one
    by_cases hge : most ≤ pre.length
    · obtain rfl : most = pre.length := by omega
      gi_wp2
      refine ⟨(KeepsOthers.refl _).from _, .inl ⟨rfl, ⟨⟨_, hv, ?_, trivial⟩, b0, b1, b2, hBb, hsW⟩, by simp⟩⟩
      have e : (setsOf (pre ++ [x])).take pre.length = setsOf pre := by simp [setsOf]
      rw [e]
      exact hrow
    · have hlt2 : pre.length < most := by omega
      have hd : decide ((most : Int) ≤ (pre.length : Int)) = false := by simp; omega
      by_cases hx : x.1 = pre.length
      · obtain ⟨x1, x2⟩ := x
        dsimp only at hx ⊢
        subst hx
        clear f1 f2 p1 p2
        gi_wp2_with (gi_at_builtin; refine wpListIn_append_own _ rfl _ _ 27 rfl (w.heap.size + 4) 3 i0 (.int .i64 0) 1 8 Try.underlying27 hi hz0 hz1 hz2 rfl (by decide) _ _ _ rfl (hrow.alloc _) ⟨W.heap.size, 0, none⟩ 1 1 [.int .i64 x2] rfl rfl (cell_one_new _ _ _) (by simp [Value.oneCell']) (by unfold maxLen; omega) (by omega) (by simp; omega) ?_; intro v' w2 hown' hgrow _; obtain ⟨g', cap', rfl⟩ := ownsRow_succ hown'; obtain ⟨hv1, hv2, hr2, hk2, hbb2, hq2⟩ := appended2 (n₀ := w.heap.size) hv (by decide) hrow hsW (by omega) (by omega) hown' hgrow; have hc1 := hv1.cell; have hf1 := hv1.frozen)
        refine ⟨hk2.from _, trivial, ⟨⟨_, hv2, ?_, trivial⟩, (hq2 _ (by omega) (by omega)).trans b0, (hq2 _ (by omega) (by omega)).trans b1, (hq2 _ (by omega) (by omega)).trans b2, hBb.trans hbb2, Nat.le_trans hsW hk2.size⟩, by simp; omega⟩
        have e : valsZ (setsOf (pre ++ [(pre.length, x2)])) = valsZ (setsOf pre) ++ [.int .i64 x2] := by simp [setsOf, valsZ]
        rw [e, List.length_append]
        exact hr2
      · have hdx : ((x.1 : Int) != (pre.length : Int)) = true := by simp; omega
        gi_wp2
        exact ⟨((KeepsOthers.setCell _ _ _).trans (KeepsOthers.setCell _ _ _)).from _, .inr ⟨rfl, pre, x, rfl, hx⟩⟩
  case done =>
    rintro D ys W hD rfl ⟨⟨⟨v, hv, hrow, _⟩, b0, b1, b2, hBb, hsW⟩, hle⟩ hK
    rw [upZ_length] at hle hrow
    rw [setsOf_up L L.length (Nat.le_refl _)] at hrow
    have htk : tk = L.take L.length := by rw [HTK.out, List.take_of_length_le hle, List.take_length]
    rw [← htk] at hrow
    have htl : tk.length = L.length := by rw [htk]; simp
    rw [← htl] at hrow
    clear htk htl hle b0
    have hc := hv.cell
    obtain ⟨VA, vc, rfl⟩ := slice_of_own hrow
    obtain ⟨p1, f1⟩ := b1.one
    obtain ⟨p2, f2⟩ := b2.one
    have HR := Lib.hid hrow; have HBb := Lib.hid hBb; clear hrow hBb
    refine HK.out _ _ ?_
    gi_wp2
    have hD1 : D ≠ w.heap.size + 1 := by omega
    have hD2 : D ≠ w.heap.size + 1 + 1 := by omega
    obtain ⟨u1, hu1⟩ : ∃ u1, u1 = W.setCell ⟨w.heap.size + 1, 0, none⟩ (.slice VA tk.length vc) := ⟨_, rfl⟩
    obtain ⟨u2, hu2⟩ : ∃ u2, u2 = u1.setCell ⟨w.heap.size + 1 + 1, 0, none⟩ (.bool true) := ⟨_, rfl⟩
    have hr1 : u1.ownsRow (w.heap.size + 4) 3 1 (.slice VA tk.length vc) tk.length (valsZ tk) := by rw [hu1]; exact HR.out.kept (grownBy_setCell' _ _ _) (.inr fun e => by have := (HR.out.lt _ e).1; omega)
    have hr2 : u2.ownsRow (w.heap.size + 4) 3 1 (.slice VA tk.length vc) tk.length (valsZ tk) := by rw [hu2]; exact hr1.kept (grownBy_setCell' _ _ _) (.inr fun e => by have := (hr1.lt _ e).1; omega)
    have k1 : Blk u2 (w.heap.size + 1) 27 #[.slice VA tk.length vc] := by rw [hu2, hu1]; exact (b1.put1 _).far (p := ⟨w.heap.size + 1 + 1, 0, none⟩) (by dsimp only; omega) _
    have k2 : Blk u2 (w.heap.size + 1 + 1) 4 #[.bool true] := by rw [hu2, hu1]; exact (b2.far (p := ⟨w.heap.size + 1, 0, none⟩) (by dsimp only; omega) _).put1 _
    have kb : Below w.heap.size w u2 := by rw [hu2, hu1]; exact (HBb.out.setCell (p := ⟨w.heap.size + 1, 0, none⟩) (by dsimp only; omega) _).setCell (p := ⟨w.heap.size + 1 + 1, 0, none⟩) (by dsimp only; omega) _
    have hsu : w.heap.size + 4 ≤ u2.heap.size := by rw [hu2, hu1]; simpa using hsW
    have hKd : u2.heap[D]? = some (.deferred (some [])) := by rw [hu2, hu1]; exact (Below.heap_setCell _ _ _ D hD2).trans ((Below.heap_setCell _ _ _ D hD1).trans hK)
    have hu3 : u2 = (W.setCell ⟨w.heap.size + 1, 0, none⟩ (.slice VA tk.length vc)).setCell ⟨w.heap.size + 1 + 1, 0, none⟩ (.bool true) := by rw [hu2, hu1]
    rw [← hu3]
    refine ⟨by simp, .inl ⟨_, _, rfl, run_takeDeferred hKd, ?_⟩⟩
    have j1 : Blk (u2.putObj D (.deferred none)) (w.heap.size + 1) 27 #[.slice VA tk.length vc] := Blk.grown k1 (grownBy_putObj' _ D _) (fun e => hD1 (Option.some.inj e).symm)
    have j2 : Blk (u2.putObj D (.deferred none)) (w.heap.size + 1 + 1) 4 #[.bool true] := Blk.grown k2 (grownBy_putObj' _ D _) (fun e => hD2 (Option.some.inj e).symm)
    have jb : Below w.heap.size w (u2.putObj D (.deferred none)) := kb.grown (grownBy_putObj' _ D _) (by omega) (fun q e => by have := Option.some.inj e; omega)
    have jr := ownsRow_putObj hr2 (.deferred none) hKd rfl
    clear hu1 hu2 hu3 hr1 hr2 k1 k2 kb hKd p1 p2 f1 f2 hc
    generalize u2.putObj D (.deferred none) = U at *
    obtain ⟨p1, -⟩ := j1.one
    obtain ⟨p2, -⟩ := j2.one
    exact ⟨.tuple #[.slice VA tk.length vc, .bool true], by simp [results, Try.results14, go_sem, p1, p2], _, rfl, own_mono jr (by omega), jb⟩
  case stop =>
    rintro D cd pre W hD ⟨q, hq, hpre⟩ hstop hK
    rcases hstop with ⟨rfl, ⟨⟨v, hv, hrow, _⟩, b0, b1, b2, hBb, hsW⟩, hle⟩ | ⟨rfl, p', x, hp, hx⟩
    · have hql : q = most + 1 := by have h := congrArg List.length hpre; rw [upZ_length] at h; omega
      subst hql
      rw [hpre, setsOf_up L (most + 1) hq, List.take_take, Nat.min_eq_left (by omega)] at hrow
      have htk : tk = L.take most := HTK.out
      rw [← htk] at hrow
      have htl : tk.length = most := by rw [htk]; simp; omega
      obtain ⟨mm, hmm⟩ : ∃ mm, mm = most := ⟨_, rfl⟩
      have hrow2 : W.ownsRow (w.heap.size + 4) 3 1 v tk.length (valsZ tk) := by rw [htl]; exact hrow
      clear hrow htk htl hle b0 hpre
      have hrow := hrow2
      clear hrow2 mm hmm
      have hc := hv.cell
      obtain ⟨VA, vc, rfl⟩ := slice_of_own hrow
      obtain ⟨p1, f1⟩ := b1.one
      obtain ⟨p2, f2⟩ := b2.one
      have HR := Lib.hid hrow; have HBb := Lib.hid hBb; clear hrow hBb
      gi_wp2
      refine HK.out _ _ ?_
      gi_wp2
      have hD1 : D ≠ w.heap.size + 1 := by omega
      have hD2 : D ≠ w.heap.size + 1 + 1 := by omega
      obtain ⟨u1, hu1⟩ : ∃ u1, u1 = W.setCell ⟨w.heap.size + 1, 0, none⟩ (.slice VA tk.length vc) := ⟨_, rfl⟩
      obtain ⟨u2, hu2⟩ : ∃ u2, u2 = u1.setCell ⟨w.heap.size + 1 + 1, 0, none⟩ (.bool true) := ⟨_, rfl⟩
      have hr1 : u1.ownsRow (w.heap.size + 4) 3 1 (.slice VA tk.length vc) tk.length (valsZ tk) := by rw [hu1]; exact HR.out.kept (grownBy_setCell' _ _ _) (.inr fun e => by have := (HR.out.lt _ e).1; omega)
      have hr2 : u2.ownsRow (w.heap.size + 4) 3 1 (.slice VA tk.length vc) tk.length (valsZ tk) := by rw [hu2]; exact hr1.kept (grownBy_setCell' _ _ _) (.inr fun e => by have := (hr1.lt _ e).1; omega)
      have k1 : Blk u2 (w.heap.size + 1) 27 #[.slice VA tk.length vc] := by rw [hu2, hu1]; exact (b1.put1 _).far (p := ⟨w.heap.size + 1 + 1, 0, none⟩) (by dsimp only; omega) _
      have k2 : Blk u2 (w.heap.size + 1 + 1) 4 #[.bool true] := by rw [hu2, hu1]; exact (b2.far (p := ⟨w.heap.size + 1, 0, none⟩) (by dsimp only; omega) _).put1 _
      have kb : Below w.heap.size w u2 := by rw [hu2, hu1]; exact (HBb.out.setCell (p := ⟨w.heap.size + 1, 0, none⟩) (by dsimp only; omega) _).setCell (p := ⟨w.heap.size + 1 + 1, 0, none⟩) (by dsimp only; omega) _
      have hsu : w.heap.size + 4 ≤ u2.heap.size := by rw [hu2, hu1]; simpa using hsW
      have hKd : u2.heap[D]? = some (.deferred (some [])) := by rw [hu2, hu1]; exact (Below.heap_setCell _ _ _ D hD2).trans ((Below.heap_setCell _ _ _ D hD1).trans hK)
      have hu3 : u2 = (W.setCell ⟨w.heap.size + 1, 0, none⟩ (.slice VA tk.length vc)).setCell ⟨w.heap.size + 1 + 1, 0, none⟩ (.bool true) := by rw [hu2, hu1]
      rw [← hu3]
      refine ⟨by simp, .inl ⟨_, _, rfl, run_takeDeferred hKd, ?_⟩⟩
      have j1 : Blk (u2.putObj D (.deferred none)) (w.heap.size + 1) 27 #[.slice VA tk.length vc] := Blk.grown k1 (grownBy_putObj' _ D _) (fun e => hD1 (Option.some.inj e).symm)
      have j2 : Blk (u2.putObj D (.deferred none)) (w.heap.size + 1 + 1) 4 #[.bool true] := Blk.grown k2 (grownBy_putObj' _ D _) (fun e => hD2 (Option.some.inj e).symm)
      have jb : Below w.heap.size w (u2.putObj D (.deferred none)) := kb.grown (grownBy_putObj' _ D _) (by omega) (fun q e => by have := Option.some.inj e; omega)
      have jr := ownsRow_putObj hr2 (.deferred none) hKd rfl
      clear hu1 hu2 hu3 hr1 hr2 k1 k2 kb hKd p1 p2 f1 f2 hc
      generalize u2.putObj D (.deferred none) = U at *
      obtain ⟨p1, -⟩ := j1.one
      obtain ⟨p2, -⟩ := j2.one
      exact ⟨.tuple #[.slice VA tk.length vc, .bool true], by simp [results, Try.results14, go_sem, p1, p2], _, rfl, own_mono jr (by omega), jb⟩
    · exfalso
      obtain ⟨j, hj, rfl⟩ := upZ_last (hp.symm.trans hpre)
      have h := congrArg List.length (hp.symm.trans hpre)
      rw [upZ_length, List.length_append, List.length_singleton] at h
      exact hx (by dsimp only; omega)
end Go.Proofs.Ytffbhdllepjdeaa
