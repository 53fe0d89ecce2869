/-
  few, told and slices.Equal over numbers of the statements of layer 12, and what the program's Fresh gives. Conditions: those that each theorem names. (Printed by tools/gen12l.py; laid ahead.)
-/
import Derived.Test.YtnlmpemfpkmodaaIK
import Derived.Test.YtnlmpemfpkmodaaH3
namespace Go.Proofs.Ytnlmpemfpkmodaa
open Go.RowKit Go.Shelf
attribute [local go_sem] Oper.semAt_some

abbrev encI (x : Nat) : Array Value := #[Value.int .i64 (x : Int)]
def intsI (l : List Nat) : List Int := l.map fun (x : Nat) => (x : Int)
theorem own_intsI {w : World} {base : Nat} {v : Value} {k : Nat} {l : List Nat} (h : w.ownsRow base 3 1 v k (valsI l)) : ∃ A c, v = .slice A l.length c ∧ l.length ≤ c ∧ c ≤ maxLen ∧ (A = none → c = 0) ∧ Ints w.heap.size w A (intsI l) := by
  have hk : l.length = k := by have := h.1; simpa [valsI] using this
  rcases h.2 with ⟨rfl, h0⟩ | ⟨g, cap, cur, rfl, _, hh, hcap, hm, _⟩
  · exact ⟨none, 0, by rw [hk, h0], by omega, by unfold maxLen; omega, fun _ => rfl, fun hne => absurd (by have := hk.trans h0; simpa [intsI] using this) hne⟩
  · refine ⟨some ⟨g, 0, none⟩, cap, by rw [hk], by omega, hm, (fun e => by cases e), fun _ => ⟨g, 0, rfl, (Array.getElem?_eq_some_iff.1 hh).1, fun j hj => ?_⟩⟩
    have hj' : j < l.length := by simpa [intsI] using hj
    have := h.cells (g := g) rfl j (.int .i64 ((intsI l)[j]?.getD 0)) (by simp [intsI, valsI, hj'])
    rwa [addr_add] at this
theorem intsI_cut {n : Nat} {W : World} {A : Option Addr} {l : List Int} (h : Ints n W A l) (k : Nat) : Ints n W A (l.take k) := by
  intro hne
  obtain ⟨b, off, e, hb, hc⟩ := h (fun e => hne (by rw [e]; simp))
  refine ⟨b, off, e, hb, fun j hj => ?_⟩
  have hj2 : j < k ∧ j < l.length := by rw [List.length_take] at hj; omega
  rw [hc j hj2.2]
  simp [hj2.1]
/-- A sequence that tells a list of numbers, as long as what lay under n₀ is not changed. -/
abbrev TellsI (n gf : Nat) (lb : Array Value) (bs : List Nat) (n₀ : Nat) (w : World) : Prop :=
  SeqStopsK Fence.wide n Try.prog gf lb encI (fun a b => Below n₀ a b) (fun ys => ys = bs) (fun pre => ∃ k, k ≤ bs.length ∧ pre = bs.take k) 60 w

theorem run_equalIn_seq_nil (d gf : Nat) (lb : Array Value) (W : World) : (Op.equalIn (d + 1) 47 (.func (.func gf) #[] lb) .nilFunc).run Try.prog W = .ok false W := by
  simp [Op.equalIn, run_underlying Try.underlying47]
theorem run_eql_seq_nil (gf : Nat) (lb : Array Value) (W : World) : (binOp .eql 47 (.func (.func gf) #[] lb) .nilFunc).run Try.prog W = .ok (.bool false) W := by
  simp only [binOp]
  simp [Op.equal, Op.maxDepth, run_equalIn_seq_nil 9999 gf lb W]

/-- What lies in told's own variables. -/
def Told12 (w : World) (most k : Nat) (xs : List Value) (W : World) : Prop :=
  (∃ v, Boxed W (w.heap.size + 1) 42 v ∧ W.ownsRow (w.heap.size + 2) 3 1 v k xs ∧ True) ∧ Boxed W w.heap.size 3 (.int .i64 most) ∧ Below w.heap.size w W ∧ w.heap.size + 2 ≤ W.heap.size
theorem told12_kept {w : World} {most k : Nat} {xs : List Value} {X Y : World} {row : Option Nat} (h : Told12 w most k xs X) (hg : X.grownBy Y row) (hr : ∀ r, row = some r → w.heap.size + 2 ≤ r ∧ ∃ o : Obj, X.heap[r]? = some o ∧ o.isCells = false) : Told12 w most k xs Y := by
  obtain ⟨h1, h2, h5, h6⟩ := h
  have hr' : ∀ r, row = some r → ∃ o : Obj, X.heap[r]? = some o ∧ o.isCells = false := fun r e => (hr r e).2
  refine ⟨holdsRow_own (w.heap.size + 2) (w.heap.size + 1) 42 3 1 (fun _ : Unit => k) (fun _ => xs) (fun _ _ => True) () X Y row h1 hg hr', boxed_own _ _ (fun _ : Unit => _) () X Y row h2 hg hr', ?_, Nat.le_trans h6 hg.size⟩
  exact h5.grown hg (by omega) (fun q e => by have := (hr q e).1; omega)

set_option maxRecDepth 100000 in
set_option maxHeartbeats 2000000 in
theorem told12_any (gf : Nat) (lb : Array Value) (most : Nat) (bs : List Nat) (w : World) (hmost : most ≤ 9999)
    (hent : ∀ args w, (callFunc gf args).run Try.prog w = .ok (.enter gf args) w) (htells : ∀ w'', Below w.heap.size w w'' → ∀ n, 1 ≤ n → TellsI n gf lb bs w.heap.size w'') :
    Calls Try.prog 31 #[.func (.func gf) #[] lb, .int .i64 most] w fun e w' => ∃ v, e = .returned v ∧ w'.ownsRow w.heap.size 3 1 v ((bs).take most).length (valsI ((bs).take most)) ∧ Below w.heap.size w w' := by
  have HT := Lib.hid htells; have HE := Lib.hid hent; clear htells hent
  obtain ⟨tk, htk⟩ : ∃ tk, tk = (bs).take most := ⟨_, rfl⟩
  rw [← htk]
  have HTK := Lib.hid htk; clear htk
  refine (callsIn_wide (n := 5)).1 ?_
  refine callsIn_of_wp_marks Try.func31 rfl trivial ?_ rfl
  simp only [Try.ntmps31, List.size_toArray, List.length_cons, List.length_nil, Nat.reduceAdd, Nat.reduceSub, Array.replicate_succ, Array.replicate_zero, List.push_toArray, List.append_toArray, List.nil_append, List.cons_append]
  have hnil := run_eql_seq_nil gf lb
  gi_wp2
  clear hnil
  obtain ⟨i0, hi, hz0, hz1, hz2⟩ := info_parts Try.infoIn
  have hW0 : Told12 w most 0 [] ((w.alloc (.cells #[.int .i64 most] 3)).alloc (.cells #[.slice none 0 0] 42)) := by
    refine ⟨⟨_, ?_, World.ownsRow_nil _ _ _ _, trivial⟩, ?_, ?_, by simp⟩
    · simpa using Boxed.new (w.alloc (.cells #[.int .i64 most] 3)) 42 (.slice none 0 0)
    · exact (Boxed.new w 3 (.int .i64 most)).alloc _
    · exact ((Below.refl _ _).alloc (Nat.le_refl _) _).alloc (by simp) _
  have hsz : ((w.alloc (.cells #[.int .i64 most] 3)).alloc (.cells #[.slice none 0 0] 42)).heap.size = w.heap.size + 2 := by simp
  generalize (w.alloc (.cells #[.int .i64 most] 3)).alloc (.cells #[.slice none 0 0] 42) = W0 at *
  refine wpIn_rangeFunc_ownG rfl (by omega) (gf := gf) (lb := lb) rfl trivial HE.out (HT.out W0 hW0.2.2.1 (5 - 1) (by omega)) (fun h k => h.trans k) (fun W l o o2 hl ho h1 h2 => belowK_b (w := w) (Nat.le_refl _) W l o o2 (by omega) ho h1 h2) (Below.refl _ _) (fun _ => rfl)
    (fun pre W => Told12 w most pre.length (pre.map (fun (x : Nat) => Value.int .i64 (x : Int))) W ∧ pre.length ≤ most)
    (fun cd pre W => cd = .exit 0 ∧ Told12 w most most ((pre.take most).map (fun (x : Nat) => Value.int .i64 (x : Int))) W ∧ pre.length = most + 1)
    (fun s X Y row hs hgr hr => ⟨told12_kept hs.1 hgr (fun r e => by rw [← hsz]; exact hr r e), hs.2⟩)
    (fun cd s X Y row hs hgr hr => ⟨hs.1, told12_kept hs.2.1 hgr (fun r e => by rw [← hsz]; exact hr r e), hs.2.2⟩)
    ⟨hW0, Nat.zero_le _⟩
    (fun x => { tmps := #[.func (.func gf) #[] lb, .int .i64 most, undef, .pointer (some ⟨w.heap.size, 0, none⟩), .slice none 0 0, .pointer (some ⟨w.heap.size + 1, 0, none⟩), .int .i64 (x : Int), .func (.func gf) #[] lb, .bool false, .func (.func gf) #[] lb, .int .i64 (x : Int), undef, undef, undef, undef, undef, undef, undef, undef, undef], defers := [] }) ?assign ?body ?done ?stop
  case assign =>
    intro l x W K hK
    gi_wp2
    exact hK
  case body =>
    rintro lp pre x W ⟨⟨⟨v, hv, hrow, _⟩, hb1, hBb, hsW⟩, hle⟩ hlt
    obtain ⟨VA, vc, rfl, hVA⟩ : ∃ A c, v = .slice A pre.length c ∧ True := by
      rcases hrow.2 with ⟨rfl, h0⟩ | ⟨g', cap', cur', rfl, _⟩
      · exact ⟨none, 0, by rw [h0], trivial⟩
      · exact ⟨_, _, rfl, trivial⟩
    have hc := hv.cell
    have hcm := hb1.cell
    by_cases hge : most ≤ pre.length
    · obtain rfl : most = pre.length := by omega
      gi_wp2
      refine ⟨(KeepsOthers.refl _).from _, rfl, ⟨⟨_, hv, ?_, trivial⟩, hb1, hBb, hsW⟩, by simp⟩
      rw [List.take_left']
      · exact hrow
      · rfl
    · have hlt2 : pre.length < most := by omega
      gi_wp2_with (gi_at_builtin; refine wpListIn_append_own _ rfl _ _ 42 rfl (w.heap.size + 2) 3 i0 (.int .i64 0) 1 8 Try.underlying42 hi hz0 hz1 hz2 rfl (by decide) _ _ _ rfl (hrow.alloc _) ⟨W.heap.size, 0, none⟩ 1 1 [.int .i64 (x : Int)] rfl rfl (cell_one_new _ _ _) (by simp [Value.oneCell']) (by unfold maxLen; omega) (by omega) (by simp; omega) ?_; intro v' w2 hown' hgrow _; obtain ⟨g', cap', rfl⟩ := ownsRow_succ hown'; obtain ⟨hv1, hv2, hr2, hk2, hbb2, hq2⟩ := appended2 (n₀ := w.heap.size) hv (by decide) hrow hsW (by omega) (by omega) hown' hgrow; have hc1 := hv1.cell; have hf1 := hv1.frozen)
      refine ⟨hk2.from _, hbb2, ⟨⟨_, hv2, ?_, trivial⟩, (hq2 _ (by omega) (by omega)).trans hb1, hBb.trans hbb2, Nat.le_trans hsW hk2.size⟩, by simp; omega⟩
      rw [List.map_append, List.length_append]
      exact hr2
  case done =>
    rintro D ys W hD hys ⟨⟨⟨v, hv, hrow, _⟩, hb1, hBb, hsW⟩, hle⟩ hK
    obtain rfl := hys.symm
    have htk : tk = bs := by rw [HTK.out]; exact List.take_of_length_le hle
    rw [← htk] at hrow
    clear htk hle
    have hc := hv.cell
    gi_wp2
    refine ⟨by simp, .inl ⟨_, _, rfl, run_takeDeferred hK, ?_⟩⟩
    exact ⟨_, results_tmp rfl _ _ _, _, rfl, own_mono (ownsRow_putObj hrow _ hK rfl) (by omega), hBb.trans (belowK_b (w := w) (Nat.le_refl _) W D _ _ (by omega) hK rfl rfl)⟩
  case stop =>
    rintro D cd pre W hD ⟨k, hk, rfl⟩ ⟨rfl, ⟨⟨v, hv, hrow, _⟩, hb1, hBb, hsW⟩, hle⟩ hK
    have htk : tk = (bs.take k).take most := by
      rw [HTK.out, List.take_take, Nat.min_eq_left (by rw [List.length_take] at hle; omega)]
    have htl : tk.length = most := by rw [htk, List.length_take, hle]; omega
    rw [← htk, ← htl] at hrow
    clear htk htl hle
    have hc := hv.cell
    gi_wp2
    refine ⟨by simp, .inl ⟨_, _, rfl, run_takeDeferred hK, ?_⟩⟩
    exact ⟨_, results_tmp rfl _ _ _, _, rfl, own_mono (ownsRow_putObj hrow _ hK rfl) (by omega), hBb.trans (belowK_b (w := w) (Nat.le_refl _) W D _ _ (by omega) hK rfl rfl)⟩



set_option maxHeartbeats 1000000 in
/-- slices.Equal, of two lists of numbers that are the same. -/
theorem isame12_yes (A A' : Option Addr) (c c' n : Nat) (l : List Int) (w : World) (hn : n = l.length) (hm : n ≤ maxLen) (hA : Ints w.heap.size w A l) (hA' : Ints w.heap.size w A' l) :
    Calls Try.prog 30 #[.slice A n c, .slice A' n c'] w fun e w' => e = .returned (.bool true) ∧ Below w.heap.size w w' := by
  unfold maxLen at hm
  have HN := Lib.hid hn; clear hn
  go_enter Try.func30, Try.ntmps30
  go_wp2
  go_loopw [13] (fun i wr => ∃ (k q : Nat), k ≤ n ∧ i = .int .i64 k ∧ wr = w.drewN q)
    (fun i _ => n - (intOf i).toNat)
  case atStart => exact ⟨0, 0, by omega, rfl, rfl⟩
  case round =>
    obtain ⟨k, q, hk, rfl, rfl⟩ := hrel
    by_cases hlt : k < n
    · obtain ⟨b, off, rfl, _, hcell⟩ := hA.at_ (k := k) (by have := HN.out; omega)
      obtain ⟨b', off', rfl, _, hcell'⟩ := hA'.at_ (k := k) (by have := HN.out; omega)
      have hki : (k : Int) < (n : Int) := by omega
      generalize l[k]?.getD 0 = x at *
      go_wp2
      go_quiet (fail)
      go_wp2
      go_roundw
      case rel => exact ⟨k + 1, _, by omega, by go_num, rfl⟩
      case measure => simp [intOf]; omega
    · go_wp2
      go_ret
      exact ⟨rfl, below_drewN (Below.refl _ _) _⟩
/-- What a call that tells of slots answers. -/
def FreshGives (w : World) (l : List Nat) (e : Ending) (w' : World) : Prop :=
  ∃ (gf : Nat) (lb : Array Value), e = .returned (.func (.func gf) #[] lb) ∧ (∀ args w, (callFunc gf args).run Try.prog w = .ok (.enter gf args) w) ∧ (∀ w'', Below w'.heap.size w' w'' → ∀ n, 1 ≤ n → TellsI n gf lb l w'.heap.size w'') ∧ Below w.heap.size w w'
/-- What the program's Fresh answers, of so few messages as are looked at. -/
def CniFreshC : Prop := ∀ (s : Cn) (v u : Sl3) (q : Int) (w : World), CnOk w.heap.size w s v u → u.n ≤ 20 → Calls Try.prog 32 #[.agg (cCn s v u), .int .i64 q] w (FreshGives w (freshCn s q))
theorem toldI_any (gf : Nat) (lb : Array Value) (k : Nat) (l : List Nat) (w : World) (hk : k ≤ 9999)
    (hent : ∀ args w, (callFunc gf args).run Try.prog w = .ok (.enter gf args) w) (htells : ∀ w'', Below w.heap.size w w'' → ∀ n, 1 ≤ n → TellsI n gf lb l w.heap.size w'') :
    Calls Try.prog 31 #[.func (.func gf) #[] lb, .int .i64 (k : Int)] w fun e w' => ∃ A c, e = .returned (.slice A (l.take k).length c) ∧ Ints w'.heap.size w' A (intsI (l.take k)) ∧ Below w.heap.size w w' := by
  refine (told12_any gf lb k l w hk hent htells).mono ?_
  rintro e w' ⟨v, rfl, hrow, hC⟩
  obtain ⟨A, c, rfl, -, -, -, hI⟩ := own_intsI hrow
  exact ⟨A, c, rfl, hI, hC⟩

set_option maxRecDepth 100000 in
set_option maxHeartbeats 4000000 in
theorem few12_any (s : Cn) (v u : Sl3) (w : World) : Calls Try.prog 8 #[.agg (cCn s v u)] w fun e w' => e = .returned (.bool (decide (u.n ≤ 20))) ∧ Below w.heap.size w w' := by
  obtain ⟨q, hq⟩ : ∃ q, q = decide (u.n ≤ 20) := ⟨_, rfl⟩
  rw [← hq]
  have hd : decide ((u.n : Int) ≤ 20) = q := by rw [hq]; simp; omega
  clear hq
  obtain ⟨id, out, ms, life, want⟩ := s
  obtain ⟨A, n, c⟩ := v
  obtain ⟨B, m, d⟩ := u
  dsimp only [cCn] at *
  obtain ⟨kb, bc⟩ := bx1 w #[.int .i64 id, .slice A n c, .slice B m d, .int .i64 life, .int .i64 want] 25
  obtain ⟨p0, p1, p2, p3, p4⟩ := kb.fiveI
  go_enter Try.func8, Try.ntmps8
  go_wp2
  go_ret
  exact ⟨rfl, bc⟩
end Go.Proofs.Ytnlmpemfpkmodaa
