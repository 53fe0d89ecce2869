/-
  append(nil, bytes...), whatever the bytes: a row of the call's own, and nothing else has changed. Condition: bytes that can be read, no more than a slice may hold. (Stage 12; laid ahead.)
-/
import Derived.Test.YtnlmpemfpkmodaaIB
import Derived.Deep.AppendLies
import Derived.Maps.AppendAt
namespace Go.Proofs.Ytnlmpemfpkmodaa
open Go.RowKit

/-- Bytes as cells. -/
abbrev cellsU (bs : List UInt8) : List Value := bs.map fun x => Value.int .u8 (x.toNat : Int)
theorem byt_cellsI {n₀ : Nat} {w : World} {a : Addr} {bs : List UInt8} (h : Byt n₀ w (some a) bs) (j : Nat) (u : Value) (hj : (cellsU bs)[j]? = some u) : w.cell? (a.add j) = some u := by
  have hjl : j < bs.length := by
    rcases Nat.lt_or_ge j bs.length with h | h
    · exact h
    · rw [List.getElem?_eq_none (by simpa using h)] at hj; cases hj
  obtain ⟨b, off, e, hlt, hc⟩ := h.at_ hjl
  injection e with e
  subst e
  rw [addr_add, hc, ← hj]
  simp [hjl]
/-- append(nil, x...). -/
theorem run_append_bytes (W : World) (ty : TypeId) (n₀ : Nat) (bs : List UInt8) (v : Sl3) (h : BOk n₀ W bs v) (hm : v.n ≤ 140737488355328) :
    ∃ A c w', (Builtin.append_ #[22, 22] ty #[.slice none 0 0, .slice v.A v.n v.c]).run Try.prog W = .ok (.slice A v.n c) w' ∧ w'.ownsRow W.heap.size 5 1 (.slice A v.n c) v.n (cellsU bs) ∧ W.grownBy w' none := by
  obtain ⟨i0, hi, hz0, hz1, hz2⟩ := info_parts Try.info5
  obtain ⟨A, n, c⟩ := v
  obtain ⟨h1, h2, h3, h4, h5⟩ := h
  dsimp only at h1 h2 h3 h4 h5 hm ⊢
  cases A with
  | none =>
    obtain rfl := h5 rfl
    obtain rfl : n = 0 := by omega
    obtain rfl : bs = [] := List.eq_nil_of_length_eq_zero h2.symm
    refine ⟨none, 0, W, ?_, World.ownsRow_nil _ _ _ _, World.grownBy.refl _ _⟩
    simp [Builtin.append_, run_underlying Try.underlying22, sizeOf, typeInfo, hi, Builtin.lenOf, Builtin.firstCells]
  | some a =>
    obtain ⟨v', w', hr, hown, hg, -⟩ := run_append_own (P := Try.prog) W W.heap.size 22 ty 5 i0 (.int .u8 0) 1 1 Try.underlying22 hi hz0 hz1 hz2 rfl (by decide) (.slice none 0 0) 0 [] (World.ownsRow_nil _ _ _ _) a n c (cellsU bs) (by simp; omega) (byt_cellsI h1) (fun u hu => by obtain ⟨y, -, rfl⟩ := List.mem_map.1 hu; rfl) (by omega) (by omega) (Nat.le_refl _)
    rw [List.nil_append, Nat.zero_add] at hown
    obtain ⟨A', c', rfl, -⟩ := byt_of_own hown
    rw [← h2] at hr hown
    exact ⟨A', c', w', hr, hown, hg⟩
/-- At the operation. -/
theorem wp_append_bytes {o : Oper} {a : Act} {K : Act → World → Prop} {Q : Exit → Act → World → Prop} (W : World) (s x : Operand) (ho : o.op = .call { callee := .builtin .append, args := #[s, x], argTypes := #[22, 22] })
    (n₀ : Nat) (bs : List UInt8) (v : Sl3) (h : BOk n₀ W bs v) (hm : v.n ≤ 140737488355328) (hs : a.eval s = .slice none 0 0) (hx : a.eval x = .slice v.A v.n v.c)
    (k : ∀ A c w', w'.ownsRow W.heap.size 5 1 (.slice A v.n c) v.n (cellsU bs) → W.grownBy w' none → K (a.put o.dst (.slice A v.n c)) w') : o.wp Try.prog a W K Q := by
  obtain ⟨A, c, w', hr, h2, h3⟩ := run_append_bytes W o.type n₀ bs v h hm
  unfold Oper.wp execOp
  simp only [ho, resolve, invoke, builtin, Sem.run_bind, Sem.run_pure, Result.andThen_ok, List.map_toArray, List.map_cons, List.map_nil, hs, hx, hr]
  exact k A c w' h2 h3
theorem wpList_append_bytes {ops : Array Oper} {rest : List Oper} {o : Oper} {a : Act} {Q : Exit → Act → World → Prop} {W : World} (hgd : o.guard = none) (s x : Operand) (ho : o.op = .call { callee := .builtin .append, args := #[s, x], argTypes := #[22, 22] })
    (n₀ : Nat) (bs : List UInt8) (v : Sl3) (h : BOk n₀ W bs v) (hm : v.n ≤ 140737488355328) (hs : a.eval s = .slice none 0 0) (hx : a.eval x = .slice v.A v.n v.c)
    (k : ∀ A c w', w'.ownsRow W.heap.size 5 1 (.slice A v.n c) v.n (cellsU bs) → W.grownBy w' none → wpList Try.prog ops Q rest (a.put o.dst (.slice A v.n c)) w') : wpList Try.prog ops Q (o :: rest) a W :=
  wpList_plain hgd fun _ hK => wp_append_bytes W s x ho n₀ bs v h hm hs hx fun A c w' h2 h3 => hK _ _ (k A c w' h2 h3)
theorem step_append_bytes {ops : Array Oper} {o : Oper} {a : Act} {K : Act → World → Prop} {Q : Exit → Act → World → Prop} {E : Prop} {W : World} (hgd : o.guard = none) (s x : Operand) (ho : o.op = .call { callee := .builtin .append, args := #[s, x], argTypes := #[22, 22] })
    (n₀ : Nat) (bs : List UInt8) (v : Sl3) (h : BOk n₀ W bs v) (hm : v.n ≤ 140737488355328) (hs : a.eval s = .slice none 0 0) (hx : a.eval x = .slice v.A v.n v.c)
    (k : ∀ A c w', w'.ownsRow W.heap.size 5 1 (.slice A v.n c) v.n (cellsU bs) → W.grownBy w' none → K (a.put o.dst (.slice A v.n c)) w') :
    if Region.wanted o (yielded ops a.tmps) = true then Oper.wp Try.prog o a W K Q else E := by
  have hw : Region.wanted o (yielded ops a.tmps) = true := by simp [Region.wanted, hgd]
  rw [if_pos hw]
  exact wp_append_bytes W s x ho n₀ bs v h hm hs hx k

/-! ### Rows of bytes and of messages that a call owns -/
theorem own_ne_blkI {W : World} {b g sz : Nat} {e t : TypeId} {v : Value} {n : Nat} {xs : List Value} {cs : Array Value} (h : W.ownsRow b e sz v n xs) (k : Blk W g t cs) (hne : t ≠ e) : some g ≠ v.ownBlock := by
  intro he
  rcases h.2 with ⟨rfl, _⟩ | ⟨g', cap, cur, rfl, _, hg, _⟩
  · cases he
  · simp only [Value.ownBlock, Option.some.injEq] at he
    subst he
    unfold Blk at k
    rw [hg] at k
    injection k with k
    injection k with _ h2 _
    exact hne h2.symm
theorem own_apartI {W : World} {b b' s s' : Nat} {e e' : TypeId} {v v' : Value} {n n' : Nat} {xs xs' : List Value} (h : W.ownsRow b e s v n xs) (h' : W.ownsRow b' e' s' v' n' xs') (hne : e ≠ e') : v.ownBlock = none ∨ v.ownBlock ≠ v'.ownBlock := by
  rcases h.2 with ⟨rfl, _⟩ | ⟨g, cap, cur, rfl, _, hg, _⟩
  · exact .inl rfl
  rcases h'.2 with ⟨rfl, _⟩ | ⟨g', cap', cur', rfl, _, hg', _⟩
  · exact .inr (by simp [Value.ownBlock])
  · refine .inr fun e => ?_
    simp only [Value.ownBlock, Option.some.injEq] at e
    rw [e, hg'] at hg
    injection hg with hg
    injection hg with _ h2 _
    exact hne h2.symm
theorem own_zeroI {W : World} {b sz n : Nat} {e : TypeId} {v : Value} {xs : List Value} (h : W.ownsRow b e sz v n xs) : W.ownsRow 0 e sz v n xs := by
  refine ⟨h.1, ?_⟩
  rcases h.2 with h2 | ⟨g, cap, cur, h2, _, h3⟩
  · exact .inl h2
  · exact .inr ⟨g, cap, cur, h2, Nat.zero_le _, h3⟩
/-- Rows of bytes are as they were. -/
def Ku (W W' : World) : Prop := ∀ b v n xs, W.ownsRow b 5 1 v n xs → W'.ownsRow b 5 1 v n xs
theorem Ku.refl (W : World) : Ku W W := fun _ _ _ _ x => x
theorem Ku.trans {a b c : World} (h : Ku a b) (k : Ku b c) : Ku a c := fun _ _ _ _ x => k _ _ _ _ (h _ _ _ _ x)
theorem ku_below {W W' : World} (h : Below W.heap.size W W') : Ku W W' := fun _ _ _ _ x => own_on x h
theorem ku_none {W W' : World} (h : W.grownBy W' none) : Ku W W' := fun _ v _ _ x => x.kept h (by cases v.ownBlock <;> simp)
theorem ku_grown {W W' : World} {g : Nat} {t : TypeId} {cs : Array Value} (hR : Blk W g t cs) (h1 : t ≠ 5) (hg : W.grownBy W' (some g)) : Ku W W' := fun _ _ _ _ x =>
  x.kept hg (.inr fun e => own_ne_blkI x hR h1 e.symm)
theorem ku_own {W W' : World} {b sz k : Nat} {e : TypeId} {v : Value} {xs : List Value} (h : W.ownsRow b e sz v k xs) (he : e ≠ 5) (hg : W.grownBy W' v.ownBlock) : Ku W W' := fun _ _ _ _ x =>
  x.kept hg (own_apartI x h he.symm)
theorem below_none {a w w' : World} {n : Nat} (h : Below n a w) (hn : n ≤ w.heap.size) (hg : w.grownBy w' none) : Below n a w' := h.grown hg hn (fun k e => by cases e)
theorem grown_below {w w' : World} (hg : w.grownBy w' none) : Below w.heap.size w w' := below_none (Below.refl _ _) (Nat.le_refl _) hg
/-- Bytes that a call owns, read. -/
theorem bok_of_own {W : World} {b n c : Nat} {A : Option Addr} {bs : List UInt8} (h : W.ownsRow b 5 1 (.slice A n c) n (cellsU bs)) : BOk W.heap.size W bs ⟨A, n, c⟩ := by
  have hk : bs.length = n := by have := h.1; simpa using this
  obtain ⟨A', c', e, hA'⟩ := byt_of_own h
  injection e with e1 e2 e3
  subst e1 e3
  rcases h.2 with ⟨h1, h2⟩ | ⟨g, cap, cur, h1, -, -, h3, h4, -⟩
  · injection h1 with h5 h6 h7
    subst h5 h6 h7
    exact ⟨hA', e2, Nat.le_refl _, by show 0 ≤ maxLen; omega, fun _ => rfl⟩
  · injection h1 with h5 h6 h7
    subst h5 h7
    exact ⟨hA', e2, h3, h4, fun e => by cases e⟩
/-- The cells of messages, with where their data lie. -/
def cellsM (l : List (Ms × Sl3)) : List Value := l.flatMap fun y => [.slice y.2.A y.2.n y.2.c, .int .i64 y.1.g]
theorem cellsM_append (l m : List (Ms × Sl3)) : cellsM (l ++ m) = cellsM l ++ cellsM m := by simp [cellsM]
theorem cellsM_one (y : Ms × Sl3) : cellsM [y] = [.slice y.2.A y.2.n y.2.c, .int .i64 y.1.g] := rfl
theorem cellsM_length (l : List (Ms × Sl3)) : (cellsM l).length = l.length * 2 := by
  induction l with
  | nil => rfl
  | cons y l ih =>
    have : cellsM (y :: l) = [.slice y.2.A y.2.n y.2.c, .int .i64 y.1.g] ++ cellsM l := rfl
    rw [this, List.length_append, ih, List.length_cons]; simp; omega
theorem cellsM_get (l : List (Ms × Sl3)) (j : Nat) (y : Ms × Sl3) (h : l[j]? = some y) : (cellsM l)[j * 2]? = some (.slice y.2.A y.2.n y.2.c) ∧ (cellsM l)[j * 2 + 1]? = some (.int .i64 y.1.g) := by
  induction l generalizing j with
  | nil => simp at h
  | cons z l ih =>
    have e : cellsM (z :: l) = [.slice z.2.A z.2.n z.2.c, .int .i64 z.1.g] ++ cellsM l := rfl
    cases j with
    | zero =>
      obtain rfl : z = y := by simpa using h
      rw [e]; exact ⟨rfl, rfl⟩
    | succ j =>
      have := ih j (by simpa using h)
      rw [e, show (j + 1) * 2 = j * 2 + 2 by omega]
      exact this
theorem Try.infoMs : (Try.prog.info? 51).map (fun i => (i.zero, i.size, i.bytes)) = some (some (.agg #[.slice none 0 0, .int .i64 0]), 2, 32) := by kernel_rfl
/-- Messages of which the data are a call's own. -/
def MsRd (base : Nat) (l : List (Ms × Sl3)) (W : World) : Prop := ∀ y ∈ l, W.ownsRow base 5 1 (.slice y.2.A y.2.n y.2.c) y.2.n (cellsU y.1.d)
theorem MsRd.keep {base : Nat} {l : List (Ms × Sl3)} {W W' : World} (h : MsRd base l W) (k : Ku W W') : MsRd base l W' := fun y hy => k _ _ _ _ (h y hy)
theorem MsRd.snoc {base : Nat} {l : List (Ms × Sl3)} {y : Ms × Sl3} {W : World} (h : MsRd base l W) (k : W.ownsRow base 5 1 (.slice y.2.A y.2.n y.2.c) y.2.n (cellsU y.1.d)) : MsRd base (l ++ [y]) W := fun z hz => by
  rcases List.mem_append.1 hz with h1 | h1
  · exact h z h1
  · obtain rfl := List.mem_singleton.1 h1
    exact k
theorem MsRd.nil (base : Nat) (W : World) : MsRd base [] W := fun _ h => by cases h
/-- A row of messages that a call owns, read. -/
theorem msgs_of_own {w : World} {base base' : Nat} {v : Value} {k : Nat} {l : List (Ms × Sl3)} (h : w.ownsRow base 51 2 v k (cellsM l)) (hok : MsRd base' l w) :
    ∃ A c, v = .slice A l.length c ∧ k = l.length ∧ l.length ≤ c ∧ c ≤ maxLen ∧ (A = none → c = 0) ∧ Msgs w.heap.size w A (l.map Prod.fst) := by
  have hk : l.length = k := by have := h.1; rw [cellsM_length] at this; omega
  rcases h.2 with ⟨rfl, h0⟩ | ⟨g, cap, cur, rfl, _, hh, hc, hm, _⟩
  · refine ⟨none, 0, by rw [hk, h0], hk.symm, by omega, Nat.zero_le _, fun _ => rfl, fun hne => ?_⟩
    obtain rfl : l = [] := List.eq_nil_of_length_eq_zero (hk.trans h0)
    exact absurd rfl hne
  · refine ⟨some ⟨g, 0, none⟩, cap, by rw [hk], hk.symm, by omega, hm, (fun e => by cases e), fun _ => ⟨g, 0, rfl, (Array.getElem?_eq_some_iff.1 hh).1, fun j s hj => ?_⟩⟩
    rw [List.getElem?_map, Option.map_eq_some_iff] at hj
    obtain ⟨y, hy, rfl⟩ := hj
    obtain ⟨h0, h1⟩ := cellsM_get l j y hy
    have e0 := h.cells (g := g) rfl _ _ h0
    have e1 := h.cells (g := g) rfl _ _ h1
    rw [addr_add] at e0 e1
    exact ⟨y.2, ⟨e0, e1⟩, bok_of_own (hok y (List.mem_of_getElem? hy))⟩
theorem cell_two_newI (w : World) (a b : Value) (t : TypeId) : ∀ j u, [a, b][j]? = some u → (w.alloc (.cells #[a, b] t)).cell? ((⟨w.heap.size, 0, none⟩ : Addr).add j) = some u := by
  intro j u hj
  match j, hj with
  | 0, hj => simp at hj; subst hj; simp [Addr.add]
  | 1, hj => simp at hj; subst hj; simp [Addr.add]
  | j + 2, hj => simp at hj
theorem put_rowI {W : World} {b g j sz : Nat} {e : TypeId} {v : Value} {n : Nat} {xs : List Value} (h : W.ownsRow b e sz v n xs) (hg : some g ≠ v.ownBlock) (u : Value) : (W.setCell ⟨g, j, none⟩ u).ownsRow b e sz v n xs :=
  h.kept (only_setCell (World.grownBy.refl W (some g)) (.inl rfl) u) (.inr fun e => hg e.symm)
/-- A cell of a row that a call owns is stored to. -/
theorem own_setI {W : World} {b g n cap size : Nat} {e : TypeId} {xs : List Value} (h : W.ownsRow b e size (.slice (some ⟨g, 0, none⟩) n cap) n xs) (i : Nat) (u : Value) :
    (W.setCell ⟨g, i, none⟩ u).ownsRow b e size (.slice (some ⟨g, 0, none⟩) n cap) n (xs.set i u) := by
  refine ⟨by rw [List.length_set]; exact h.1, ?_⟩
  rcases h.2 with ⟨h1, _⟩ | ⟨g', cap', cur, h1, hb, hh, hc, hm, hsz, htk⟩
  · cases h1
  · injection h1 with h1 _ h3
    injection h1 with h1
    injection h1 with h1
    subst h1; subst h3
    have hblk : Blk W g e cur := hh
    refine .inr ⟨g, cap, _, rfl, hb, hblk.set_ i u, hc, hm, by simpa using hsz, ?_⟩
    rw [← htk]
    simp [List.take_set]
theorem own_frozenI {W : World} {b g n cap size : Nat} {e : TypeId} {xs : List Value} (h : W.ownsRow b e size (.slice (some ⟨g, 0, none⟩) n cap) n xs) (i : Nat) : W.frozen? ⟨g, i, none⟩ = false ∧ b ≤ g ∧ g < W.heap.size := by
  rcases h.2 with ⟨hv, _⟩ | ⟨g', cap', cur, hv, hb, hh, _⟩
  · cases hv
  · injection hv with hv _ _
    injection hv with hv
    injection hv with hv
    subst hv
    have hblk : Blk W g e cur := hh
    exact ⟨hblk.frozen _, hb, hblk.lt⟩
theorem cellsM_set (l : List (Ms × Sl3)) (j : Nat) (y : Ms × Sl3) (h : j < l.length) : cellsM (l.set j y) = ((cellsM l).set (j * 2) (.slice y.2.A y.2.n y.2.c)).set (j * 2 + 1) (.int .i64 y.1.g) := by
  induction l generalizing j with
  | nil => simp at h
  | cons z l ih =>
    cases j with
    | zero => rfl
    | succ j =>
      have ih := ih j (by simpa using h)
      have e1 : cellsM ((z :: l).set (j + 1) y) = .slice z.2.A z.2.n z.2.c :: .int .i64 z.1.g :: cellsM (l.set j y) := rfl
      have e2 : cellsM (z :: l) = .slice z.2.A z.2.n z.2.c :: .int .i64 z.1.g :: cellsM l := rfl
      rw [e1, ih, e2, show (j + 1) * 2 = j * 2 + 2 by omega]
      rfl
theorem MsRd.set {base : Nat} {l : List (Ms × Sl3)} {j : Nat} {y : Ms × Sl3} {W : World} (h : MsRd base l W) (k : W.ownsRow base 5 1 (.slice y.2.A y.2.n y.2.c) y.2.n (cellsU y.1.d)) : MsRd base (l.set j y) W := fun z hz => by
  rcases List.mem_or_eq_of_mem_set hz with h1 | h1
  · exact h z h1
  · subst h1; exact k
/-- An interface of which the slices are a call's own. -/
def ClOk (base : Nat) (W : World) (s : Cn) (v u : Sl3) (l : List (Ms × Sl3)) : Prop :=
  l.map Prod.fst = s.ms ∧ W.ownsRow base 51 2 (.slice u.A u.n u.c) u.n (cellsM l) ∧ MsRd base l W ∧ W.ownsRow base 5 1 (.slice v.A v.n v.c) v.n (cellsU s.out)
theorem ClOk.cn {base : Nat} {W : World} {s : Cn} {v u : Sl3} {l : List (Ms × Sl3)} (h : ClOk base W s v u l) : CnOk W.heap.size W s v u := by
  obtain ⟨hl, hrow, hrd, hout⟩ := h
  have hll : l.length = s.ms.length := by rw [← hl, List.length_map]
  obtain ⟨A6, c6, e6, hul, hcc, hcm, hcz, hMs⟩ := msgs_of_own hrow hrd
  rw [hl] at hMs
  injection e6 with e7 e8 e9
  rw [← e7] at hMs hcz
  rw [← e9] at hcc hcm hcz
  exact ⟨bok_of_own hout, hMs, by omega, by omega, hcm, hcz⟩
theorem own_keepI {W W' : World} {b sz n : Nat} {e : TypeId} {v : Value} {xs : List Value} (h : W.ownsRow b e sz v n xs) (hk : ∀ i, b ≤ i → i < W.heap.size → W'.heap[i]? = W.heap[i]?) : W'.ownsRow b e sz v n xs := by
  refine ⟨h.1, ?_⟩
  rcases h.2 with h2 | ⟨g, cap, cur, h2, h3, h4, h5⟩
  · exact .inl h2
  · exact .inr ⟨g, cap, cur, h2, h3, (hk g h3 (Array.getElem?_eq_some_iff.1 h4).1).trans h4, h5⟩
theorem ClOk.fr {base : Nat} {W : World} {s : Cn} {v u : Sl3} {l : List (Ms × Sl3)} (h : ClOk base W s v u l) : CnFr base W s v u := fun _ hk _ =>
  ClOk.cn (base := base) (l := l) ⟨h.1, own_keepI h.2.1 hk, fun y hy => own_keepI (h.2.2.1 y hy) hk, own_keepI h.2.2.2 hk⟩
theorem ClOk.keep {base : Nat} {W W' : World} {s : Cn} {v u : Sl3} {l : List (Ms × Sl3)} (h : ClOk base W s v u l) {g : Nat} {t : TypeId} {cs : Array Value} (hR : Blk W g t cs) (h1 : t ≠ 5) (h2 : t ≠ 51) (hg : W.grownBy W' (some g)) : ClOk base W' s v u l := by
  obtain ⟨hl, hrow, hrd, hout⟩ := h
  have hK := ku_grown hR h1 hg
  exact ⟨hl, hrow.kept hg (.inr (fun e => own_ne_blkI hrow hR h2 e.symm)), hrd.keep hK, hK _ _ _ _ hout⟩
theorem ClOk.on {base : Nat} {W W' : World} {s : Cn} {v u : Sl3} {l : List (Ms × Sl3)} (h : ClOk base W s v u l) (hb : Below W.heap.size W W') : ClOk base W' s v u l :=
  ⟨h.1, own_on h.2.1 hb, h.2.2.1.keep (ku_below hb), ku_below hb _ _ _ _ h.2.2.2⟩
theorem Blk.put5I {W : World} {g : Nat} {t : TypeId} {a b c d e : Value} (h : Blk W g t #[a, b, c, d, e]) (v0 v1 v2 v3 v4 : Value) : Blk (((((W.setCell ⟨g, 0, none⟩ v0).setCell ⟨g, 1, none⟩ v1).setCell ⟨g, 2, none⟩ v2).setCell ⟨g, 3, none⟩ v3).setCell ⟨g, 4, none⟩ v4) g t #[v0, v1, v2, v3, v4] := by
  simpa using ((((h.set_ 0 v0).set_ 1 v1).set_ 2 v2).set_ 3 v3).set_ 4 v4
theorem grown5I (W : World) (g : Nat) (v0 v1 v2 v3 v4 : Value) : W.grownBy (((((W.setCell ⟨g, 0, none⟩ v0).setCell ⟨g, 1, none⟩ v1).setCell ⟨g, 2, none⟩ v2).setCell ⟨g, 3, none⟩ v3).setCell ⟨g, 4, none⟩ v4) (some g) :=
  only_setCell (only_setCell (only_setCell (only_setCell (only_setCell (World.grownBy.refl W (some g)) (.inl rfl) _) (.inl rfl) _) (.inl rfl) _) (.inl rfl) _) (.inl rfl) _
end Go.Proofs.Ytnlmpemfpkmodaa
