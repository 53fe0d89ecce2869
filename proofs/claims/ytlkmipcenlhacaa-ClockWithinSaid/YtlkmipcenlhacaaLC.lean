/-
  append(nil, numbers...), whatever the numbers: a row of the call's own, and nothing else has changed. Condition: numbers that can be read, few. (Stage 13; laid ahead.)
-/
import Derived.Test.YtlkmipcenlhacaaLB
import Derived.Deep.AppendLies
import Derived.Maps.AppendAt
namespace Go.Proofs.Ytlkmipcenlhacaa
open Go.RowKit

abbrev valsK (l : List Int) : List Value := l.map (Value.int .i64)
/-- append(nil, x...). -/
theorem run_append_js (W : World) (ty : TypeId) (n₀ : Nat) (l : List Int) (v : Slc) (h : Ints n₀ W v.A l) (hn : v.n = l.length) (hz : v.A = none → v.n = 0 ∧ v.c = 0) (hm : v.n ≤ 1000) :
    ∃ A c w', (Builtin.append_ #[26, 26] ty #[.slice none 0 0, .slice v.A v.n v.c]).run Try.prog W = .ok (.slice A v.n c) w' ∧ w'.ownsRow W.heap.size 2 1 (.slice A v.n c) v.n (valsK l) ∧ W.grownBy w' none := by
  obtain ⟨i0, hi, hz0, hz1, hz2⟩ := info_parts Try.infoJ
  obtain ⟨A, n, c⟩ := v
  dsimp only at h hn hz hm ⊢
  cases A with
  | none =>
    obtain ⟨rfl, rfl⟩ := hz rfl
    obtain rfl : l = [] := List.eq_nil_of_length_eq_zero hn.symm
    refine ⟨none, 0, W, ?_, World.ownsRow_nil _ _ _ _, World.grownBy.refl _ _⟩
    simp [Builtin.append_, run_underlying Try.underlying26, sizeOf, typeInfo, hi, Builtin.lenOf, Builtin.firstCells]
  | some a =>
    obtain ⟨v', w', hr, hown, hg, -⟩ := run_append_own (P := Try.prog) W W.heap.size 26 ty 2 i0 (.int .i64 0) 1 8 Try.underlying26 hi hz0 hz1 hz2 rfl (by decide) (.slice none 0 0) 0 [] (World.ownsRow_nil _ _ _ _) a n c (valsK l) (by simp; omega) (ints_cells h) (ints_one l) (by unfold maxLen; omega) (by omega) (Nat.le_refl _)
    rw [List.nil_append, Nat.zero_add] at hown
    obtain ⟨A', c', rfl, -⟩ := ints_own hown
    rw [← hn] at hr hown
    exact ⟨A', c', w', hr, hown, hg⟩
/-- At the operation. -/
theorem wp_append_js {o : Oper} {a : Act} {K : Act → World → Prop} {Q : Exit → Act → World → Prop} (W : World) (s x : Operand) (ho : o.op = .call { callee := .builtin .append, args := #[s, x], argTypes := #[26, 26] })
    (n₀ : Nat) (l : List Int) (v : Slc) (h : Ints n₀ W v.A l) (hn : v.n = l.length) (hz : v.A = none → v.n = 0 ∧ v.c = 0) (hm : v.n ≤ 1000) (hs : a.eval s = .slice none 0 0) (hx : a.eval x = .slice v.A v.n v.c)
    (k : ∀ A c w', w'.ownsRow W.heap.size 2 1 (.slice A v.n c) v.n (valsK l) → W.grownBy w' none → K (a.put o.dst (.slice A v.n c)) w') : o.wp Try.prog a W K Q := by
  obtain ⟨A, c, w', hr, h2, h3⟩ := run_append_js W o.type n₀ l v h hn hz hm
  unfold Oper.wp execOp
  simp only [ho, resolve, invoke, builtin, Sem.run_bind, Sem.run_pure, Result.andThen_ok, List.map_toArray, List.map_cons, List.map_nil, hs, hx, hr]
  exact k A c w' h2 h3
theorem wpList_append_js {ops : Array Oper} {rest : List Oper} {o : Oper} {a : Act} {Q : Exit → Act → World → Prop} {W : World} (hgd : o.guard = none) (s x : Operand) (ho : o.op = .call { callee := .builtin .append, args := #[s, x], argTypes := #[26, 26] })
    (n₀ : Nat) (l : List Int) (v : Slc) (h : Ints n₀ W v.A l) (hn : v.n = l.length) (hz : v.A = none → v.n = 0 ∧ v.c = 0) (hm : v.n ≤ 1000) (hs : a.eval s = .slice none 0 0) (hx : a.eval x = .slice v.A v.n v.c)
    (k : ∀ A c w', w'.ownsRow W.heap.size 2 1 (.slice A v.n c) v.n (valsK l) → W.grownBy w' none → wpList Try.prog ops Q rest (a.put o.dst (.slice A v.n c)) w') : wpList Try.prog ops Q (o :: rest) a W :=
  wpList_plain hgd fun _ hK => wp_append_js W s x ho n₀ l v h hn hz hm hs hx fun A c w' h2 h3 => hK _ _ (k A c w' h2 h3)
theorem step_append_js {ops : Array Oper} {o : Oper} {a : Act} {K : Act → World → Prop} {Q : Exit → Act → World → Prop} {E : Prop} {W : World} (hgd : o.guard = none) (s x : Operand) (ho : o.op = .call { callee := .builtin .append, args := #[s, x], argTypes := #[26, 26] })
    (n₀ : Nat) (l : List Int) (v : Slc) (h : Ints n₀ W v.A l) (hn : v.n = l.length) (hz : v.A = none → v.n = 0 ∧ v.c = 0) (hm : v.n ≤ 1000) (hs : a.eval s = .slice none 0 0) (hx : a.eval x = .slice v.A v.n v.c)
    (k : ∀ A c w', w'.ownsRow W.heap.size 2 1 (.slice A v.n c) v.n (valsK l) → W.grownBy w' none → K (a.put o.dst (.slice A v.n c)) w') :
    if Region.wanted o (yielded ops a.tmps) = true then Oper.wp Try.prog o a W K Q else E := by
  have hw : Region.wanted o (yielded ops a.tmps) = true := by simp [Region.wanted, hgd]
  rw [if_pos hw]
  exact wp_append_js W s x ho n₀ l v h hn hz hm hs hx k
theorem own_ne_blkK {W : World} {b g sz : Nat} {e t : TypeId} {v : Value} {n : Nat} {xs : List Value} {cs : Array Value} (h : W.ownsRow b e sz v n xs) (k : Blk W g t cs) (hne : t ≠ e) : some g ≠ v.ownBlock := by
  intro he
  rcases h.2 with ⟨rfl, _⟩ | ⟨g', cap, cur, rfl, _, hg, _⟩
  · cases he
  · simp only [Value.ownBlock, Option.some.injEq] at he
    subst he
    unfold Blk at k
    rw [hg] at k
    injection k with k
    injection k with _ h2 _
    exact hne h2.symm
theorem below_noneK {a w w' : World} {n : Nat} (h : Below n a w) (hn : n ≤ w.heap.size) (hg : w.grownBy w' none) : Below n a w' := h.grown hg hn (fun k e => by cases e)
theorem grown_belowK {w w' : World} (hg : w.grownBy w' none) : Below w.heap.size w w' := below_noneK (Below.refl _ _) (Nat.le_refl _) hg
theorem put_rowK {W : World} {b g j sz : Nat} {e : TypeId} {v : Value} {n : Nat} {xs : List Value} (h : W.ownsRow b e sz v n xs) (hg : some g ≠ v.ownBlock) (u : Value) : (W.setCell ⟨g, j, none⟩ u).ownsRow b e sz v n xs :=
  h.kept (only_setCell (World.grownBy.refl W (some g)) (p := ⟨g, j, none⟩) (.inl rfl) u) (.inr fun e => hg e.symm)
theorem grown3K (W : World) (g : Nat) (v0 v1 v2 : Value) : W.grownBy (((W.setCell ⟨g, 0, none⟩ v0).setCell ⟨g, 1, none⟩ v1).setCell ⟨g, 2, none⟩ v2) (some g) :=
  only_setCell (only_setCell (only_setCell (World.grownBy.refl W (some g)) (.inl rfl) _) (.inl rfl) _) (.inl rfl) _
theorem Blk.put3K {W : World} {g : Nat} {t : TypeId} {a b c : Value} (h : Blk W g t #[a, b, c]) (v0 v1 v2 : Value) : Blk (((W.setCell ⟨g, 0, none⟩ v0).setCell ⟨g, 1, none⟩ v1).setCell ⟨g, 2, none⟩ v2) g t #[v0, v1, v2] := by
  simpa using ((h.set_ 0 v0).set_ 1 v1).set_ 2 v2
end Go.Proofs.Ytlkmipcenlhacaa
