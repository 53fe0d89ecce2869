/-
  How spans, grids and lists of spans that came in are read. No condition.
-/
import Derived.Test.YtjdhodobfkkoiaaR0
import Derived.Test.YtjdhodobfkkoiaaSE
import Derived.Deep.Slices
namespace Go.Proofs.Ytjdhodobfkkoiaa
open Go.ChangeShapes Go.WideShapes Go.ChangeAt Go.RowKit Go.Joins

theorem Try.cells23 : Try.prog.cellsOf 23 = 2 := by kernel_rfl
theorem Try.cells41 : Try.prog.cellsOf 41 = 3 := by kernel_rfl
section
variable {H : Type} {enc : TypeId × Value → H} {W : World} {base : Nat} {spare : Nat → Bool} {held : Bool}
set_option maxRecDepth 8000 in
/-- A span by value that came in. -/
theorem open_span {r : Reach} {b0 : Nat} {v : Value} {d : DataW H} {p : List MemPlace} (hv : Value.okWide Try.prog W r b0 23 v) (h : DataW.Trod enc Try.prog W base spare held 23 v d p) :
    ∃ x y : Int, v = vS x y := by
  obtain ⟨c0, c1, y0, y1, m, rfl, _, _, hy0, hy1⟩ := open_agg2 Try.underlying23 (by kernel_rfl) Try.cells23 hv h
  obtain ⟨N, e0, _, _⟩ := DataW.trod_int Try.underlying2 hy0
  obtain ⟨M, e1, _, _⟩ := DataW.trod_int Try.underlying2 hy1
  simp at e0 e1
  subst e0; subst e1
  exact ⟨N, M, rfl⟩
set_option maxRecDepth 8000 in
/-- A grid by value that came in. -/
theorem open_grid {r : Reach} {b0 : Nat} {v : Value} {d : DataW H} {p : List MemPlace} (hv : Value.okWide Try.prog W r b0 41 v) (h : DataW.Trod enc Try.prog W base spare held 41 v d p) :
    ∃ a b n : Int, v = vG a b n := by
  obtain ⟨c0, c1, c2, y0, y1, y2, m, rfl, _, _, hy0, hy1, hy2⟩ := open_agg3 Try.underlying41 (by kernel_rfl) Try.cells41 hv h
  obtain ⟨N, e0, _, _⟩ := DataW.trod_int Try.underlying2 hy0
  obtain ⟨M, e1, _, _⟩ := DataW.trod_int Try.underlying2 hy1
  obtain ⟨K, e2, _, _⟩ := DataW.trod_int Try.underlying3 hy2
  simp at e0 e1 e2
  subst e0; subst e1; subst e2
  exact ⟨N, M, K, rfl⟩
set_option maxRecDepth 100000 in
/-- Spans that came in. -/
theorem open_spans {fuel : Nat} {v : Value} {x : DataW H × List MemPlace} (h : DataW.trod enc Try.prog W base spare held fuel 31 [v] = some x) :
    ∃ (A : Option Addr) (n c : Nat) (l : List Sp), v = .slice A n c ∧ n = l.length ∧ n ≤ maxLen ∧ n ≤ c ∧ (A = none → n = 0 ∧ c = 0) ∧ Smps W.heap.size W A l := by
  rcases Go.Deep.open_slice Try.underlying31 h with ⟨hcs, _⟩ | ⟨a, len, cap, m, n, D, Pl, hcs, _, hl, hm, hmm, _, hi⟩
  · simp at hcs
    exact ⟨none, 0, 0, [], hcs, rfl, Nat.zero_le _, Nat.le_refl _, fun _ => ⟨rfl, rfl⟩, fun h => absurd rfl h⟩
  · simp at hcs
    have hml : len ≤ m := by rw [hmm]; split <;> omega
    have key : ∀ i, i < len → ∃ y : Sp, W.cell? (a.add (i * 2)) = some (.int .i64 y.1) ∧ W.cell? (a.add (i * 2 + 1)) = some (.int .i64 y.2) := fun i hi' => by
      obtain ⟨cs', hc, ht⟩ := hi i (by omega)
      rw [Try.cells23] at hc
      obtain ⟨_, hlen, hat⟩ := World.cells?_some hc
      match cs', hlen with
      | [u0, u1], _ =>
        obtain ⟨y0, y1, q, _, _, t0, t1⟩ := trod_struct2 Try.underlying23 ht
        have t0' : DataW.trod enc Try.prog W base spare held q 2 [u0] = some y0 := t0
        have t1' : DataW.trod enc Try.prog W base spare held q 2 [u1] = some y1 := t1
        obtain ⟨N, e0, _, _⟩ := DataW.trod_int Try.underlying2 t0'
        obtain ⟨M, e1, _, _⟩ := DataW.trod_int Try.underlying2 t1'
        simp at e0 e1
        subst e0; subst e1
        have g0 := hat 0 (by omega)
        have g1 := hat 1 (by omega)
        rw [Go.Deep.add_add] at g0 g1
        exact ⟨(N, M), by simpa using g0, by simpa using g1⟩
    obtain ⟨Y, hY⟩ := Go.Deep.choose_lt (α := Sp) (p := fun i y => W.cell? (a.add (i * 2)) = some (.int .i64 y.1) ∧ W.cell? (a.add (i * 2 + 1)) = some (.int .i64 y.2)) key
    refine ⟨some a, len, cap, (List.range len).map Y, hcs, by simp, by omega, hl, (fun h => by cases h), fun hne => ?_⟩
    have h0 : 0 < len := by
      rcases Nat.eq_zero_or_pos len with h | h
      · subst h; simp at hne
      · exact h
    obtain ⟨b, off, spot⟩ := a
    obtain ⟨hc0, _⟩ := hY 0 h0
    have hspot : spot = none := by simpa [Addr.add] using World.cell?_spot hc0
    subst hspot
    refine ⟨b, off, rfl, ?_, fun j hj => ?_⟩
    · have := cell_lt hc0
      rwa [addr_add] at this
    · have hj' : j < len := by simpa using hj
      obtain ⟨g0, g1⟩ := hY j hj'
      rw [addr_add] at g0 g1
      rw [List.getElem?_map, List.getElem?_range hj']
      exact ⟨g0, g1⟩
end
end Go.Proofs.Ytjdhodobfkkoiaa
