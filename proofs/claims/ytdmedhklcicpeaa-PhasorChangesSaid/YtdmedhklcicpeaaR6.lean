/-
  How lists of samples that came in are read. No condition.
-/
import Derived.Test.YtdmedhklcicpeaaR4
import Derived.Test.YtdmedhklcicpeaaZ5
namespace Go.Proofs.Ytdmedhklcicpeaa
open Go.ChangeShapes Go.WideShapes Go.ChangeAt Go.RowKit Go.Joins

theorem Try.cells25 : Try.prog.cellsOf 25 = 1 := by kernel_rfl

section
variable {H : Type} {enc : TypeId × Value → H} {W : World} {base : Nat} {spare : Nat → Bool} {held : Bool}
/-- Rows that came in. -/
theorem open_rows {fuel : Nat} {v : Value} {x : DataW H × List MemPlace} (h : DataW.trod enc Try.prog W base spare held fuel 34 [v] = some x) :
    ∃ (X : Option Addr) (xn xc : Nat) (rs : List RW), v = .slice X xn xc ∧ xn = rs.length ∧ xn ≤ maxLen ∧ xn ≤ xc ∧ Rws W X rs ∧ ∀ r ∈ rs, r.n ≤ maxLen := by
  rcases Go.Deep.open_slice1 Try.underlying34 Try.cells25 h with ⟨hcs, _⟩ | ⟨a, len, cap, m, n, V, D, Pl, hcs, _, hl, hm, hmm, _, hi⟩
  · simp at hcs
    exact ⟨none, 0, 0, [], hcs, rfl, Nat.zero_le _, Nat.le_refl _, ⟨fun h => absurd rfl h, fun _ h => by cases h⟩, fun _ h => by cases h⟩
  · simp at hcs
    have hml : len ≤ m := by rw [hmm]; split <;> omega
    have key : ∀ i, i < len → ∃ y : RW, W.cell? (a.add i) = some (.slice y.A y.n y.c) ∧ RWok W y ∧ y.n ≤ maxLen := fun i hi' => by
      obtain ⟨hc, ht⟩ := hi i (by omega)
      obtain ⟨A', n', c', l', hv, h1, h2, h3, _, h4⟩ := open_smps ht
      rw [hv] at hc
      exact ⟨⟨A', n', c', l'⟩, hc, ⟨h1, h3, h4⟩, h2⟩
    obtain ⟨Y, hY⟩ := Go.Deep.choose_lt (α := RW) (p := fun i y => W.cell? (a.add i) = some (.slice y.A y.n y.c) ∧ RWok W y ∧ y.n ≤ maxLen) key
    refine ⟨some a, len, cap, (List.range len).map Y, hcs, by simp, by omega, hl, ⟨fun hne => ?_, fun r hr => ?_⟩, fun r hr => ?_⟩
    · have h0 : 0 < len := by
        rcases Nat.eq_zero_or_pos len with h | h
        · subst h; simp at hne
        · exact h
      obtain ⟨b, off, spot⟩ := a
      obtain ⟨hc0, _⟩ := hY 0 h0
      have hspot : spot = none := by simpa [Addr.add] using World.cell?_spot hc0
      subst hspot
      refine ⟨b, off, rfl, ?_, fun j hj => ?_⟩
      · have := cell_lt hc0
        rwa [addr_add] at this
      · have hj' : j < len := by simpa using hj
        obtain ⟨g0, _⟩ := hY j hj'
        rw [addr_add] at g0
        rw [List.getElem?_map, List.getElem?_map, List.getElem?_range hj']
        exact g0
    · obtain ⟨i, hi2, rfl⟩ := List.mem_map.1 hr
      exact (hY i (List.mem_range.1 hi2)).2.1
    · obtain ⟨i, hi2, rfl⟩ := List.mem_map.1 hr
      exact (hY i (List.mem_range.1 hi2)).2.2
end
end Go.Proofs.Ytdmedhklcicpeaa
