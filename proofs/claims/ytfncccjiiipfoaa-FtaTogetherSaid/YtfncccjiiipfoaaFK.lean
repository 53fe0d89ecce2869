/-
  How numbers in slices, and rows of them, that came in are read. No condition.
-/
import Derived.Test.YtfncccjiiipfoaaR0
import Derived.Test.YtfncccjiiipfoaaFB
import Derived.Deep.Slices
namespace Go.Proofs.Ytfncccjiiipfoaa
open Go.ChangeShapes Go.WideShapes Go.ChangeAt Go.RowKit Go.Joins

/-- Small numbers in a slice. -/
def Shorts (n₀ : Nat) (W : World) (A : Option Addr) (zs : List Int) : Prop :=
  zs ≠ [] → ∃ b off, A = some ⟨b, off, none⟩ ∧ b < n₀ ∧ ∀ j, j < zs.length → W.cell? ⟨b, off + j, none⟩ = some (.int .i16 (nth zs j))
theorem Shorts.below {n₀ : Nat} {W W' : World} {A : Option Addr} {zs : List Int} (h : Shorts n₀ W A zs) (hb : Below n₀ W W') : Shorts n₀ W' A zs := fun hn => by
  obtain ⟨b, off, e, hlt, hc⟩ := h hn
  exact ⟨b, off, e, hlt, fun j hj => (hb.cell (p := ⟨b, off + j, none⟩) hlt).trans (hc j hj)⟩
/-- A row of numbers: where it lies, and what it holds. -/
structure RJ where
  A : Option Addr
  n : Nat
  c : Nat
  l : List Int
instance : Inhabited RJ := ⟨⟨none, 0, 0, []⟩⟩
def RJok (B : Nat) (W : World) (r : RJ) : Prop := r.n = r.l.length ∧ r.n ≤ maxLen ∧ Ints B W r.A r.l
/-- Rows of numbers in a slice. -/
def RowsJ (B : Nat) (W : World) (X : Option Addr) (rs : List RJ) : Prop :=
  (rs ≠ [] → ∃ b off, X = some ⟨b, off, none⟩ ∧ b < B ∧ ∀ j, j < rs.length → W.cell? ⟨b, off + j, none⟩ = some (.slice (rs[j]?.getD default).A (rs[j]?.getD default).n (rs[j]?.getD default).c)) ∧ ∀ r ∈ rs, RJok B W r
section
variable {H : Type} {enc : TypeId × Value → H} {W : World} {base : Nat} {spare : Nat → Bool} {held : Bool}
/-- Numbers in a slice that came in. -/
theorem open_js {fuel : Nat} {v : Value} {x : DataW H × List MemPlace} (h : DataW.trod enc Try.prog W base spare held fuel 22 [v] = some x) :
    ∃ (A : Option Addr) (n c : Nat) (zs : List Int), v = .slice A n c ∧ n = zs.length ∧ n ≤ maxLen ∧ n ≤ c ∧ (A = none → n = 0 ∧ c = 0) ∧ Ints W.heap.size W A zs := by
  rcases open_ints Try.underlying22 Try.underlying2 (by kernel_rfl) h with ⟨hcs, _⟩ | ⟨a, len, cap, zs, hcs, _, hl, hm, hz, _, hcell, hwz⟩
  · simp at hcs
    exact ⟨none, 0, 0, [], hcs, rfl, Nat.zero_le _, Nat.le_refl _, fun _ => ⟨rfl, rfl⟩, fun h => absurd rfl h⟩
  · simp at hcs
    have hzl : len ≤ zs.length := by rw [hz]; split <;> omega
    refine ⟨some a, len, cap, zs.take len, hcs, by simp; omega, by omega, hl, (fun h => by cases h), fun hne => ?_⟩
    have h0 : 0 < len := by
      rcases Nat.eq_zero_or_pos len with h | h
      · subst h; simp at hne
      · exact h
    obtain ⟨b, off, spot⟩ := a
    have hc0 := hcell 0 (by omega)
    have hspot : spot = none := by simpa [Addr.add] using World.cell?_spot hc0
    subst hspot
    refine ⟨b, off, rfl, ?_, fun j hj => ?_⟩
    · have := cell_lt hc0
      rwa [addr_add] at this
    · have hj' : j < len := by simp at hj; omega
      have := hcell j (by omega)
      rw [addr_add] at this
      rw [this, List.getElem?_take_of_lt hj']
      rfl
/-- Small numbers in a slice that came in. -/
theorem open_shorts {fuel : Nat} {v : Value} {x : DataW H × List MemPlace} (h : DataW.trod enc Try.prog W base spare held fuel 42 [v] = some x) :
    ∃ (A : Option Addr) (n c : Nat) (zs : List Int), v = .slice A n c ∧ n = zs.length ∧ n ≤ maxLen ∧ Shorts W.heap.size W A zs ∧ ∀ z ∈ zs, -32768 ≤ z ∧ z ≤ 32767 := by
  rcases open_ints Try.underlying42 Try.underlying43 (by kernel_rfl) h with ⟨hcs, _⟩ | ⟨a, len, cap, zs, hcs, _, hl, hm, hz, _, hcell, hwz⟩
  · simp at hcs
    exact ⟨none, 0, 0, [], hcs, rfl, Nat.zero_le _, fun h => absurd rfl h, fun z hz => by cases hz⟩
  · simp at hcs
    have hzl : len ≤ zs.length := by rw [hz]; split <;> omega
    refine ⟨some a, len, cap, zs.take len, hcs, by simp; omega, by omega, fun hne => ?_, fun z hz' => ?_⟩
    · have h0 : 0 < len := by
        rcases Nat.eq_zero_or_pos len with h | h
        · subst h; simp at hne
        · exact h
      obtain ⟨b, off, spot⟩ := a
      have hc0 := hcell 0 (by omega)
      have hspot : spot = none := by simpa [Addr.add] using World.cell?_spot hc0
      subst hspot
      refine ⟨b, off, rfl, ?_, fun j hj => ?_⟩
      · have := cell_lt hc0
        rwa [addr_add] at this
      · have hj' : j < len := by simp at hj; omega
        have := hcell j (by omega)
        rw [addr_add] at this
        rw [this]
        unfold nth
        rw [List.getElem?_take_of_lt hj']
        rfl
    · have hb := bounds_i16 (hwz z (List.mem_of_mem_take hz'))
      omega
/-- Rows that came in. -/
theorem open_rowsJ {fuel : Nat} {v : Value} {x : DataW H × List MemPlace} (h : DataW.trod enc Try.prog W base spare held fuel 36 [v] = some x) :
    ∃ (X : Option Addr) (xn xc : Nat) (rs : List RJ), v = .slice X xn xc ∧ xn = rs.length ∧ xn ≤ maxLen ∧ RowsJ W.heap.size W X rs := by
  rcases Go.Deep.open_slice1 Try.underlying36 (by kernel_rfl) h with ⟨hcs, _⟩ | ⟨a, len, cap, m, n, V, D, Pl, hcs, _, hl, hm, hmm, _, hi⟩
  · simp at hcs
    exact ⟨none, 0, 0, [], hcs, rfl, Nat.zero_le _, fun h => absurd rfl h, fun _ h => by cases h⟩
  · simp at hcs
    have hml : len ≤ m := by rw [hmm]; split <;> omega
    have key : ∀ i, i < len → ∃ y : RJ, W.cell? (a.add i) = some (.slice y.A y.n y.c) ∧ RJok W.heap.size W y := fun i hi' => by
      obtain ⟨hc, ht⟩ := hi i (by omega)
      obtain ⟨A', n', c', l', hv, h1, h2, _, _, h4⟩ := open_js ht
      rw [hv] at hc
      exact ⟨⟨A', n', c', l'⟩, hc, h1, h2, h4⟩
    obtain ⟨Y, hY⟩ := Go.Deep.choose_lt (α := RJ) (p := fun i y => W.cell? (a.add i) = some (.slice y.A y.n y.c) ∧ RJok W.heap.size W y) key
    refine ⟨some a, len, cap, (List.range len).map Y, hcs, by simp, by omega, fun hne => ?_, fun r hr => ?_⟩
    · have h0 : 0 < len := by
        rcases Nat.eq_zero_or_pos len with h | h
        · subst h; simp at hne
        · exact h
      obtain ⟨b, off, spot⟩ := a
      obtain ⟨hc0, _⟩ := hY 0 h0
      have hspot : spot = none := by simpa [Addr.add] using World.cell?_spot hc0
      subst hspot
      refine ⟨b, off, rfl, ?_, fun j hj => ?_⟩
      · have := cell_lt hc0
        rwa [addr_add] at this
      · have hj' : j < len := by simpa using hj
        obtain ⟨g0, _⟩ := hY j hj'
        rw [addr_add] at g0
        rw [List.getElem?_map, List.getElem?_range hj']
        exact g0
    · obtain ⟨i, hi2, rfl⟩ := List.mem_map.1 hr
      exact (hY i (List.mem_range.1 hi2)).2
end
end Go.Proofs.Ytfncccjiiipfoaa
