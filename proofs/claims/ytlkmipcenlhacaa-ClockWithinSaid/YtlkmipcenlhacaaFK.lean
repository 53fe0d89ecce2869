/-
  How numbers in slices, and rows of them, that came in are read. No condition.
-/
import Derived.Test.YtlkmipcenlhacaaR0
import Derived.Test.YtlkmipcenlhacaaQG
import Derived.Deep.Slices
namespace Go.Proofs.Ytlkmipcenlhacaa
open Go.ChangeShapes Go.WideShapes Go.ChangeAt Go.RowKit Go.Joins

/-- Small numbers in a slice. -/
def Shorts (n₀ : Nat) (W : World) (A : Option Addr) (zs : List Int) : Prop :=
  zs ≠ [] → ∃ b off, A = some ⟨b, off, none⟩ ∧ b < n₀ ∧ ∀ j, j < zs.length → W.cell? ⟨b, off + j, none⟩ = some (.int .i16 (nth zs j))
theorem Shorts.below {n₀ : Nat} {W W' : World} {A : Option Addr} {zs : List Int} (h : Shorts n₀ W A zs) (hb : Below n₀ W W') : Shorts n₀ W' A zs := fun hn => by
  obtain ⟨b, off, e, hlt, hc⟩ := h hn
  exact ⟨b, off, e, hlt, fun j hj => (hb.cell (p := ⟨b, off + j, none⟩) hlt).trans (hc j hj)⟩
/-- A row of numbers: where it lies, and what it holds. -/
structure RJ where
  A : Option Addr
  n : Nat
  c : Nat
  l : List Int
instance : Inhabited RJ := ⟨⟨none, 0, 0, []⟩⟩
def RJok (B : Nat) (W : World) (r : RJ) : Prop := r.n = r.l.length ∧ r.n ≤ maxLen ∧ Ints B W r.A r.l
/-- Rows of numbers in a slice. -/
def RowsJ (B : Nat) (W : World) (X : Option Addr) (rs : List RJ) : Prop :=
  (rs ≠ [] → ∃ b off, X = some ⟨b, off, none⟩ ∧ b < B ∧ ∀ j, j < rs.length → W.cell? ⟨b, off + j, none⟩ = some (.slice (rs[j]?.getD default).A (rs[j]?.getD default).n (rs[j]?.getD default).c)) ∧ ∀ r ∈ rs, RJok B W r
section
variable {H : Type} {enc : TypeId × Value → H} {W : World} {base : Nat} {spare : Nat → Bool} {held : Bool}
/-- Numbers in a slice that came in. -/
theorem open_js {fuel : Nat} {v : Value} {x : DataW H × List MemPlace} (h : DataW.trod enc Try.prog W base spare held fuel 26 [v] = some x) :
    ∃ (A : Option Addr) (n c : Nat) (zs : List Int), v = .slice A n c ∧ n = zs.length ∧ n ≤ maxLen ∧ n ≤ c ∧ (A = none → n = 0 ∧ c = 0) ∧ Ints W.heap.size W A zs := by
  rcases open_ints Try.underlying26 Try.underlying2 (by kernel_rfl) h with ⟨hcs, _⟩ | ⟨a, len, cap, zs, hcs, _, hl, hm, hz, _, hcell, hwz⟩
  · simp at hcs
    exact ⟨none, 0, 0, [], hcs, rfl, Nat.zero_le _, Nat.le_refl _, fun _ => ⟨rfl, rfl⟩, fun h => absurd rfl h⟩
  · simp at hcs
    have hzl : len ≤ zs.length := by rw [hz]; split <;> omega
    refine ⟨some a, len, cap, zs.take len, hcs, by simp; omega, by omega, hl, (fun h => by cases h), fun hne => ?_⟩
    have h0 : 0 < len := by
      rcases Nat.eq_zero_or_pos len with h | h
      · subst h; simp at hne
      · exact h
    obtain ⟨b, off, spot⟩ := a
    have hc0 := hcell 0 (by omega)
    have hspot : spot = none := by simpa [Addr.add] using World.cell?_spot hc0
    subst hspot
    refine ⟨b, off, rfl, ?_, fun j hj => ?_⟩
    · have := cell_lt hc0
      rwa [addr_add] at this
    · have hj' : j < len := by simp at hj; omega
      have := hcell j (by omega)
      rw [addr_add] at this
      rw [this, List.getElem?_take_of_lt hj']
      rfl
end
end Go.Proofs.Ytlkmipcenlhacaa
