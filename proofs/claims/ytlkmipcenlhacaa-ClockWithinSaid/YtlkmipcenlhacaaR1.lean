/-
  How a list of truths and a list of places that came in are read. No condition.
-/
import Derived.Test.YtlkmipcenlhacaaR0
import Derived.Test.YtlkmipcenlhacaaQB
import Derived.Deep.Slices
namespace Go.Proofs.Ytlkmipcenlhacaa
open Go.ChangeShapes Go.WideShapes Go.ChangeAt Go.RowKit Go.Joins

section
variable {H : Type} {enc : TypeId × Value → H} {W : World} {base : Nat} {spare : Nat → Bool} {held : Bool}
/-- Truths in a slice that came in. -/
theorem open_truths {fuel : Nat} {v : Value} {x : DataW H × List MemPlace} (h : DataW.trod enc Try.prog W base spare held fuel 22 [v] = some x) :
    ∃ (A : Option Addr) (n c : Nat) (l : List Bool), v = .slice A n c ∧ n = l.length ∧ n ≤ maxLen ∧ Bools W.heap.size W A l := by
  rcases Go.Deep.open_slice Try.underlying22 h with ⟨hcs, _⟩ | ⟨a, len, cap, m, n, D, Pl, hcs, _, hl, hm, hmm, _, hi⟩
  · simp at hcs
    exact ⟨none, 0, 0, [], hcs, rfl, Nat.zero_le _, fun h => absurd rfl h⟩
  · simp at hcs
    have hC : Try.prog.cellsOf 4 = 1 := by kernel_rfl
    have hml : len ≤ m := by rw [hmm]; split <;> omega
    have key : ∀ i, i < len → ∃ b, W.cell? (a.add i) = some (.bool b) := fun i hi' => by
      obtain ⟨cs', hc, ht⟩ := hi i (by omega)
      rw [hC, Nat.mul_one] at hc
      obtain ⟨b, rfl, _⟩ := DataW.trod_bool Try.underlying4 ht
      obtain ⟨_, _, hat⟩ := World.cells?_some hc
      have := hat 0 (by omega)
      rw [Go.Deep.add_add, Nat.add_zero] at this
      exact ⟨b, this⟩
    refine ⟨some a, len, cap, (List.range len).map fun i => (W.cell? (a.add i)).any fun v => match v with | .bool b => b | _ => false, hcs, by simp, by omega, fun hne => ?_⟩
    have h0 : 0 < len := by
      rcases Nat.eq_zero_or_pos len with h | h
      · subst h; simp at hne
      · exact h
    obtain ⟨b, off, spot⟩ := a
    obtain ⟨b0, hc0⟩ := key 0 h0
    have hspot : spot = none := by simpa [Addr.add] using World.cell?_spot hc0
    subst hspot
    refine ⟨b, off, rfl, ?_, fun j hj => ?_⟩
    · have := cell_lt hc0
      rwa [addr_add] at this
    · have hj' : j < len := by simpa using hj
      obtain ⟨bj, hcj⟩ := key j hj'
      rw [addr_add] at hcj
      rw [hcj]
      simp [hj', addr_add, hcj]
/-- Places in a slice that came in. -/
theorem open_places {fuel : Nat} {v : Value} {x : DataW H × List MemPlace} (h : DataW.trod enc Try.prog W base spare held fuel 69 [v] = some x) :
    ∃ (A : Option Addr) (n c : Nat) (zs : List Int), v = .slice A n c ∧ n = zs.length ∧ n ≤ maxLen ∧ Ints W.heap.size W A zs := by
  rcases open_ints Try.underlying69 Try.underlying3 (by kernel_rfl) h with ⟨hcs, _⟩ | ⟨a, len, cap, zs, hcs, _, hl, hm, hz, _, hcell, hwz⟩
  · simp at hcs
    exact ⟨none, 0, 0, [], hcs, rfl, Nat.zero_le _, fun h => absurd rfl h⟩
  · simp at hcs
    have hzl : len ≤ zs.length := by rw [hz]; split <;> omega
    refine ⟨some a, len, cap, zs.take len, hcs, by simp; omega, by omega, fun hne => ?_⟩
    have h0 : 0 < len := by
      rcases Nat.eq_zero_or_pos len with h | h
      · subst h; simp at hne
      · exact h
    obtain ⟨b, off, spot⟩ := a
    have hc0 := hcell 0 (by omega)
    have hspot : spot = none := by simpa [Addr.add] using World.cell?_spot hc0
    subst hspot
    refine ⟨b, off, rfl, ?_, fun j hj => ?_⟩
    · have := cell_lt hc0
      rwa [addr_add] at this
    · have hj' : j < len := by simp at hj; omega
      have := hcell j (by omega)
      rw [addr_add] at this
      rw [this, List.getElem?_take_of_lt hj']
      rfl
end
end Go.Proofs.Ytlkmipcenlhacaa
