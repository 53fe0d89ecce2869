/-
  The document itself: Slice. No condition but that the bytes can be read.
-/
import Derived.Test.YtnlmpemfpkmodaaH1
namespace Go.Proofs.Ytnlmpemfpkmodaa
open Go.RowKit

/-- Truths in a row of the call's own: nil, or a block. -/
theorem own_bools {w : World} {base : Nat} {v : Value} {k : Nat} {l : List Bool} (h : w.ownsRow base 4 1 v k (l.map Value.bool)) :
    (v = .slice none 0 0 ∧ l = []) ∨ ∃ g cap, v = .slice (some ⟨g, 0, none⟩) l.length cap ∧ base ≤ g ∧ g < w.heap.size ∧ l.length ≤ cap ∧ cap ≤ maxLen ∧ (∀ j, j < l.length → w.cell? ⟨g, j, none⟩ = some (.bool (l[j]?.getD false))) ∧ ∀ j, w.frozen? ⟨g, j, none⟩ = false := by
  have hk : l.length = k := by have := h.1; simpa using this
  rcases h.2 with ⟨rfl, h0⟩ | ⟨g, cap, cur, rfl, hb, hh, h1, h2, _⟩
  · exact .inl ⟨rfl, List.eq_nil_of_length_eq_zero (hk.trans h0)⟩
  · refine .inr ⟨g, cap, by rw [hk], hb, (Array.getElem?_eq_some_iff.1 hh).1, by omega, h2, fun j hj => ?_, fun j => by simp [World.frozen?, hh]⟩
    have := h.cells (g := g) rfl j (.bool (l[j]?.getD false)) (by simp [hj])
    rwa [addr_add, Nat.zero_add] at this

end Go.Proofs.Ytnlmpemfpkmodaa
