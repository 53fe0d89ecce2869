/-
  The document's Turn, and Same over samples. Conditions: rows that can be read, of up to 65,536 samples.
-/
import Derived.Test.YtnlmpemfpkmodaaS2
namespace Go.Proofs.Ytnlmpemfpkmodaa
open Go.RowKit

theorem own_on {w w' : World} {b : Nat} {e : TypeId} {size : Nat} {v : Value} {n : Nat} {xs : List Value} (h : w.ownsRow b e size v n xs) (hb : Below w.heap.size w w') : w'.ownsRow b e size v n xs :=
  h.kept (only_of_below hb none) (by
    rcases h.2 with ⟨h1, _⟩ | ⟨g, cap, cur, h1, _⟩
    · rw [h1]; exact .inl rfl
    · exact .inr (by rw [h1]; simp [Value.ownBlock]))
/-- What a call answers: an error's number and samples, in memory that it made; all that was there stays. -/
def ResS (w : World) (r : Int × List Sp) (e : Ending) (w' : World) : Prop :=
  ∃ (A : Option Addr) (n c : Nat), e = .returned (.tuple #[.slice A n c, .int .i64 r.1]) ∧ n = r.2.length ∧ n ≤ c ∧ Smps w'.heap.size w' A r.2 ∧ Below w.heap.size w w' ∧ ∀ a, A = some a → r.2 ≠ [] → w.heap.size ≤ a.block
theorem own_fresh {w : World} {base : Nat} {e : TypeId} {size : Nat} {A : Option Addr} {n c k : Nat} {xs : List Value} (h : w.ownsRow base e size (.slice A n c) k xs) : ∀ a, A = some a → base ≤ a.block := fun a ha => by
  subst ha
  rcases h.2 with ⟨h1, _⟩ | ⟨g, cap, cur, h1, hb, _⟩
  · cases h1
  · injection h1 with h1 _ _
    injection h1 with h1
    subst h1; exact hb
theorem own_cap {w : World} {base : Nat} {e : TypeId} {size : Nat} {A : Option Addr} {n c k : Nat} {xs : List Value} (h : w.ownsRow base e size (.slice A n c) k xs) : n ≤ c := by
  rcases h.2 with ⟨h1, _⟩ | ⟨g, cap, cur, h1, _, _, hc, _⟩
  · injection h1 with _ h2 h3; omega
  · injection h1 with _ h2 h3; omega
/-- Turn, by the document. -/
def turnS (l : List Sp) (q : Int) : Int × List Sp := if l.all mayS = true then (0, l.map (turn1 · q)) else (31, [])
theorem map_snoc_s (l : List Sp) (f : Sp → Sp) (k : Nat) (h : k < l.length) : (l.take (k + 1)).map f = (l.take k).map f ++ [f (l[k]?.getD (0, 0))] := by
  rw [List.take_add_one, List.getElem?_eq_getElem h, List.map_append]; rfl
theorem may_at {l : List Sp} (h : l.all mayS = true) {k : Nat} (hk : k < l.length) : mayS (l[k]?.getD (0, 0)) = true := by
  rw [List.all_eq_true] at h
  rw [List.getElem?_eq_getElem hk]
  exact h _ (List.getElem_mem hk)

end Go.Proofs.Ytnlmpemfpkmodaa
