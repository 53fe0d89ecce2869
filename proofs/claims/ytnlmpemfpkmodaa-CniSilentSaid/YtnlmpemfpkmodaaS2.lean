/-
  The document's functions of package phasor over rows of samples: may all be, one turned, two bits as a sample. Conditions: those that each theorem names.
-/
import Derived.Test.YtnlmpemfpkmodaaS1
namespace Go.Proofs.Ytnlmpemfpkmodaa
open Go.RowKit

theorem all_take_may (l : List Sp) (k : Nat) (h : k < l.length) : (l.take (k + 1)).all mayS = ((l.take k).all mayS && mayS (l[k]?.getD (0, 0))) := by
  rw [List.take_add_one, List.getElem?_eq_getElem h, List.all_append]; simp
theorem not_all_may (l : List Sp) (k : Nat) (h : k < l.length) (hm : mayS (l[k]?.getD (0, 0)) = false) : l.all mayS = false := by
  rw [List.all_eq_false]
  refine ⟨l[k], List.getElem_mem h, ?_⟩
  rw [List.getElem?_eq_getElem h] at hm
  simpa using hm

end Go.Proofs.Ytnlmpemfpkmodaa
