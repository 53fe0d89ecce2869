/-
  Slice of package bits answers as the document says, for all bits and places. No condition but that the bytes can be read.
-/
import Derived.Test.YtnlmpemfpkmodaaG4
namespace Go.Proofs.Ytnlmpemfpkmodaa
open Go.RowKit

/-- Slice, by the document. -/
def sliceS (N : Int) (bs : List UInt8) (fr to : Int) : Int × List Bool :=
  if goodB N bs = true then
    if 0 ≤ fr ∧ fr ≤ to ∧ to ≤ N then (0, ((listOf N bs).drop fr.toNat).take (to.toNat - fr.toNat)) else (2, [])
  else (10, [])

theorem part_length (l : List Bool) (f t : Nat) (h : t ≤ l.length) : ((l.drop f).take (t - f)).length = t - f := by simp; omega
theorem part_get (l : List Bool) (f t k : Nat) (hk : k < t - f) : ((l.drop f).take (t - f))[k]?.getD false = l[f + k]?.getD false := by
  rw [List.getElem?_take_of_lt hk, List.getElem?_drop]

end Go.Proofs.Ytnlmpemfpkmodaa
