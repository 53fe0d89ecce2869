/-
  Ones of package bits answers how many bits are 1, and 0 for bits that may not be. No condition but that the bytes can be read.
-/
import Derived.Test.YtdmedhklcicpeaaH4
namespace Go.Proofs.Ytdmedhklcicpeaa
open Go.RowKit Go.Shelf
attribute [local go_sem] Oper.semAt_some

/-- How many are 1. -/
def onesOf (l : List Bool) : Nat := l.countP (· == true)
theorem ones_snoc (pre : List (Nat × Bool)) (x : Nat × Bool) : onesOf ((pre ++ [x]).map (·.2)) = onesOf (pre.map (·.2)) + (if x.2 = true then 1 else 0) := by
  simp only [onesOf, List.map_append, List.countP_append, List.map_cons, List.map_nil, List.countP_singleton]
  cases x.2 <;> rfl
theorem ones_le (l : List Bool) : onesOf l ≤ l.length := List.countP_le_length

end Go.Proofs.Ytdmedhklcicpeaa
