/-
  The document itself: Put. No condition but that the bytes can be read.
-/
import Derived.Test.YtnlmpemfpkmodaaF3
namespace Go.Proofs.Ytnlmpemfpkmodaa
open Go.RowKit

theorem numBits_take (v W k : Nat) (h : k < W) : (numBits v W).take (k + 1) = (numBits v W).take k ++ [v.testBit (W - 1 - k)] := by
  rw [List.take_add_one, List.getElem?_eq_getElem (by simp [numBits, h])]
  simp [numBits]

end Go.Proofs.Ytnlmpemfpkmodaa
