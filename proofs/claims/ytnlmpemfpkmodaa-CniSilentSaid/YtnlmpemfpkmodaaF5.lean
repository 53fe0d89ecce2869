/-
  The document itself: Get. No condition but that the bytes can be read.
-/
import Derived.Test.YtnlmpemfpkmodaaF4
namespace Go.Proofs.Ytnlmpemfpkmodaa
open Go.RowKit

theorem u64_more (x : Nat) (h : 2 * x < 2 ^ 64) : IntKind.u64.wrap (((2 * x : Nat) : Int) + 1) = ((2 * x + 1 : Nat) : Int) := by
  rw [IntKind.wrap_u64]; omega

end Go.Proofs.Ytnlmpemfpkmodaa
