/-
  Get of package bits answers as the document says, for all bits, places and widths. No condition but that the bytes can be read.
-/
import Derived.Test.YtnlmpemfpkmodaaE4
namespace Go.Proofs.Ytnlmpemfpkmodaa
open Go.RowKit

/-- Get, by the document. -/
def getS (N : Int) (bs : List UInt8) (at_ width : Int) : Int × Nat :=
  if goodB N bs = true then
    if (0 ≤ width ∧ width ≤ 64) ∧ 0 ≤ at_ ∧ at_ ≤ N - width then (0, numOf (((listOf N bs).drop at_.toNat).take width.toNat))
    else (2, 0)
  else (10, 0)
/-- What it answers. -/
def Num (w : World) (r : Int × Nat) (e : Ending) (w' : World) : Prop := e = .returned (.tuple #[.int .u64 r.2, .int .i64 r.1]) ∧ Below w.heap.size w w'

theorem u64_twice (x : Nat) (h : 2 * x < 2 ^ 64) : IntKind.u64.wrap ((x : Int) * 2) = ((2 * x : Nat) : Int) := by
  rw [IntKind.wrap_u64]; omega
theorem u64_or1 (x : Nat) (h : 2 * x < 2 ^ 64) : bits .or .u64 ((2 * x : Nat) : Int) 1 = ((2 * x + 1 : Nat) : Int) := by
  rw [show (1 : Int) = ((1 : Nat) : Int) from rfl, u64_or_nat _ _ (by omega) (by omega)]
  rw [nat_join 1 (2 * x) 1 (by omega) (by omega)]
theorem take_snoc_get (l : List Bool) (a k : Nat) (h : a + k < l.length) : (l.drop a).take (k + 1) = (l.drop a).take k ++ [l[a + k]?.getD false] := by
  rw [List.take_add_one, List.getElem?_drop, List.getElem?_eq_getElem h]
  rfl
theorem num_small (l : List Bool) (k : Nat) (h : k < 64) : 2 * numOf (l.take k) < 2 ^ 64 := by
  have h1 := numOf_lt (l.take k)
  have h2 : (l.take k).length ≤ k := List.length_take_le _ _
  have h3 : 2 ^ (l.take k).length ≤ 2 ^ 63 := Nat.pow_le_pow_right (by omega) (by omega)
  omega

end Go.Proofs.Ytnlmpemfpkmodaa
