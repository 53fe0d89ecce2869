/-
  What stands behind two numbers that were put is as the document says. No condition.
-/
import Derived.Test.YtnlmpemfpkmodaaE7
namespace Go.Proofs.Ytnlmpemfpkmodaa
open Go.RowKit

theorem goodB_nil : goodB 0 [] = true := by decide
theorem put_first : putS 0 [] 5 4 = (0, [false, true, false, true]) := by decide
theorem put_more {l : List Bool} {bs : List UInt8} (h : IsBits l bs) (hl : l.length ≤ 4096) (v : Nat) (width : Int) :
    putS l.length bs v width = (if (0 ≤ width ∧ width ≤ 64) ∧ v / 2 ^ width.toNat = 0 then if 4096 - (l.length : Int) < width then (3, []) else (0, l ++ numBits v width.toNat) else (2, [])) := by
  unfold putS
  rw [if_pos (isBits_good h hl), isBits_listOf h]
theorem get_more {l : List Bool} {bs : List UInt8} (h : IsBits l bs) (hl : l.length ≤ 4096) (at_ width : Int) :
    getS l.length bs at_ width = (if (0 ≤ width ∧ width ≤ 64) ∧ 0 ≤ at_ ∧ at_ ≤ (l.length : Int) - width then (0, numOf ((l.drop at_.toNat).take width.toNat)) else (2, 0)) := by
  unfold getS
  rw [if_pos (isBits_good h hl), isBits_listOf h]
theorem lst_more {l : List Bool} {bs : List UInt8} (h : IsBits l bs) (hl : l.length ≤ 4096) : lst l.length bs = l := by
  unfold lst
  rw [if_pos (isBits_good h hl), isBits_listOf h]

theorem bytes_small {l : List Bool} {bs : List UInt8} (h : IsBits l bs) (hl : l.length ≤ 4096) : bs.length ≤ maxLen := by
  have := h.1; unfold maxLen; omega

end Go.Proofs.Ytnlmpemfpkmodaa
