/-
  Parse of package bits and of the document itself answer as the document says, for every text. No condition.
-/
import Derived.Test.YtnlmpemfpkmodaaF5
namespace Go.Proofs.Ytnlmpemfpkmodaa
open Go.RowKit

/-- Is a byte a digit? -/
def isDig (x : UInt8) : Bool := x == 48 || x == 49
/-- Parse, by the document. -/
def parseS (s : List UInt8) : Int × List Bool := if 4096 < s.length then (3, []) else if s.all isDig = true then (0, s.map (· == 49)) else (11, [])

theorem bytes_length (s : ByteArray) : s.data.toList.length = s.size := Array.length_toList
theorem byte_at (s : ByteArray) (k : Nat) (h : k < s.size) : s.data.toList[k]? = some s[k] := by
  rw [List.getElem?_eq_getElem (by rw [bytes_length]; exact h)]
  rfl
theorem take_all (s : ByteArray) (k : Nat) (h : k < s.size) : (s.data.toList.take (k + 1)).all isDig = ((s.data.toList.take k).all isDig && isDig s[k]) := by
  rw [List.take_add_one, byte_at s k h, List.all_append]
  simp
theorem digit_at (s : ByteArray) (k : Nat) (h : k < s.size) : (s.data.toList.map (· == 49))[k]?.getD false = (s[k] == 49) := by
  rw [List.getElem?_map, byte_at s k h]
  rfl
theorem is48 (x : UInt8) : ((x.toNat : Int) == 48) = (x == 48) := by
  rw [Bool.eq_iff_iff, beq_iff_eq, beq_iff_eq, ← UInt8.toNat_inj]
  have : (48 : UInt8).toNat = 48 := rfl
  omega
theorem is49 (x : UInt8) : ((x.toNat : Int) == 49) = (x == 49) := by
  rw [Bool.eq_iff_iff, beq_iff_eq, beq_iff_eq, ← UInt8.toNat_inj]
  have : (49 : UInt8).toNat = 49 := rfl
  omega
theorem not_all (s : ByteArray) (k : Nat) (h : k < s.size) (hd : isDig s[k] = false) : s.data.toList.all isDig = false := by
  rw [List.all_eq_false]
  exact ⟨s[k], List.mem_of_getElem? (byte_at s k h), by rw [hd]; decide⟩

end Go.Proofs.Ytnlmpemfpkmodaa
