/-
  Which bits are the same: the document itself, Same of package bits, and Equal of package bytes. No condition but that the bytes can be read.
-/
import Derived.Test.YtaooonajfdbfhaaF2
namespace Go.Proofs.Ytaooonajfdbfhaa
open Go.RowKit

/-- Whether bits are the same. -/
def sameB (N : Int) (bs : List UInt8) (N' : Int) (bs' : List UInt8) : Bool := decide (N = N') && decide (bs = bs')
theorem sameB_self (N : Int) (bs : List UInt8) : sameB N bs N bs = true := by simp [sameB]
theorem str_list (l : List UInt8) : (⟨l.toArray⟩ : ByteArray).toList = l := by rw [ByteArray.toList_eq]
theorem str_eq (l r : List UInt8) : ((⟨l.toArray⟩ : ByteArray).toList == (⟨r.toArray⟩ : ByteArray).toList) = decide (l = r) := by
  rw [str_list, str_list, Bool.eq_iff_iff]
  simp

end Go.Proofs.Ytaooonajfdbfhaa
