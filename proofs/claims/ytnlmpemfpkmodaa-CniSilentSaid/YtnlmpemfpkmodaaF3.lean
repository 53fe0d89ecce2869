/-
  Which bits are the same: the document itself, Same of package bits, and Equal of package bytes. No condition but that the bytes can be read.
-/
import Derived.Test.YtnlmpemfpkmodaaF2
namespace Go.Proofs.Ytnlmpemfpkmodaa
open Go.RowKit

/-- Whether bits are the same. -/
def sameB (N : Int) (bs : List UInt8) (N' : Int) (bs' : List UInt8) : Bool := decide (N = N') && decide (bs = bs')
theorem sameB_self (N : Int) (bs : List UInt8) : sameB N bs N bs = true := by simp [sameB]
theorem str_list (l : List UInt8) : (⟨l.toArray⟩ : ByteArray).toList = l := by rw [ByteArray.toList_eq]
theorem str_eq (l r : List UInt8) : ((⟨l.toArray⟩ : ByteArray).toList == (⟨r.toArray⟩ : ByteArray).toList) = decide (l = r) := by
  rw [str_list, str_list, Bool.eq_iff_iff]
  simp

set_option maxRecDepth 4000 in
set_option maxHeartbeats 1000000 in
theorem bequal_any (A A' : Option Addr) (n n' c c' : Nat) (bs bs' : List UInt8) (w : World) (hn : n = bs.length) (hn' : n' = bs'.length) (hA : Byt w.heap.size w A bs) (hA' : Byt w.heap.size w A' bs') :
    Calls Try.prog 24 #[.slice A n c, .slice A' n' c'] w fun e w' => e = .returned (.bool (decide (bs = bs'))) ∧ w = w' := by
  have hs1 : (convert 22 9 (.slice A n c)).run Try.prog w = _ := run_string_bytes hn hA
  have hs2 : (convert 22 9 (.slice A' n' c')).run Try.prog w = _ := run_string_bytes hn' hA'
  clear hA hA' hn hn'
  rw [← str_eq]
  generalize (⟨bs.toArray⟩ : ByteArray) = s1 at *
  generalize (⟨bs'.toArray⟩ : ByteArray) = s2 at *
  go_enter Try.func24, Try.ntmps24
  go_wp2
  go_ret
  exact ⟨rfl, rfl⟩

end Go.Proofs.Ytnlmpemfpkmodaa
