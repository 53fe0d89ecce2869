/-
  Which bits are the same: the document itself, Same of package bits, and Equal of package bytes. No condition but that the bytes can be read.
-/
import Derived.Test.YteigekhfamapmaaDoorF2
namespace Go.Proofs.YteigekhfamapmaaDoor
open Go.RowKit

/-- Whether bits are the same. -/
def sameB (N : Int) (bs : List UInt8) (N' : Int) (bs' : List UInt8) : Bool := decide (N = N') && decide (bs = bs')
theorem sameB_self (N : Int) (bs : List UInt8) : sameB N bs N bs = true := by simp [sameB]
theorem str_list (l : List UInt8) : (⟨l.toArray⟩ : ByteArray).toList = l := by rw [ByteArray.toList_eq]
theorem str_eq (l r : List UInt8) : ((⟨l.toArray⟩ : ByteArray).toList == (⟨r.toArray⟩ : ByteArray).toList) = decide (l = r) := by
  rw [str_list, str_list, Bool.eq_iff_iff]
  simp

set_option maxRecDepth 4000 in
set_option maxHeartbeats 1000000 in
theorem rsame_any (N N' : Int) (A A' : Option Addr) (n n' c c' : Nat) (bs bs' : List UInt8) (w : World) (hn : n = bs.length) (hn' : n' = bs'.length) (hA : Byt w.heap.size w A bs) (hA' : Byt w.heap.size w A' bs') :
    Calls Tryd.prog 14 #[.agg #[.int .i64 N, .slice A n c], .agg #[.int .i64 N', .slice A' n' c']] w fun e w' => e = .returned (.bool (sameB N bs N' bs')) ∧ Below w.heap.size w w' := by
  have hB : Below w.heap.size w ((w.alloc (.cells #[.int .i64 N, .slice A n c] 26)).alloc (.cells #[.int .i64 N', .slice A' n' c'] 26)) := ((Below.refl _ _).alloc (Nat.le_refl _) _).alloc (by simp) _
  have hs1 : (convert 24 9 (.slice A n c)).run Tryd.prog ((w.alloc (.cells #[.int .i64 N, .slice A n c] 26)).alloc (.cells #[.int .i64 N', .slice A' n' c'] 26)) = _ := run_string_bytes hn (hA.below hB)
  have hs2 : (convert 24 9 (.slice A' n' c')).run Tryd.prog ((w.alloc (.cells #[.int .i64 N, .slice A n c] 26)).alloc (.cells #[.int .i64 N', .slice A' n' c'] 26)) = _ := run_string_bytes hn' (hA'.below hB)
  clear hA hA' hn hn'
  by_cases hN : N = N'
  · subst hN
    have hr : sameB N bs N bs' = ((⟨bs.toArray⟩ : ByteArray).toList == (⟨bs'.toArray⟩ : ByteArray).toList) := by rw [str_eq]; simp [sameB]
    rw [hr]; clear hr
    generalize (⟨bs.toArray⟩ : ByteArray) = s1 at *
    generalize (⟨bs'.toArray⟩ : ByteArray) = s2 at *
    go_enter Tryd.func14, Tryd.ntmps14
    go_wp2
    go_ret
    exact ⟨rfl, hB⟩
  · have hr : sameB N bs N' bs' = false := by simp [sameB, hN]
    rw [hr]; clear hr hs1 hs2
    have hb : (N == N') = false := by simpa using hN
    clear hN
    go_enter Tryd.func14, Tryd.ntmps14
    go_wp2
    go_ret
    exact ⟨rfl, hB⟩

end Go.Proofs.YteigekhfamapmaaDoor
