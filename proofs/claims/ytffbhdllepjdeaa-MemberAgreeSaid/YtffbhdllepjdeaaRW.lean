/-
  How bytes that came in are read, with what is left of their memory. No condition.
-/
import Derived.Test.YtffbhdllepjdeaaRV
namespace Go.Proofs.Ytffbhdllepjdeaa
open Go.ChangeShapes Go.WideShapes Go.ChangeAt Go.RowKit Go.Joins

section
variable {H : Type} {enc : TypeId × Value → H} {W : World} {base : Nat} {spare : Nat → Bool} {held : Bool}
theorem open_bytes2 {fuel : Nat} {v : Value} {x : DataW H × List MemPlace} (h : DataW.trod enc Try.prog W base spare held fuel 45 [v] = some x) :
    ∃ (A : Option Addr) (n c : Nat) (bs : List UInt8), v = .slice A n c ∧ n = bs.length ∧ n ≤ c ∧ c ≤ maxLen ∧ Byt W.heap.size W A bs := by
  obtain ⟨A, n, c, bs, rfl, hn, hm, hA⟩ := open_bytes h
  refine ⟨A, n, c, bs, rfl, hn, ?_, ?_, hA⟩
  all_goals
    rcases open_ints Try.underlying45 Try.underlying5 (by kernel_rfl) h with ⟨hcs, _⟩ | ⟨a, len, cap, zs, hcs, _, hl, hm2, hz, _, hcell, hwz⟩
    · simp at hcs
      obtain ⟨rfl, rfl, rfl⟩ := hcs
      exact Nat.zero_le _
    · simp at hcs
      obtain ⟨rfl, rfl, rfl⟩ := hcs
      omega
end
end Go.Proofs.Ytffbhdllepjdeaa
