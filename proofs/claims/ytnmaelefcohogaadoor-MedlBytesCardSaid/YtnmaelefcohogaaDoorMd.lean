/-
  How bytes that came in are read, with what is left of their memory. No condition.
-/
import Derived.Test.YtnmaelefcohogaaDoorR3
import Derived.Test.YtnmaelefcohogaaDoorMX
namespace Go.Proofs.YtnmaelefcohogaaDoor
open Go.ChangeShapes Go.WideShapes Go.ChangeAt Go.RowKit Go.Joins

section
variable {H : Type} {enc : TypeId × Value → H} {W : World} {base : Nat} {spare : Nat → Bool} {held : Bool}
theorem open_bytes2 {fuel : Nat} {v : Value} {x : DataW H × List MemPlace} (h : DataW.trod enc Tryd.prog W base spare held fuel 26 [v] = some x) :
    ∃ (A : Option Addr) (n c : Nat) (bs : List UInt8), v = .slice A n c ∧ n = bs.length ∧ n ≤ c ∧ c ≤ maxLen ∧ Byt W.heap.size W A bs := by
  obtain ⟨A, n, c, bs, rfl, hn, hm, hA⟩ := open_bytes h
  refine ⟨A, n, c, bs, rfl, hn, ?_, ?_, hA⟩
  all_goals
    rcases open_ints Tryd.underlying26 Tryd.underlying5 (by kernel_rfl) h with ⟨hcs, _⟩ | ⟨a, len, cap, zs, hcs, _, hl, hm2, hz, _, hcell, hwz⟩
    · simp at hcs
      obtain ⟨rfl, rfl, rfl⟩ := hcs
      exact Nat.zero_le _
    · simp at hcs
      obtain ⟨rfl, rfl, rfl⟩ := hcs
      omega
end
end Go.Proofs.YtnmaelefcohogaaDoor
