/-
  How numbers of 16 bits that came in are read. No condition.
-/
import Derived.Test.YtdmedhklcicpeaaR4
import Derived.Test.YtdmedhklcicpeaaQA
namespace Go.Proofs.Ytdmedhklcicpeaa
open Go.ChangeShapes Go.WideShapes Go.ChangeAt Go.RowKit Go.Joins

section
variable {H : Type} {enc : TypeId × Value → H} {W : World} {base : Nat} {spare : Nat → Bool} {held : Bool}
/-- Numbers of 16 bits that came in. -/
theorem open_u16s {fuel : Nat} {v : Value} {x : DataW H × List MemPlace} (h : DataW.trod enc Try.prog W base spare held fuel 55 [v] = some x) :
    ∃ (A : Option Addr) (n c : Nat) (zs : List Nat), v = .slice A n c ∧ n = zs.length ∧ n ≤ maxLen ∧ U16s W.heap.size W A zs ∧ ∀ z ∈ zs, z < 65536 := by
  rcases open_ints Try.underlying55 Try.underlying56 (by kernel_rfl) h with ⟨hcs, _⟩ | ⟨a, len, cap, zs, hcs, _, hl, hm, hz, _, hcell, hwz⟩
  · simp at hcs
    exact ⟨none, 0, 0, [], hcs, rfl, Nat.zero_le _, fun h => absurd rfl h, fun z hz => by cases hz⟩
  · simp at hcs
    have hzl : len ≤ zs.length := by rw [hz]; split <;> omega
    refine ⟨some a, len, cap, (zs.take len).map fun z => z.toNat, hcs, by simp; omega, by omega, fun hne => ?_, fun z hz' => ?_⟩
    · have h0 : 0 < len := by
        rcases Nat.eq_zero_or_pos len with h | h
        · subst h; simp at hne
        · exact h
      obtain ⟨b, off, spot⟩ := a
      have hc0 := hcell 0 (by omega)
      have hspot : spot = none := by simpa [Addr.add] using World.cell?_spot hc0
      subst hspot
      refine ⟨b, off, rfl, ?_, fun j hj => ?_⟩
      · have := cell_lt hc0
        rwa [addr_add] at this
      · have hj' : j < len := by simp at hj; omega
        have := hcell j (by omega)
        rw [addr_add] at this
        rw [this]
        have hjz : j < zs.length := by omega
        have hwf := hwz zs[j] (List.getElem_mem hjz)
        have hb := bounds_u16 hwf
        simp [List.getD, hjz, List.getElem?_take_of_lt hj']
        omega
    · obtain ⟨y, hy, rfl⟩ := List.mem_map.1 hz'
      have hb := bounds_u16 (hwz y (List.mem_of_mem_take hy))
      omega
end
end Go.Proofs.Ytdmedhklcicpeaa
