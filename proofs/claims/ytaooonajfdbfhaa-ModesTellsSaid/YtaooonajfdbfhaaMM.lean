/-
  begun of the statements of layer 7: the smallest list of four nodes. No condition.
-/
import Derived.Test.YtaooonajfdbfhaaML
namespace Go.Proofs.Ytaooonajfdbfhaa
open Go.RowKit

def smallM : ML := ⟨4, 138, 38, 16, 0, 1, [true, true, true, true], plainB 4⟩
theorem plain_small : plainM 4 0 = smallM := by
  have h : maxAirS 4 (plainB 4) = 62 := by decide
  have hG : plainG 4 0 = 38 := by decide
  have hW : plainW 4 0 = 16 := by decide
  unfold plainM
  rw [show ((4 : Nat) : Int) = 4 from rfl, h, hG, hW]
  rfl
theorem small_ok : okM smallM := by decide
theorem small_air : maxAirS smallM.N smallM.ms = 62 := by decide
end Go.Proofs.Ytaooonajfdbfhaa
