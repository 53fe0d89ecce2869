/-
  What the rows of package crc list of the table: the program's own start meets it, and the table's cells hold it. No condition.
-/
import Derived.Test.YtnmaelefcohogaaDoorR2
import Derived.Test.YtnmaelefcohogaaDoorC1
import Derived.Test.YtnmaelefcohogaaDoorTie
import Derived.Test.YtnmaelefcohogaaDoorCards
import Derived.ProofKit
import Derived.LaidMore
import Derived.Lib.LaidTab
import Derived.Stop.Joined
namespace Go.Proofs.YtnmaelefcohogaaDoor
open Go.ChangeShapes Go.WideShapes Go.ChangeAt Go.RowKit

abbrev laidTab : List (String × DataW Unit) := [("metronome/crc.table", Rows.laid_metronome_crc_table)]
theorem Tryd.gTab : Tryd.prog.globalNamed "metronome/crc.table" = some 0 := by kernel_rfl
theorem Tryd.tTab : (Tryd.prog.globals[0]?).map (·.type) = some 110 := by kernel_rfl
theorem door_met (os : Os) (args : Array Value) : laidMetH Tryd.prog laidTab ((World.doorLaid Tryd.prog 400 os).forCall (fun _ _ => 0) ⟨#[], args, []⟩).memory :=
  laidMetH_of_parts3 (fuel := 8) (laidMet_of_run' 8 (by kernel_rfl) (by kernel_rfl)) (by kernel_rfl) (by kernel_rfl)
theorem tab_of_laid {W : World} (h : laidMetH Tryd.prog laidTab W) : Tab W := by
  rw [MakeChecks.laidMetH_plain _ _ _ (by kernel_rfl)] at h
  have hT := Lib.tabIs_of_head (k := .u32) (zs := tabL) Tryd.gTab Tryd.tTab Tryd.underlying110 Tryd.underlying64 (by kernel_rfl) (by kernel_rfl) h
  have hc := fun (i : Nat) (hi : i < 16) => hT.cell Tryd.gTab i hi
  have h0 := cell_lt (hc 0 (by decide))
  dsimp only at h0
  exact ⟨by omega, h0, hc⟩
end Go.Proofs.YtnmaelefcohogaaDoor
