/-
  DERIVED. GIVEN WITH THE SEED: THE CARDS: each row of YtnmaelefcohogaaDoorRows.lean that lists a variable, with what it lists TIED to the program's text (the seventh form; the later family's looks); each row that meets fmt, with fmt's text TOLD by the authors' own Lean function (tested against real Go, not proved from fmt's source: count such statements apart). THE CARD IS WHAT COUNTS. Prove the row's statement (the work); the ties are given (YtnmaelefcohogaaDoorTie.lean); close each card by the builder's one call (the guide's Derived/Test/ToyasCard.lean, 'card_holds'). Laid BY PROGRAM, IN A SANDBOX (cutbox-door.mjs). By AI agents, Wed Nov 11 2026. No macro, syntax, notation, axiom, sorry.
-/
import Derived.Test.YtnmaelefcohogaaDoorRows
import GoSem.ClaimSeven
namespace Go.Proofs.YtnmaelefcohogaaDoor
namespace Rows

/-- THE TIED CARD OF 'metronomelaw07.MedlBytes'. -/
def medlBytesCard : Claim7 := { stood := { row := medlBytesRow, standIns := [], harness := (true, "f49aab6f271e9f9c265416bbb0384e8a5cf2019371f2aa5629577a331cece6eb"), looks := false }, kinds := [], alts := [], laidByText := true, laidKinds := [.data], laidTests := true, laidLooks := .later }
def MedlBytesCardSaid : Prop := Claim7.holds Tryd.pinned (.plain (OpenSpec.ofChange medlBytesSpec)) medlBytesCard

/-- THE TIED CARD OF 'metronomelaw07.MedlBack'. -/
def medlBackCard : Claim7 := { stood := { row := medlBackRow, standIns := [], harness := (true, "f49aab6f271e9f9c265416bbb0384e8a5cf2019371f2aa5629577a331cece6eb"), looks := false }, kinds := [], alts := [], laidByText := true, laidKinds := [.data], laidTests := true, laidLooks := .later }
def MedlBackCardSaid : Prop := Claim7.holds Tryd.pinned (.plain (OpenSpec.ofChange medlBackSpec)) medlBackCard

/-- THE SECOND FORM's CARD OF 'metronomelaw07.MedlBytes'. -/
def medlBytesUptoCard : Claim7 := { stood := { row := medlBytesUptoRow, standIns := [], harness := (true, "f49aab6f271e9f9c265416bbb0384e8a5cf2019371f2aa5629577a331cece6eb"), looks := false }, kinds := [], alts := [], laidByText := true, laidKinds := [.data], laidTests := true, laidLooks := .later }
def MedlBytesUptoCardSaid : Prop := Claim7.holds Tryd.pinned (.plain (OpenSpec.upto medlBytesSpec)) medlBytesUptoCard

/-- THE SECOND FORM's CARD OF 'metronomelaw07.MedlBack'. -/
def medlBackUptoCard : Claim7 := { stood := { row := medlBackUptoRow, standIns := [], harness := (true, "f49aab6f271e9f9c265416bbb0384e8a5cf2019371f2aa5629577a331cece6eb"), looks := false }, kinds := [], alts := [], laidByText := true, laidKinds := [.data], laidTests := true, laidLooks := .later }
def MedlBackUptoCardSaid : Prop := Claim7.holds Tryd.pinned (.plain (OpenSpec.upto medlBackSpec)) medlBackUptoCard
end Rows
end Go.Proofs.YtnmaelefcohogaaDoor
