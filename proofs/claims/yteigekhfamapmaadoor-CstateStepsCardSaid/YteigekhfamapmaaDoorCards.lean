/-
  DERIVED. GIVEN WITH THE SEED: THE CARDS: each row of YteigekhfamapmaaDoorRows.lean that lists a variable, with what it lists TIED to the program's text (the seventh form; the later family's looks); each row that meets fmt, with fmt's text TOLD by the authors' own Lean function (tested against real Go, not proved from fmt's source: count such statements apart). THE CARD IS WHAT COUNTS. Prove the row's statement (the work); the ties are given (YteigekhfamapmaaDoorTie.lean); close each card by the builder's one call (the guide's Derived/Test/ToyasCard.lean, 'card_holds'). Laid BY PROGRAM, IN A SANDBOX (cutbox-door.mjs). By AI agents, Wed Nov 11 2026. No macro, syntax, notation, axiom, sorry.
-/
import Derived.Test.YteigekhfamapmaaDoorRows
import GoSem.ClaimSeven
namespace Go.Proofs.YteigekhfamapmaaDoor
namespace Rows

/-- THE TIED CARD OF 'metronomelaw04.CstateBits'. -/
def cstateBitsCard : Claim7 := { stood := { row := cstateBitsRow, standIns := [], harness := (true, "7e498b729d4f373840e91088d94a3c3705540efdcc4cc7bedd172b9919b77cbb"), looks := false }, kinds := [], alts := [], laidByText := true, laidKinds := [.data], laidTests := true, laidLooks := .later }
def CstateBitsCardSaid : Prop := Claim7.holds Tryd.pinned (.plain (OpenSpec.ofChange cstateBitsSpec)) cstateBitsCard

/-- THE TIED CARD OF 'metronomelaw04.CstateSteps'. -/
def cstateStepsCard : Claim7 := { stood := { row := cstateStepsRow, standIns := [], harness := (true, "7e498b729d4f373840e91088d94a3c3705540efdcc4cc7bedd172b9919b77cbb"), looks := false }, kinds := [], alts := [], laidByText := true, laidKinds := [.data], laidTests := true, laidLooks := .later }
def CstateStepsCardSaid : Prop := Claim7.holds Tryd.pinned (.plain (OpenSpec.ofChange cstateStepsSpec)) cstateStepsCard

/-- THE TIED CARD OF 'metronomelaw04.CstateBack'. -/
def cstateBackCard : Claim7 := { stood := { row := cstateBackRow, standIns := [], harness := (true, "7e498b729d4f373840e91088d94a3c3705540efdcc4cc7bedd172b9919b77cbb"), looks := false }, kinds := [], alts := [], laidByText := true, laidKinds := [.data], laidTests := true, laidLooks := .later }
def CstateBackCardSaid : Prop := Claim7.holds Tryd.pinned (.plain (OpenSpec.ofChange cstateBackSpec)) cstateBackCard

/-- THE TIED CARD OF 'metronomelaw04.CstateRound'. -/
def cstateRoundCard : Claim7 := { stood := { row := cstateRoundRow, standIns := [], harness := (true, "7e498b729d4f373840e91088d94a3c3705540efdcc4cc7bedd172b9919b77cbb"), looks := false }, kinds := [], alts := [], laidByText := true, laidKinds := [.data], laidTests := true, laidLooks := .later }
def CstateRoundCardSaid : Prop := Claim7.holds Tryd.pinned (.plain (OpenSpec.ofChange cstateRoundSpec)) cstateRoundCard

/-- THE SECOND FORM's CARD OF 'metronomelaw04.CstateBits'. -/
def cstateBitsUptoCard : Claim7 := { stood := { row := cstateBitsUptoRow, standIns := [], harness := (true, "7e498b729d4f373840e91088d94a3c3705540efdcc4cc7bedd172b9919b77cbb"), looks := false }, kinds := [], alts := [], laidByText := true, laidKinds := [.data], laidTests := true, laidLooks := .later }
def CstateBitsUptoCardSaid : Prop := Claim7.holds Tryd.pinned (.plain (OpenSpec.upto cstateBitsSpec)) cstateBitsUptoCard

/-- THE SECOND FORM's CARD OF 'metronomelaw04.CstateSteps'. -/
def cstateStepsUptoCard : Claim7 := { stood := { row := cstateStepsUptoRow, standIns := [], harness := (true, "7e498b729d4f373840e91088d94a3c3705540efdcc4cc7bedd172b9919b77cbb"), looks := false }, kinds := [], alts := [], laidByText := true, laidKinds := [.data], laidTests := true, laidLooks := .later }
def CstateStepsUptoCardSaid : Prop := Claim7.holds Tryd.pinned (.plain (OpenSpec.upto cstateStepsSpec)) cstateStepsUptoCard

/-- THE SECOND FORM's CARD OF 'metronomelaw04.CstateBack'. -/
def cstateBackUptoCard : Claim7 := { stood := { row := cstateBackUptoRow, standIns := [], harness := (true, "7e498b729d4f373840e91088d94a3c3705540efdcc4cc7bedd172b9919b77cbb"), looks := false }, kinds := [], alts := [], laidByText := true, laidKinds := [.data], laidTests := true, laidLooks := .later }
def CstateBackUptoCardSaid : Prop := Claim7.holds Tryd.pinned (.plain (OpenSpec.upto cstateBackSpec)) cstateBackUptoCard

/-- THE SECOND FORM's CARD OF 'metronomelaw04.CstateRound'. -/
def cstateRoundUptoCard : Claim7 := { stood := { row := cstateRoundUptoRow, standIns := [], harness := (true, "7e498b729d4f373840e91088d94a3c3705540efdcc4cc7bedd172b9919b77cbb"), looks := false }, kinds := [], alts := [], laidByText := true, laidKinds := [.data], laidTests := true, laidLooks := .later }
def CstateRoundUptoCardSaid : Prop := Claim7.holds Tryd.pinned (.plain (OpenSpec.upto cstateRoundSpec)) cstateRoundUptoCard
end Rows
end Go.Proofs.YteigekhfamapmaaDoor
