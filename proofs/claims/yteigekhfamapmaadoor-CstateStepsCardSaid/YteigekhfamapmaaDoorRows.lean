/-
  NARROWER THAN 'FOR EVERY INPUT', by the rows' own cells (each row's printed sentence says how): CstateBits: laid · CstateSteps: laid · CstateBack: laid · CstateRound: laid.
  DERIVED. THE GIVEN ROWS OF THIS SEAT. 4 by the template 'for every input the law returns true; each argument reads behind the call as it read before'; 0 by the template 'total and deterministic' (their statements: YteigekhfamapmaaDoorTotals.lean).
  GIVEN WITH THE SEED: the statements are not yours to turn. If you find one false, say at which input.
  Laid BY PROGRAM, IN A SANDBOX (cutbox-rows.mjs): the forced cells as the released guide's own fill.sh prints them over the translation ffdbe1b7757abb10… (all of the seat's roots in one cut). By AI agents, Wed Nov 11 2026. No macro, syntax, notation, axiom, sorry.
-/
import Derived.Test.YteigekhfamapmaaDoorChecked
import GoSem.Claim
import GoSem.ClaimJoined
import GoSem.ClaimMapViews
import Derived.JoinedTies
import Derived.KernelRfl
namespace Go.Proofs.YteigekhfamapmaaDoor
/- THE CELL 'sum', in the pinned program and in every row, IS THE sha256 OF THE DUMP (.gsa) THAT YteigekhfamapmaaDoorProg.lean LOADS. Nothing in Lean hashes anything: it is a label: what it is worth is what the hold of that sum in a sandbox is worth. -/
noncomputable def Tryd.pinned : Pinned := { name := "yteigekhfamapmaadoor", sum := "ffdbe1b7757abb10c83c23fba8ffa217fb04ef7b37e7148df13ec999239ee5f9", checked := Tryd.checked }
namespace Rows
def none {H : Type} : Left H := { results := [], args := [] }

/- WHAT THE LISTED PACKAGE-LEVEL VARIABLES READ AS WHEN THE CALL BEGINS. Each datum BY PROGRAM (the guide's laid-datum.mjs) off the statement by which the dump's own 'gosem.cut.vars' lays the variable. In a bare row this is a premise. The card (YteigekhfamapmaaDoorCards.lean) ties it to the program's text. -/
def laid_metronome_cstate_widths {H : Type} : DataW H := .agg [.lit (.int .i64 8), .lit (.int .i64 3), .lit (.int .i64 2), .lit (.int .i64 3), .lit (.int .i64 8)]

/-- 'metronomelaw04.CstateBits': WHATEVER THE INPUT: true; the input reads as it did. -/
def cstateBitsSpec : ChangeSpec := { name := "cstateBits", fn := fun _ => fun
  | [d1, d2, d3] => { results := [.lit (.bool true)], args := [d1, d2, d3] }
  | _ => none }
def cstateBitsRow : OpenClaim := { program := "yteigekhfamapmaadoor", sum := "ffdbe1b7757abb10c83c23fba8ffa217fb04ef7b37e7148df13ec999239ee5f9", func := "metronome/metronomelaw04.CstateBits", spec := "cstateBits", named := ["metronome/cstate.widths"], apart := false, laid := [("metronome/cstate.widths", laid_metronome_cstate_widths)] }
def CstateBitsSaid : Prop := cstateBitsRow.holds Tryd.pinned (OpenSpec.ofChange cstateBitsSpec)

/-- ITS FALSE NEIGHBOUR: 'it returns false'. Refute it at one input. -/
def cstateBitsWrong : ChangeSpec := { name := "cstateBits", fn := fun _ => fun
  | [d1, d2, d3] => { results := [.lit (.bool false)], args := [d1, d2, d3] }
  | _ => none }
def CstateBitsWrongFalsely : Prop := cstateBitsRow.holds Tryd.pinned (OpenSpec.ofChange cstateBitsWrong)

/-- 'metronomelaw04.CstateSteps': WHATEVER THE INPUT: true; the input reads as it did. -/
def cstateStepsSpec : ChangeSpec := { name := "cstateSteps", fn := fun _ => fun
  | [d1, d2, d3, d4, d5] => { results := [.lit (.bool true)], args := [d1, d2, d3, d4, d5] }
  | _ => none }
def cstateStepsRow : OpenClaim := { program := "yteigekhfamapmaadoor", sum := "ffdbe1b7757abb10c83c23fba8ffa217fb04ef7b37e7148df13ec999239ee5f9", func := "metronome/metronomelaw04.CstateSteps", spec := "cstateSteps", unfollowed := true, recurses := true, named := ["metronome/cstate.widths"], apart := false, laid := [("metronome/cstate.widths", laid_metronome_cstate_widths)] }
def CstateStepsSaid : Prop := cstateStepsRow.holds Tryd.pinned (OpenSpec.ofChange cstateStepsSpec)

/-- ITS FALSE NEIGHBOUR: 'it returns false'. Refute it at one input. -/
def cstateStepsWrong : ChangeSpec := { name := "cstateSteps", fn := fun _ => fun
  | [d1, d2, d3, d4, d5] => { results := [.lit (.bool false)], args := [d1, d2, d3, d4, d5] }
  | _ => none }
def CstateStepsWrongFalsely : Prop := cstateStepsRow.holds Tryd.pinned (OpenSpec.ofChange cstateStepsWrong)

/-- 'metronomelaw04.CstateBack': WHATEVER THE INPUT: true; the input reads as it did. -/
def cstateBackSpec : ChangeSpec := { name := "cstateBack", fn := fun _ => fun
  | [d1, d2, d3] => { results := [.lit (.bool true)], args := [d1, d2, d3] }
  | _ => none }
def cstateBackRow : OpenClaim := { program := "yteigekhfamapmaadoor", sum := "ffdbe1b7757abb10c83c23fba8ffa217fb04ef7b37e7148df13ec999239ee5f9", func := "metronome/metronomelaw04.CstateBack", spec := "cstateBack", named := ["metronome/cstate.widths"], apart := false, laid := [("metronome/cstate.widths", laid_metronome_cstate_widths)] }
def CstateBackSaid : Prop := cstateBackRow.holds Tryd.pinned (OpenSpec.ofChange cstateBackSpec)

/-- ITS FALSE NEIGHBOUR: 'it returns false'. Refute it at one input. -/
def cstateBackWrong : ChangeSpec := { name := "cstateBack", fn := fun _ => fun
  | [d1, d2, d3] => { results := [.lit (.bool false)], args := [d1, d2, d3] }
  | _ => none }
def CstateBackWrongFalsely : Prop := cstateBackRow.holds Tryd.pinned (OpenSpec.ofChange cstateBackWrong)

/-- 'metronomelaw04.CstateRound': WHATEVER THE INPUT: true; the input reads as it did. -/
def cstateRoundSpec : ChangeSpec := { name := "cstateRound", fn := fun _ => fun
  | [d1, d2, d3] => { results := [.lit (.bool true)], args := [d1, d2, d3] }
  | _ => none }
def cstateRoundRow : OpenClaim := { program := "yteigekhfamapmaadoor", sum := "ffdbe1b7757abb10c83c23fba8ffa217fb04ef7b37e7148df13ec999239ee5f9", func := "metronome/metronomelaw04.CstateRound", spec := "cstateRound", named := ["metronome/cstate.widths"], apart := false, laid := [("metronome/cstate.widths", laid_metronome_cstate_widths)] }
def CstateRoundSaid : Prop := cstateRoundRow.holds Tryd.pinned (OpenSpec.ofChange cstateRoundSpec)

/-- ITS FALSE NEIGHBOUR: 'it returns false'. Refute it at one input. -/
def cstateRoundWrong : ChangeSpec := { name := "cstateRound", fn := fun _ => fun
  | [d1, d2, d3] => { results := [.lit (.bool false)], args := [d1, d2, d3] }
  | _ => none }
def CstateRoundWrongFalsely : Prop := cstateRoundRow.holds Tryd.pinned (OpenSpec.ofChange cstateRoundWrong)

/- THE SECOND FORM. 'bulk': how many values and letters a reading holds, each counted each time it is reached (what is shared counts as often as it is met; a slice's spare places count too). A statement '..UptoSaid' is the law's where the arguments, and the package variables that the reading takes, are together of bulk at most 1048576: NARROWER than '..Said'. Prove '..Said' where nothing that the law and all that it calls make is longer than what came in: it says more and counts as full. Else prove '..UptoSaid'. A law counts once. -/
mutual
def uptoBulk {H : Type} : DataW H → Nat
  | .lit (.string bytes) => bytes.length + 1
  | .lit _ => 1
  | .nil => 1
  | .ptr d => uptoBulk d + 1
  | .slice elems spare => uptoBulkAll elems + uptoBulkAll spare + 1
  | .agg parts => uptoBulkAll parts + 1
  | .iface _ d => uptoBulk d + 1
  | .map entries => uptoBulkEntries entries + 1
  | .held _ => 1
def uptoBulkAll {H : Type} : List (DataW H) → Nat
  | [] => 0
  | d :: r => uptoBulk d + uptoBulkAll r
def uptoBulkEntries {H : Type} : List (Lit × DataW H) → Nat
  | [] => 0
  | x :: r => uptoBulkEntry x + uptoBulkEntries r
def uptoBulkEntry {H : Type} : Lit × DataW H → Nat
  | (.string bytes, d) => bytes.length + uptoBulk d + 1
  | (_, d) => uptoBulk d + 1
 end
def uptoSmall : (H : Type) → List (DataW H) → Bool := fun _ ds => decide (uptoBulkAll ds ≤ 1048576)
def OpenSpec.upto (s : _root_.Go.ChangeSpec) : _root_.Go.OpenSpec := { _root_.Go.OpenSpec.ofChange s with cond := some uptoSmall }

/-- 'metronomelaw04.CstateBits', WHERE WHAT IT READS IS OF BULK AT MOST 1048576: true; the input reads as it did. -/
def cstateBitsUptoRow : OpenClaim := { program := "yteigekhfamapmaadoor", sum := "ffdbe1b7757abb10c83c23fba8ffa217fb04ef7b37e7148df13ec999239ee5f9", func := "metronome/metronomelaw04.CstateBits", spec := "cstateBits", named := ["metronome/cstate.widths"], apart := false, laid := [("metronome/cstate.widths", laid_metronome_cstate_widths)], narrowed := true }
def CstateBitsUptoSaid : Prop := cstateBitsUptoRow.holds Tryd.pinned (OpenSpec.upto cstateBitsSpec)

/-- 'metronomelaw04.CstateSteps', WHERE WHAT IT READS IS OF BULK AT MOST 1048576: true; the input reads as it did. -/
def cstateStepsUptoRow : OpenClaim := { program := "yteigekhfamapmaadoor", sum := "ffdbe1b7757abb10c83c23fba8ffa217fb04ef7b37e7148df13ec999239ee5f9", func := "metronome/metronomelaw04.CstateSteps", spec := "cstateSteps", unfollowed := true, recurses := true, named := ["metronome/cstate.widths"], apart := false, laid := [("metronome/cstate.widths", laid_metronome_cstate_widths)], narrowed := true }
def CstateStepsUptoSaid : Prop := cstateStepsUptoRow.holds Tryd.pinned (OpenSpec.upto cstateStepsSpec)

/-- 'metronomelaw04.CstateBack', WHERE WHAT IT READS IS OF BULK AT MOST 1048576: true; the input reads as it did. -/
def cstateBackUptoRow : OpenClaim := { program := "yteigekhfamapmaadoor", sum := "ffdbe1b7757abb10c83c23fba8ffa217fb04ef7b37e7148df13ec999239ee5f9", func := "metronome/metronomelaw04.CstateBack", spec := "cstateBack", named := ["metronome/cstate.widths"], apart := false, laid := [("metronome/cstate.widths", laid_metronome_cstate_widths)], narrowed := true }
def CstateBackUptoSaid : Prop := cstateBackUptoRow.holds Tryd.pinned (OpenSpec.upto cstateBackSpec)

/-- 'metronomelaw04.CstateRound', WHERE WHAT IT READS IS OF BULK AT MOST 1048576: true; the input reads as it did. -/
def cstateRoundUptoRow : OpenClaim := { program := "yteigekhfamapmaadoor", sum := "ffdbe1b7757abb10c83c23fba8ffa217fb04ef7b37e7148df13ec999239ee5f9", func := "metronome/metronomelaw04.CstateRound", spec := "cstateRound", named := ["metronome/cstate.widths"], apart := false, laid := [("metronome/cstate.widths", laid_metronome_cstate_widths)], narrowed := true }
def CstateRoundUptoSaid : Prop := cstateRoundUptoRow.holds Tryd.pinned (OpenSpec.upto cstateRoundSpec)

end Rows
end Go.Proofs.YteigekhfamapmaaDoor
