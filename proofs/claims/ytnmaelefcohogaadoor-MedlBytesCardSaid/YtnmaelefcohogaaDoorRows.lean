/-
  NARROWER THAN 'FOR EVERY INPUT', by the rows' own cells (each row's printed sentence says how): MedlBytes: laid · MedlBack: laid.
  DERIVED. THE GIVEN ROWS OF THIS SEAT. 2 by the template 'for every input the law returns true; each argument reads behind the call as it read before'; 0 by the template 'total and deterministic' (their statements: YtnmaelefcohogaaDoorTotals.lean).
  GIVEN WITH THE SEED: the statements are not yours to turn. If you find one false, say at which input.
  Laid BY PROGRAM, IN A SANDBOX (cutbox-rows.mjs): the forced cells as the released guide's own fill.sh prints them over the translation ba0c9a02618f2413… (all of the seat's roots in one cut). By AI agents, Wed Nov 11 2026. No macro, syntax, notation, axiom, sorry.
-/
import Derived.Test.YtnmaelefcohogaaDoorChecked
import GoSem.Claim
import GoSem.ClaimJoined
import GoSem.ClaimMapViews
import Derived.JoinedTies
import Derived.KernelRfl
namespace Go.Proofs.YtnmaelefcohogaaDoor
/- THE CELL 'sum', in the pinned program and in every row, IS THE sha256 OF THE DUMP (.gsa) THAT YtnmaelefcohogaaDoorProg.lean LOADS. Nothing in Lean hashes anything: it is a label: what it is worth is what the hold of that sum in a sandbox is worth. -/
noncomputable def Tryd.pinned : Pinned := { name := "ytnmaelefcohogaadoor", sum := "ba0c9a02618f2413e982baed423c88b696ceae4f43b47da48e5578945275037c", checked := Tryd.checked }
namespace Rows
def none {H : Type} : Left H := { results := [], args := [] }

/- WHAT THE LISTED PACKAGE-LEVEL VARIABLES READ AS WHEN THE CALL BEGINS. Each datum BY PROGRAM (the guide's laid-datum.mjs) off the statement by which the dump's own 'gosem.cut.vars' lays the variable. In a bare row this is a premise. The card (YtnmaelefcohogaaDoorCards.lean) ties it to the program's text. -/
def laid_metronome_crc_table {H : Type} : DataW H := .agg [.lit (.int .u32 0), .lit (.int .u32 6122955), .lit (.int .u32 12245910), .lit (.int .u32 15185501), .lit (.int .u32 2677479), .lit (.int .u32 7714604), .lit (.int .u32 9568625), .lit (.int .u32 13593786), .lit (.int .u32 5354958), .lit (.int .u32 841733), .lit (.int .u32 15429208), .lit (.int .u32 11928467), .lit (.int .u32 7958313), .lit (.int .u32 2360034), .lit (.int .u32 12825791), .lit (.int .u32 10410356)]

/-- 'metronomelaw07.MedlBytes': WHATEVER THE INPUT: true; the input reads as it did. -/
def medlBytesSpec : ChangeSpec := { name := "medlBytes", fn := fun _ => fun
  | [d1, d2] => { results := [.lit (.bool true)], args := [d1, d2] }
  | _ => none }
def medlBytesRow : OpenClaim := { program := "ytnmaelefcohogaadoor", sum := "ba0c9a02618f2413e982baed423c88b696ceae4f43b47da48e5578945275037c", func := "metronome/metronomelaw07.MedlBytes", spec := "medlBytes", unfollowed := true, recurses := true, named := ["metronome/crc.table"], apart := false, laid := [("metronome/crc.table", laid_metronome_crc_table)] }
def MedlBytesSaid : Prop := medlBytesRow.holds Tryd.pinned (OpenSpec.ofChange medlBytesSpec)

/-- ITS FALSE NEIGHBOUR: 'it returns false'. Refute it at one input. -/
def medlBytesWrong : ChangeSpec := { name := "medlBytes", fn := fun _ => fun
  | [d1, d2] => { results := [.lit (.bool false)], args := [d1, d2] }
  | _ => none }
def MedlBytesWrongFalsely : Prop := medlBytesRow.holds Tryd.pinned (OpenSpec.ofChange medlBytesWrong)

/-- 'metronomelaw07.MedlBack': WHATEVER THE INPUT: true; the input reads as it did. -/
def medlBackSpec : ChangeSpec := { name := "medlBack", fn := fun _ => fun
  | [d1, d2] => { results := [.lit (.bool true)], args := [d1, d2] }
  | _ => none }
def medlBackRow : OpenClaim := { program := "ytnmaelefcohogaadoor", sum := "ba0c9a02618f2413e982baed423c88b696ceae4f43b47da48e5578945275037c", func := "metronome/metronomelaw07.MedlBack", spec := "medlBack", unfollowed := true, recurses := true, named := ["metronome/crc.table"], apart := false, laid := [("metronome/crc.table", laid_metronome_crc_table)] }
def MedlBackSaid : Prop := medlBackRow.holds Tryd.pinned (OpenSpec.ofChange medlBackSpec)

/-- ITS FALSE NEIGHBOUR: 'it returns false'. Refute it at one input. -/
def medlBackWrong : ChangeSpec := { name := "medlBack", fn := fun _ => fun
  | [d1, d2] => { results := [.lit (.bool false)], args := [d1, d2] }
  | _ => none }
def MedlBackWrongFalsely : Prop := medlBackRow.holds Tryd.pinned (OpenSpec.ofChange medlBackWrong)

/- THE SECOND FORM. 'bulk': how many values and letters a reading holds, each counted each time it is reached (what is shared counts as often as it is met; a slice's spare places count too). A statement '..UptoSaid' is the law's where the arguments, and the package variables that the reading takes, are together of bulk at most 1048576: NARROWER than '..Said'. Prove '..Said' where nothing that the law and all that it calls make is longer than what came in: it says more and counts as full. Else prove '..UptoSaid'. A law counts once. -/
mutual
def uptoBulk {H : Type} : DataW H → Nat
  | .lit (.string bytes) => bytes.length + 1
  | .lit _ => 1
  | .nil => 1
  | .ptr d => uptoBulk d + 1
  | .slice elems spare => uptoBulkAll elems + uptoBulkAll spare + 1
  | .agg parts => uptoBulkAll parts + 1
  | .iface _ d => uptoBulk d + 1
  | .map entries => uptoBulkEntries entries + 1
  | .held _ => 1
def uptoBulkAll {H : Type} : List (DataW H) → Nat
  | [] => 0
  | d :: r => uptoBulk d + uptoBulkAll r
def uptoBulkEntries {H : Type} : List (Lit × DataW H) → Nat
  | [] => 0
  | x :: r => uptoBulkEntry x + uptoBulkEntries r
def uptoBulkEntry {H : Type} : Lit × DataW H → Nat
  | (.string bytes, d) => bytes.length + uptoBulk d + 1
  | (_, d) => uptoBulk d + 1
 end
def uptoSmall : (H : Type) → List (DataW H) → Bool := fun _ ds => decide (uptoBulkAll ds ≤ 1048576)
def OpenSpec.upto (s : _root_.Go.ChangeSpec) : _root_.Go.OpenSpec := { _root_.Go.OpenSpec.ofChange s with cond := some uptoSmall }

/-- 'metronomelaw07.MedlBytes', WHERE WHAT IT READS IS OF BULK AT MOST 1048576: true; the input reads as it did. -/
def medlBytesUptoRow : OpenClaim := { program := "ytnmaelefcohogaadoor", sum := "ba0c9a02618f2413e982baed423c88b696ceae4f43b47da48e5578945275037c", func := "metronome/metronomelaw07.MedlBytes", spec := "medlBytes", unfollowed := true, recurses := true, named := ["metronome/crc.table"], apart := false, laid := [("metronome/crc.table", laid_metronome_crc_table)], narrowed := true }
def MedlBytesUptoSaid : Prop := medlBytesUptoRow.holds Tryd.pinned (OpenSpec.upto medlBytesSpec)

/-- 'metronomelaw07.MedlBack', WHERE WHAT IT READS IS OF BULK AT MOST 1048576: true; the input reads as it did. -/
def medlBackUptoRow : OpenClaim := { program := "ytnmaelefcohogaadoor", sum := "ba0c9a02618f2413e982baed423c88b696ceae4f43b47da48e5578945275037c", func := "metronome/metronomelaw07.MedlBack", spec := "medlBack", unfollowed := true, recurses := true, named := ["metronome/crc.table"], apart := false, laid := [("metronome/crc.table", laid_metronome_crc_table)], narrowed := true }
def MedlBackUptoSaid : Prop := medlBackUptoRow.holds Tryd.pinned (OpenSpec.upto medlBackSpec)

end Rows
end Go.Proofs.YtnmaelefcohogaaDoor
