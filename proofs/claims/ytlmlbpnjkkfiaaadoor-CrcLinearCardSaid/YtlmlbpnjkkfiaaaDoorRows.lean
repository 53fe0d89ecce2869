/-
  NARROWER THAN 'FOR EVERY INPUT', by the rows' own cells (each row's printed sentence says how): CrcSums: laid · CrcSeals: laid · CrcBack: laid · CrcBurst: laid · CrcUnsent: laid · CrcLinear: laid.
  DERIVED. THE GIVEN ROWS OF THIS SEAT. 6 by the template 'for every input the law returns true; each argument reads behind the call as it read before'; 0 by the template 'total and deterministic' (their statements: YtlmlbpnjkkfiaaaDoorTotals.lean).
  GIVEN WITH THE SEED: the statements are not yours to turn. If you find one false, say at which input.
  Laid BY PROGRAM, IN A SANDBOX (cutbox-rows.mjs): the forced cells as the released guide's own fill.sh prints them over the translation 75c81b684cb64378… (all of the seat's roots in one cut). By AI agents, Wed Nov 11 2026. No macro, syntax, notation, axiom, sorry.
-/
import Derived.Test.YtlmlbpnjkkfiaaaDoorChecked
import GoSem.Claim
import GoSem.ClaimJoined
import GoSem.ClaimMapViews
import Derived.JoinedTies
import Derived.KernelRfl
namespace Go.Proofs.YtlmlbpnjkkfiaaaDoor
/- THE CELL 'sum', in the pinned program and in every row, IS THE sha256 OF THE DUMP (.gsa) THAT YtlmlbpnjkkfiaaaDoorProg.lean LOADS. Nothing in Lean hashes anything: it is a label: what it is worth is what the hold of that sum in a sandbox is worth. -/
noncomputable def Tryd.pinned : Pinned := { name := "ytlmlbpnjkkfiaaadoor", sum := "75c81b684cb643782eb745647187bbace5197ccad526a323155bda7888594a54", checked := Tryd.checked }
namespace Rows
def none {H : Type} : Left H := { results := [], args := [] }

/- WHAT THE LISTED PACKAGE-LEVEL VARIABLES READ AS WHEN THE CALL BEGINS. Each datum BY PROGRAM (the guide's laid-datum.mjs) off the statement by which the dump's own 'gosem.cut.vars' lays the variable. In a bare row this is a premise. The card (YtlmlbpnjkkfiaaaDoorCards.lean) ties it to the program's text. -/
def laid_metronome_crc_table {H : Type} : DataW H := .agg [.lit (.int .u32 0), .lit (.int .u32 6122955), .lit (.int .u32 12245910), .lit (.int .u32 15185501), .lit (.int .u32 2677479), .lit (.int .u32 7714604), .lit (.int .u32 9568625), .lit (.int .u32 13593786), .lit (.int .u32 5354958), .lit (.int .u32 841733), .lit (.int .u32 15429208), .lit (.int .u32 11928467), .lit (.int .u32 7958313), .lit (.int .u32 2360034), .lit (.int .u32 12825791), .lit (.int .u32 10410356)]

/-- 'metronomelaw02.CrcSums': WHATEVER THE INPUT: true; the input reads as it did. -/
def crcSumsSpec : ChangeSpec := { name := "crcSums", fn := fun _ => fun
  | [d] => { results := [.lit (.bool true)], args := [d] }
  | _ => none }
def crcSumsRow : OpenClaim := { program := "ytlmlbpnjkkfiaaadoor", sum := "75c81b684cb643782eb745647187bbace5197ccad526a323155bda7888594a54", func := "metronome/metronomelaw02.CrcSums", spec := "crcSums", named := ["metronome/crc.table"], apart := false, laid := [("metronome/crc.table", laid_metronome_crc_table)] }
def CrcSumsSaid : Prop := crcSumsRow.holds Tryd.pinned (OpenSpec.ofChange crcSumsSpec)

/-- ITS FALSE NEIGHBOUR: 'it returns false'. Refute it at one input. -/
def crcSumsWrong : ChangeSpec := { name := "crcSums", fn := fun _ => fun
  | [d] => { results := [.lit (.bool false)], args := [d] }
  | _ => none }
def CrcSumsWrongFalsely : Prop := crcSumsRow.holds Tryd.pinned (OpenSpec.ofChange crcSumsWrong)

/-- 'metronomelaw02.CrcSeals': WHATEVER THE INPUT: true; the input reads as it did. -/
def crcSealsSpec : ChangeSpec := { name := "crcSeals", fn := fun _ => fun
  | [d1, d2, d3, d4] => { results := [.lit (.bool true)], args := [d1, d2, d3, d4] }
  | _ => none }
def crcSealsRow : OpenClaim := { program := "ytlmlbpnjkkfiaaadoor", sum := "75c81b684cb643782eb745647187bbace5197ccad526a323155bda7888594a54", func := "metronome/metronomelaw02.CrcSeals", spec := "crcSeals", named := ["metronome/crc.table"], apart := false, laid := [("metronome/crc.table", laid_metronome_crc_table)] }
def CrcSealsSaid : Prop := crcSealsRow.holds Tryd.pinned (OpenSpec.ofChange crcSealsSpec)

/-- ITS FALSE NEIGHBOUR: 'it returns false'. Refute it at one input. -/
def crcSealsWrong : ChangeSpec := { name := "crcSeals", fn := fun _ => fun
  | [d1, d2, d3, d4] => { results := [.lit (.bool false)], args := [d1, d2, d3, d4] }
  | _ => none }
def CrcSealsWrongFalsely : Prop := crcSealsRow.holds Tryd.pinned (OpenSpec.ofChange crcSealsWrong)

/-- 'metronomelaw02.CrcBack': WHATEVER THE INPUT: true; the input reads as it did. -/
def crcBackSpec : ChangeSpec := { name := "crcBack", fn := fun _ => fun
  | [d1, d2] => { results := [.lit (.bool true)], args := [d1, d2] }
  | _ => none }
def crcBackRow : OpenClaim := { program := "ytlmlbpnjkkfiaaadoor", sum := "75c81b684cb643782eb745647187bbace5197ccad526a323155bda7888594a54", func := "metronome/metronomelaw02.CrcBack", spec := "crcBack", named := ["metronome/crc.table"], apart := false, laid := [("metronome/crc.table", laid_metronome_crc_table)] }
def CrcBackSaid : Prop := crcBackRow.holds Tryd.pinned (OpenSpec.ofChange crcBackSpec)

/-- ITS FALSE NEIGHBOUR: 'it returns false'. Refute it at one input. -/
def crcBackWrong : ChangeSpec := { name := "crcBack", fn := fun _ => fun
  | [d1, d2] => { results := [.lit (.bool false)], args := [d1, d2] }
  | _ => none }
def CrcBackWrongFalsely : Prop := crcBackRow.holds Tryd.pinned (OpenSpec.ofChange crcBackWrong)

/-- 'metronomelaw02.CrcBurst': WHATEVER THE INPUT: true; the input reads as it did. -/
def crcBurstSpec : ChangeSpec := { name := "crcBurst", fn := fun _ => fun
  | [d1, d2, d3, d4] => { results := [.lit (.bool true)], args := [d1, d2, d3, d4] }
  | _ => none }
def crcBurstRow : OpenClaim := { program := "ytlmlbpnjkkfiaaadoor", sum := "75c81b684cb643782eb745647187bbace5197ccad526a323155bda7888594a54", func := "metronome/metronomelaw02.CrcBurst", spec := "crcBurst", named := ["metronome/crc.table"], apart := false, laid := [("metronome/crc.table", laid_metronome_crc_table)] }
def CrcBurstSaid : Prop := crcBurstRow.holds Tryd.pinned (OpenSpec.ofChange crcBurstSpec)

/-- ITS FALSE NEIGHBOUR: 'it returns false'. Refute it at one input. -/
def crcBurstWrong : ChangeSpec := { name := "crcBurst", fn := fun _ => fun
  | [d1, d2, d3, d4] => { results := [.lit (.bool false)], args := [d1, d2, d3, d4] }
  | _ => none }
def CrcBurstWrongFalsely : Prop := crcBurstRow.holds Tryd.pinned (OpenSpec.ofChange crcBurstWrong)

/-- 'metronomelaw02.CrcUnsent': WHATEVER THE INPUT: true; the input reads as it did. -/
def crcUnsentSpec : ChangeSpec := { name := "crcUnsent", fn := fun _ => fun
  | [d1, d2, d3, d4] => { results := [.lit (.bool true)], args := [d1, d2, d3, d4] }
  | _ => none }
def crcUnsentRow : OpenClaim := { program := "ytlmlbpnjkkfiaaadoor", sum := "75c81b684cb643782eb745647187bbace5197ccad526a323155bda7888594a54", func := "metronome/metronomelaw02.CrcUnsent", spec := "crcUnsent", named := ["metronome/crc.table"], apart := false, laid := [("metronome/crc.table", laid_metronome_crc_table)] }
def CrcUnsentSaid : Prop := crcUnsentRow.holds Tryd.pinned (OpenSpec.ofChange crcUnsentSpec)

/-- ITS FALSE NEIGHBOUR: 'it returns false'. Refute it at one input. -/
def crcUnsentWrong : ChangeSpec := { name := "crcUnsent", fn := fun _ => fun
  | [d1, d2, d3, d4] => { results := [.lit (.bool false)], args := [d1, d2, d3, d4] }
  | _ => none }
def CrcUnsentWrongFalsely : Prop := crcUnsentRow.holds Tryd.pinned (OpenSpec.ofChange crcUnsentWrong)

/-- 'metronomelaw02.CrcLinear': WHATEVER THE INPUT: true; the input reads as it did. -/
def crcLinearSpec : ChangeSpec := { name := "crcLinear", fn := fun _ => fun
  | [d1, d2] => { results := [.lit (.bool true)], args := [d1, d2] }
  | _ => none }
def crcLinearRow : OpenClaim := { program := "ytlmlbpnjkkfiaaadoor", sum := "75c81b684cb643782eb745647187bbace5197ccad526a323155bda7888594a54", func := "metronome/metronomelaw02.CrcLinear", spec := "crcLinear", named := ["metronome/crc.table"], apart := false, laid := [("metronome/crc.table", laid_metronome_crc_table)] }
def CrcLinearSaid : Prop := crcLinearRow.holds Tryd.pinned (OpenSpec.ofChange crcLinearSpec)

/-- ITS FALSE NEIGHBOUR: 'it returns false'. Refute it at one input. -/
def crcLinearWrong : ChangeSpec := { name := "crcLinear", fn := fun _ => fun
  | [d1, d2] => { results := [.lit (.bool false)], args := [d1, d2] }
  | _ => none }
def CrcLinearWrongFalsely : Prop := crcLinearRow.holds Tryd.pinned (OpenSpec.ofChange crcLinearWrong)

/- THE SECOND FORM. 'bulk': how many values and letters a reading holds, each counted each time it is reached (what is shared counts as often as it is met; a slice's spare places count too). A statement '..UptoSaid' is the law's where the arguments, and the package variables that the reading takes, are together of bulk at most 1048576: NARROWER than '..Said'. Prove '..Said' where nothing that the law and all that it calls make is longer than what came in: it says more and counts as full. Else prove '..UptoSaid'. A law counts once. -/
mutual
def uptoBulk {H : Type} : DataW H → Nat
  | .lit (.string bytes) => bytes.length + 1
  | .lit _ => 1
  | .nil => 1
  | .ptr d => uptoBulk d + 1
  | .slice elems spare => uptoBulkAll elems + uptoBulkAll spare + 1
  | .agg parts => uptoBulkAll parts + 1
  | .iface _ d => uptoBulk d + 1
  | .map entries => uptoBulkEntries entries + 1
  | .held _ => 1
def uptoBulkAll {H : Type} : List (DataW H) → Nat
  | [] => 0
  | d :: r => uptoBulk d + uptoBulkAll r
def uptoBulkEntries {H : Type} : List (Lit × DataW H) → Nat
  | [] => 0
  | x :: r => uptoBulkEntry x + uptoBulkEntries r
def uptoBulkEntry {H : Type} : Lit × DataW H → Nat
  | (.string bytes, d) => bytes.length + uptoBulk d + 1
  | (_, d) => uptoBulk d + 1
 end
def uptoSmall : (H : Type) → List (DataW H) → Bool := fun _ ds => decide (uptoBulkAll ds ≤ 1048576)
def OpenSpec.upto (s : _root_.Go.ChangeSpec) : _root_.Go.OpenSpec := { _root_.Go.OpenSpec.ofChange s with cond := some uptoSmall }

/-- 'metronomelaw02.CrcSums', WHERE WHAT IT READS IS OF BULK AT MOST 1048576: true; the input reads as it did. -/
def crcSumsUptoRow : OpenClaim := { program := "ytlmlbpnjkkfiaaadoor", sum := "75c81b684cb643782eb745647187bbace5197ccad526a323155bda7888594a54", func := "metronome/metronomelaw02.CrcSums", spec := "crcSums", named := ["metronome/crc.table"], apart := false, laid := [("metronome/crc.table", laid_metronome_crc_table)], narrowed := true }
def CrcSumsUptoSaid : Prop := crcSumsUptoRow.holds Tryd.pinned (OpenSpec.upto crcSumsSpec)

/-- 'metronomelaw02.CrcSeals', WHERE WHAT IT READS IS OF BULK AT MOST 1048576: true; the input reads as it did. -/
def crcSealsUptoRow : OpenClaim := { program := "ytlmlbpnjkkfiaaadoor", sum := "75c81b684cb643782eb745647187bbace5197ccad526a323155bda7888594a54", func := "metronome/metronomelaw02.CrcSeals", spec := "crcSeals", named := ["metronome/crc.table"], apart := false, laid := [("metronome/crc.table", laid_metronome_crc_table)], narrowed := true }
def CrcSealsUptoSaid : Prop := crcSealsUptoRow.holds Tryd.pinned (OpenSpec.upto crcSealsSpec)

/-- 'metronomelaw02.CrcBack', WHERE WHAT IT READS IS OF BULK AT MOST 1048576: true; the input reads as it did. -/
def crcBackUptoRow : OpenClaim := { program := "ytlmlbpnjkkfiaaadoor", sum := "75c81b684cb643782eb745647187bbace5197ccad526a323155bda7888594a54", func := "metronome/metronomelaw02.CrcBack", spec := "crcBack", named := ["metronome/crc.table"], apart := false, laid := [("metronome/crc.table", laid_metronome_crc_table)], narrowed := true }
def CrcBackUptoSaid : Prop := crcBackUptoRow.holds Tryd.pinned (OpenSpec.upto crcBackSpec)

/-- 'metronomelaw02.CrcBurst', WHERE WHAT IT READS IS OF BULK AT MOST 1048576: true; the input reads as it did. -/
def crcBurstUptoRow : OpenClaim := { program := "ytlmlbpnjkkfiaaadoor", sum := "75c81b684cb643782eb745647187bbace5197ccad526a323155bda7888594a54", func := "metronome/metronomelaw02.CrcBurst", spec := "crcBurst", named := ["metronome/crc.table"], apart := false, laid := [("metronome/crc.table", laid_metronome_crc_table)], narrowed := true }
def CrcBurstUptoSaid : Prop := crcBurstUptoRow.holds Tryd.pinned (OpenSpec.upto crcBurstSpec)

/-- 'metronomelaw02.CrcUnsent', WHERE WHAT IT READS IS OF BULK AT MOST 1048576: true; the input reads as it did. -/
def crcUnsentUptoRow : OpenClaim := { program := "ytlmlbpnjkkfiaaadoor", sum := "75c81b684cb643782eb745647187bbace5197ccad526a323155bda7888594a54", func := "metronome/metronomelaw02.CrcUnsent", spec := "crcUnsent", named := ["metronome/crc.table"], apart := false, laid := [("metronome/crc.table", laid_metronome_crc_table)], narrowed := true }
def CrcUnsentUptoSaid : Prop := crcUnsentUptoRow.holds Tryd.pinned (OpenSpec.upto crcUnsentSpec)

/-- 'metronomelaw02.CrcLinear', WHERE WHAT IT READS IS OF BULK AT MOST 1048576: true; the input reads as it did. -/
def crcLinearUptoRow : OpenClaim := { program := "ytlmlbpnjkkfiaaadoor", sum := "75c81b684cb643782eb745647187bbace5197ccad526a323155bda7888594a54", func := "metronome/metronomelaw02.CrcLinear", spec := "crcLinear", named := ["metronome/crc.table"], apart := false, laid := [("metronome/crc.table", laid_metronome_crc_table)], narrowed := true }
def CrcLinearUptoSaid : Prop := crcLinearUptoRow.holds Tryd.pinned (OpenSpec.upto crcLinearSpec)

end Rows
end Go.Proofs.YtlmlbpnjkkfiaaaDoor
