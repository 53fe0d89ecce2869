/-
  NARROWER THAN 'FOR EVERY INPUT', by the rows' own cells (each row's printed sentence says how): FrameBits: laid · FrameReads: laid · FrameBack: laid · FrameAgree: laid · FrameBurst: laid.
  DERIVED. THE GIVEN ROWS OF THIS SEAT. 5 by the template 'for every input the law returns true; each argument reads behind the call as it read before'; 0 by the template 'total and deterministic' (their statements: YtcfbeelljhjnoaaDoorTotals.lean).
  GIVEN WITH THE SEED: the statements are not yours to turn. If you find one false, say at which input.
  Laid BY PROGRAM, IN A SANDBOX (cutbox-rows.mjs): the forced cells as the released guide's own fill.sh prints them over the translation c2efecd2fa591d39… (all of the seat's roots in one cut). By AI agents, Wed Nov 11 2026. No macro, syntax, notation, axiom, sorry.
-/
import Derived.Test.YtcfbeelljhjnoaaDoorChecked
import GoSem.Claim
import GoSem.ClaimJoined
import GoSem.ClaimMapViews
import Derived.JoinedTies
import Derived.KernelRfl
namespace Go.Proofs.YtcfbeelljhjnoaaDoor
/- THE CELL 'sum', in the pinned program and in every row, IS THE sha256 OF THE DUMP (.gsa) THAT YtcfbeelljhjnoaaDoorProg.lean LOADS. Nothing in Lean hashes anything: it is a label: what it is worth is what the hold of that sum in a sandbox is worth. -/
noncomputable def Tryd.pinned : Pinned := { name := "ytcfbeelljhjnoaadoor", sum := "c2efecd2fa591d392178bab50092ec8aa02bcfc0f1c23cc0d830d31e1aa4c84b", checked := Tryd.checked }
namespace Rows
def none {H : Type} : Left H := { results := [], args := [] }

/- WHAT THE LISTED PACKAGE-LEVEL VARIABLES READ AS WHEN THE CALL BEGINS. Each datum BY PROGRAM (the guide's laid-datum.mjs) off the statement by which the dump's own 'gosem.cut.vars' lays the variable. In a bare row this is a premise. The card (YtcfbeelljhjnoaaDoorCards.lean) ties it to the program's text. -/
def laid_metronome_crc_table {H : Type} : DataW H := .agg [.lit (.int .u32 0), .lit (.int .u32 6122955), .lit (.int .u32 12245910), .lit (.int .u32 15185501), .lit (.int .u32 2677479), .lit (.int .u32 7714604), .lit (.int .u32 9568625), .lit (.int .u32 13593786), .lit (.int .u32 5354958), .lit (.int .u32 841733), .lit (.int .u32 15429208), .lit (.int .u32 11928467), .lit (.int .u32 7958313), .lit (.int .u32 2360034), .lit (.int .u32 12825791), .lit (.int .u32 10410356)]
def laid_metronome_cstate_widths {H : Type} : DataW H := .agg [.lit (.int .i64 8), .lit (.int .i64 3), .lit (.int .i64 2), .lit (.int .i64 3), .lit (.int .i64 8)]

/-- 'metronomelaw05.FrameBits': WHATEVER THE INPUT: true; the input reads as it did. -/
def frameBitsSpec : ChangeSpec := { name := "frameBits", fn := fun _ => fun
  | [d1, d2, d3, d4] => { results := [.lit (.bool true)], args := [d1, d2, d3, d4] }
  | _ => none }
def frameBitsRow : OpenClaim := { program := "ytcfbeelljhjnoaadoor", sum := "c2efecd2fa591d392178bab50092ec8aa02bcfc0f1c23cc0d830d31e1aa4c84b", func := "metronome/metronomelaw05.FrameBits", spec := "frameBits", unfollowed := true, recurses := true, named := ["metronome/cstate.widths", "metronome/crc.table"], apart := false, laid := [("metronome/crc.table", laid_metronome_crc_table), ("metronome/cstate.widths", laid_metronome_cstate_widths)] }
def FrameBitsSaid : Prop := frameBitsRow.holds Tryd.pinned (OpenSpec.ofChange frameBitsSpec)

/-- ITS FALSE NEIGHBOUR: 'it returns false'. Refute it at one input. -/
def frameBitsWrong : ChangeSpec := { name := "frameBits", fn := fun _ => fun
  | [d1, d2, d3, d4] => { results := [.lit (.bool false)], args := [d1, d2, d3, d4] }
  | _ => none }
def FrameBitsWrongFalsely : Prop := frameBitsRow.holds Tryd.pinned (OpenSpec.ofChange frameBitsWrong)

/-- 'metronomelaw05.FrameReads': WHATEVER THE INPUT: true; the input reads as it did. -/
def frameReadsSpec : ChangeSpec := { name := "frameReads", fn := fun _ => fun
  | [d1, d2] => { results := [.lit (.bool true)], args := [d1, d2] }
  | _ => none }
def frameReadsRow : OpenClaim := { program := "ytcfbeelljhjnoaadoor", sum := "c2efecd2fa591d392178bab50092ec8aa02bcfc0f1c23cc0d830d31e1aa4c84b", func := "metronome/metronomelaw05.FrameReads", spec := "frameReads", unfollowed := true, recurses := true, named := ["metronome/cstate.widths", "metronome/crc.table"], apart := false, laid := [("metronome/crc.table", laid_metronome_crc_table), ("metronome/cstate.widths", laid_metronome_cstate_widths)] }
def FrameReadsSaid : Prop := frameReadsRow.holds Tryd.pinned (OpenSpec.ofChange frameReadsSpec)

/-- ITS FALSE NEIGHBOUR: 'it returns false'. Refute it at one input. -/
def frameReadsWrong : ChangeSpec := { name := "frameReads", fn := fun _ => fun
  | [d1, d2] => { results := [.lit (.bool false)], args := [d1, d2] }
  | _ => none }
def FrameReadsWrongFalsely : Prop := frameReadsRow.holds Tryd.pinned (OpenSpec.ofChange frameReadsWrong)

/-- 'metronomelaw05.FrameBack': WHATEVER THE INPUT: true; the input reads as it did. -/
def frameBackSpec : ChangeSpec := { name := "frameBack", fn := fun _ => fun
  | [d1, d2, d3] => { results := [.lit (.bool true)], args := [d1, d2, d3] }
  | _ => none }
def frameBackRow : OpenClaim := { program := "ytcfbeelljhjnoaadoor", sum := "c2efecd2fa591d392178bab50092ec8aa02bcfc0f1c23cc0d830d31e1aa4c84b", func := "metronome/metronomelaw05.FrameBack", spec := "frameBack", unfollowed := true, recurses := true, named := ["metronome/cstate.widths", "metronome/crc.table"], apart := false, laid := [("metronome/crc.table", laid_metronome_crc_table), ("metronome/cstate.widths", laid_metronome_cstate_widths)] }
def FrameBackSaid : Prop := frameBackRow.holds Tryd.pinned (OpenSpec.ofChange frameBackSpec)

/-- ITS FALSE NEIGHBOUR: 'it returns false'. Refute it at one input. -/
def frameBackWrong : ChangeSpec := { name := "frameBack", fn := fun _ => fun
  | [d1, d2, d3] => { results := [.lit (.bool false)], args := [d1, d2, d3] }
  | _ => none }
def FrameBackWrongFalsely : Prop := frameBackRow.holds Tryd.pinned (OpenSpec.ofChange frameBackWrong)

/-- 'metronomelaw05.FrameAgree': WHATEVER THE INPUT: true; the input reads as it did. -/
def frameAgreeSpec : ChangeSpec := { name := "frameAgree", fn := fun _ => fun
  | [d1, d2] => { results := [.lit (.bool true)], args := [d1, d2] }
  | _ => none }
def frameAgreeRow : OpenClaim := { program := "ytcfbeelljhjnoaadoor", sum := "c2efecd2fa591d392178bab50092ec8aa02bcfc0f1c23cc0d830d31e1aa4c84b", func := "metronome/metronomelaw05.FrameAgree", spec := "frameAgree", unfollowed := true, recurses := true, named := ["metronome/cstate.widths", "metronome/crc.table"], apart := false, laid := [("metronome/crc.table", laid_metronome_crc_table), ("metronome/cstate.widths", laid_metronome_cstate_widths)] }
def FrameAgreeSaid : Prop := frameAgreeRow.holds Tryd.pinned (OpenSpec.ofChange frameAgreeSpec)

/-- ITS FALSE NEIGHBOUR: 'it returns false'. Refute it at one input. -/
def frameAgreeWrong : ChangeSpec := { name := "frameAgree", fn := fun _ => fun
  | [d1, d2] => { results := [.lit (.bool false)], args := [d1, d2] }
  | _ => none }
def FrameAgreeWrongFalsely : Prop := frameAgreeRow.holds Tryd.pinned (OpenSpec.ofChange frameAgreeWrong)

/-- 'metronomelaw05.FrameBurst': WHATEVER THE INPUT: true; the input reads as it did. -/
def frameBurstSpec : ChangeSpec := { name := "frameBurst", fn := fun _ => fun
  | [d1, d2, d3] => { results := [.lit (.bool true)], args := [d1, d2, d3] }
  | _ => none }
def frameBurstRow : OpenClaim := { program := "ytcfbeelljhjnoaadoor", sum := "c2efecd2fa591d392178bab50092ec8aa02bcfc0f1c23cc0d830d31e1aa4c84b", func := "metronome/metronomelaw05.FrameBurst", spec := "frameBurst", unfollowed := true, recurses := true, named := ["metronome/cstate.widths", "metronome/crc.table"], apart := false, laid := [("metronome/crc.table", laid_metronome_crc_table), ("metronome/cstate.widths", laid_metronome_cstate_widths)] }
def FrameBurstSaid : Prop := frameBurstRow.holds Tryd.pinned (OpenSpec.ofChange frameBurstSpec)

/-- ITS FALSE NEIGHBOUR: 'it returns false'. Refute it at one input. -/
def frameBurstWrong : ChangeSpec := { name := "frameBurst", fn := fun _ => fun
  | [d1, d2, d3] => { results := [.lit (.bool false)], args := [d1, d2, d3] }
  | _ => none }
def FrameBurstWrongFalsely : Prop := frameBurstRow.holds Tryd.pinned (OpenSpec.ofChange frameBurstWrong)

/- THE SECOND FORM. 'bulk': how many values and letters a reading holds, each counted each time it is reached (what is shared counts as often as it is met; a slice's spare places count too). A statement '..UptoSaid' is the law's where the arguments, and the package variables that the reading takes, are together of bulk at most 1048576: NARROWER than '..Said'. Prove '..Said' where nothing that the law and all that it calls make is longer than what came in: it says more and counts as full. Else prove '..UptoSaid'. A law counts once. -/
mutual
def uptoBulk {H : Type} : DataW H → Nat
  | .lit (.string bytes) => bytes.length + 1
  | .lit _ => 1
  | .nil => 1
  | .ptr d => uptoBulk d + 1
  | .slice elems spare => uptoBulkAll elems + uptoBulkAll spare + 1
  | .agg parts => uptoBulkAll parts + 1
  | .iface _ d => uptoBulk d + 1
  | .map entries => uptoBulkEntries entries + 1
  | .held _ => 1
def uptoBulkAll {H : Type} : List (DataW H) → Nat
  | [] => 0
  | d :: r => uptoBulk d + uptoBulkAll r
def uptoBulkEntries {H : Type} : List (Lit × DataW H) → Nat
  | [] => 0
  | x :: r => uptoBulkEntry x + uptoBulkEntries r
def uptoBulkEntry {H : Type} : Lit × DataW H → Nat
  | (.string bytes, d) => bytes.length + uptoBulk d + 1
  | (_, d) => uptoBulk d + 1
 end
def uptoSmall : (H : Type) → List (DataW H) → Bool := fun _ ds => decide (uptoBulkAll ds ≤ 1048576)
def OpenSpec.upto (s : _root_.Go.ChangeSpec) : _root_.Go.OpenSpec := { _root_.Go.OpenSpec.ofChange s with cond := some uptoSmall }

/-- 'metronomelaw05.FrameBits', WHERE WHAT IT READS IS OF BULK AT MOST 1048576: true; the input reads as it did. -/
def frameBitsUptoRow : OpenClaim := { program := "ytcfbeelljhjnoaadoor", sum := "c2efecd2fa591d392178bab50092ec8aa02bcfc0f1c23cc0d830d31e1aa4c84b", func := "metronome/metronomelaw05.FrameBits", spec := "frameBits", unfollowed := true, recurses := true, named := ["metronome/cstate.widths", "metronome/crc.table"], apart := false, laid := [("metronome/crc.table", laid_metronome_crc_table), ("metronome/cstate.widths", laid_metronome_cstate_widths)], narrowed := true }
def FrameBitsUptoSaid : Prop := frameBitsUptoRow.holds Tryd.pinned (OpenSpec.upto frameBitsSpec)

/-- 'metronomelaw05.FrameReads', WHERE WHAT IT READS IS OF BULK AT MOST 1048576: true; the input reads as it did. -/
def frameReadsUptoRow : OpenClaim := { program := "ytcfbeelljhjnoaadoor", sum := "c2efecd2fa591d392178bab50092ec8aa02bcfc0f1c23cc0d830d31e1aa4c84b", func := "metronome/metronomelaw05.FrameReads", spec := "frameReads", unfollowed := true, recurses := true, named := ["metronome/cstate.widths", "metronome/crc.table"], apart := false, laid := [("metronome/crc.table", laid_metronome_crc_table), ("metronome/cstate.widths", laid_metronome_cstate_widths)], narrowed := true }
def FrameReadsUptoSaid : Prop := frameReadsUptoRow.holds Tryd.pinned (OpenSpec.upto frameReadsSpec)

/-- 'metronomelaw05.FrameBack', WHERE WHAT IT READS IS OF BULK AT MOST 1048576: true; the input reads as it did. -/
def frameBackUptoRow : OpenClaim := { program := "ytcfbeelljhjnoaadoor", sum := "c2efecd2fa591d392178bab50092ec8aa02bcfc0f1c23cc0d830d31e1aa4c84b", func := "metronome/metronomelaw05.FrameBack", spec := "frameBack", unfollowed := true, recurses := true, named := ["metronome/cstate.widths", "metronome/crc.table"], apart := false, laid := [("metronome/crc.table", laid_metronome_crc_table), ("metronome/cstate.widths", laid_metronome_cstate_widths)], narrowed := true }
def FrameBackUptoSaid : Prop := frameBackUptoRow.holds Tryd.pinned (OpenSpec.upto frameBackSpec)

/-- 'metronomelaw05.FrameAgree', WHERE WHAT IT READS IS OF BULK AT MOST 1048576: true; the input reads as it did. -/
def frameAgreeUptoRow : OpenClaim := { program := "ytcfbeelljhjnoaadoor", sum := "c2efecd2fa591d392178bab50092ec8aa02bcfc0f1c23cc0d830d31e1aa4c84b", func := "metronome/metronomelaw05.FrameAgree", spec := "frameAgree", unfollowed := true, recurses := true, named := ["metronome/cstate.widths", "metronome/crc.table"], apart := false, laid := [("metronome/crc.table", laid_metronome_crc_table), ("metronome/cstate.widths", laid_metronome_cstate_widths)], narrowed := true }
def FrameAgreeUptoSaid : Prop := frameAgreeUptoRow.holds Tryd.pinned (OpenSpec.upto frameAgreeSpec)

/-- 'metronomelaw05.FrameBurst', WHERE WHAT IT READS IS OF BULK AT MOST 1048576: true; the input reads as it did. -/
def frameBurstUptoRow : OpenClaim := { program := "ytcfbeelljhjnoaadoor", sum := "c2efecd2fa591d392178bab50092ec8aa02bcfc0f1c23cc0d830d31e1aa4c84b", func := "metronome/metronomelaw05.FrameBurst", spec := "frameBurst", unfollowed := true, recurses := true, named := ["metronome/cstate.widths", "metronome/crc.table"], apart := false, laid := [("metronome/crc.table", laid_metronome_crc_table), ("metronome/cstate.widths", laid_metronome_cstate_widths)], narrowed := true }
def FrameBurstUptoSaid : Prop := frameBurstUptoRow.holds Tryd.pinned (OpenSpec.upto frameBurstSpec)

end Rows
end Go.Proofs.YtcfbeelljhjnoaaDoor
