/-
  No cell of these rows narrows 'for every input' (looked for: loops, veiled, ifaces, maps, wideKeys, modest, calm, conditions, laid).
  DERIVED. THE GIVEN ROWS OF THIS SEAT. 4 by the template 'for every input the law returns true; each argument reads behind the call as it read before'; 0 by the template 'total and deterministic' (their statements: YtnlmpemfpkmodaaTotals.lean).
  GIVEN WITH THE SEED: the statements are not yours to turn. If you find one false, say at which input.
  Laid BY PROGRAM, IN A SANDBOX (cutbox-rows.mjs): the forced cells as the released guide's own fill.sh prints them over the translation 1b88e1ca24bfbd10… (all of the seat's roots in one cut). By AI agents, Wed Nov 11 2026. No macro, syntax, notation, axiom, sorry.
-/
import Derived.Test.YtnlmpemfpkmodaaChecked
import GoSem.Claim
import GoSem.ClaimJoined
import GoSem.ClaimMapViews
import Derived.JoinedTies
import Derived.KernelRfl
namespace Go.Proofs.Ytnlmpemfpkmodaa
/- THE CELL 'sum', in the pinned program and in every row, IS THE sha256 OF THE DUMP (.gsa) THAT YtnlmpemfpkmodaaProg.lean LOADS. Nothing in Lean hashes anything: it is a label: what it is worth is what the hold of that sum in a sandbox is worth. -/
noncomputable def Try.pinned : Pinned := { name := "ytnlmpemfpkmodaa", sum := "1b88e1ca24bfbd10847a79fc04e9019c268872e6f1af011ab0141903c4a21420", checked := Try.checked }
namespace Rows
def none {H : Type} : Left H := { results := [], args := [] }

/-- 'metronomelaw12.CniHost': WHATEVER THE INPUT: true; the input reads as it did. -/
def cniHostSpec : ChangeSpec := { name := "cniHost", fn := fun _ => fun
  | [d1, d2, d3, d4, d5, d6] => { results := [.lit (.bool true)], args := [d1, d2, d3, d4, d5, d6] }
  | _ => none }
def cniHostRow : OpenClaim := { program := "ytnlmpemfpkmodaa", sum := "1b88e1ca24bfbd10847a79fc04e9019c268872e6f1af011ab0141903c4a21420", func := "metronome/metronomelaw12.CniHost", spec := "cniHost", unfollowed := true, recurses := true, apart := false }
def CniHostSaid : Prop := cniHostRow.holds Try.pinned (OpenSpec.ofChange cniHostSpec)

/-- ITS FALSE NEIGHBOUR: 'it returns false'. Refute it at one input. -/
def cniHostWrong : ChangeSpec := { name := "cniHost", fn := fun _ => fun
  | [d1, d2, d3, d4, d5, d6] => { results := [.lit (.bool false)], args := [d1, d2, d3, d4, d5, d6] }
  | _ => none }
def CniHostWrongFalsely : Prop := cniHostRow.holds Try.pinned (OpenSpec.ofChange cniHostWrong)

/-- 'metronomelaw12.CniController': WHATEVER THE INPUT: true; the input reads as it did. -/
def cniControllerSpec : ChangeSpec := { name := "cniController", fn := fun _ => fun
  | [d1, d2, d3, d4, d5, d6] => { results := [.lit (.bool true)], args := [d1, d2, d3, d4, d5, d6] }
  | _ => none }
def cniControllerRow : OpenClaim := { program := "ytnlmpemfpkmodaa", sum := "1b88e1ca24bfbd10847a79fc04e9019c268872e6f1af011ab0141903c4a21420", func := "metronome/metronomelaw12.CniController", spec := "cniController", unfollowed := true, recurses := true, apart := false }
def CniControllerSaid : Prop := cniControllerRow.holds Try.pinned (OpenSpec.ofChange cniControllerSpec)

/-- ITS FALSE NEIGHBOUR: 'it returns false'. Refute it at one input. -/
def cniControllerWrong : ChangeSpec := { name := "cniController", fn := fun _ => fun
  | [d1, d2, d3, d4, d5, d6] => { results := [.lit (.bool false)], args := [d1, d2, d3, d4, d5, d6] }
  | _ => none }
def CniControllerWrongFalsely : Prop := cniControllerRow.holds Try.pinned (OpenSpec.ofChange cniControllerWrong)

/-- 'metronomelaw12.CniStays': WHATEVER THE INPUT: true; the input reads as it did. -/
def cniStaysSpec : ChangeSpec := { name := "cniStays", fn := fun _ => fun
  | [d1, d2, d3, d4, d5] => { results := [.lit (.bool true)], args := [d1, d2, d3, d4, d5] }
  | _ => none }
def cniStaysRow : OpenClaim := { program := "ytnlmpemfpkmodaa", sum := "1b88e1ca24bfbd10847a79fc04e9019c268872e6f1af011ab0141903c4a21420", func := "metronome/metronomelaw12.CniStays", spec := "cniStays", unfollowed := true, recurses := true, apart := false }
def CniStaysSaid : Prop := cniStaysRow.holds Try.pinned (OpenSpec.ofChange cniStaysSpec)

/-- ITS FALSE NEIGHBOUR: 'it returns false'. Refute it at one input. -/
def cniStaysWrong : ChangeSpec := { name := "cniStays", fn := fun _ => fun
  | [d1, d2, d3, d4, d5] => { results := [.lit (.bool false)], args := [d1, d2, d3, d4, d5] }
  | _ => none }
def CniStaysWrongFalsely : Prop := cniStaysRow.holds Try.pinned (OpenSpec.ofChange cniStaysWrong)

/-- 'metronomelaw12.CniSilent': WHATEVER THE INPUT: true; the input reads as it did. -/
def cniSilentSpec : ChangeSpec := { name := "cniSilent", fn := fun _ => fun
  | [d1, d2, d3] => { results := [.lit (.bool true)], args := [d1, d2, d3] }
  | _ => none }
def cniSilentRow : OpenClaim := { program := "ytnlmpemfpkmodaa", sum := "1b88e1ca24bfbd10847a79fc04e9019c268872e6f1af011ab0141903c4a21420", func := "metronome/metronomelaw12.CniSilent", spec := "cniSilent", unfollowed := true, recurses := true, apart := false }
def CniSilentSaid : Prop := cniSilentRow.holds Try.pinned (OpenSpec.ofChange cniSilentSpec)

/-- ITS FALSE NEIGHBOUR: 'it returns false'. Refute it at one input. -/
def cniSilentWrong : ChangeSpec := { name := "cniSilent", fn := fun _ => fun
  | [d1, d2, d3] => { results := [.lit (.bool false)], args := [d1, d2, d3] }
  | _ => none }
def CniSilentWrongFalsely : Prop := cniSilentRow.holds Try.pinned (OpenSpec.ofChange cniSilentWrong)

/- THE SECOND FORM. 'bulk': how many values and letters a reading holds, each counted each time it is reached (what is shared counts as often as it is met; a slice's spare places count too). A statement '..UptoSaid' is the law's where the arguments, and the package variables that the reading takes, are together of bulk at most 1048576: NARROWER than '..Said'. Prove '..Said' where nothing that the law and all that it calls make is longer than what came in: it says more and counts as full. Else prove '..UptoSaid'. A law counts once. -/
mutual
def uptoBulk {H : Type} : DataW H → Nat
  | .lit (.string bytes) => bytes.length + 1
  | .lit _ => 1
  | .nil => 1
  | .ptr d => uptoBulk d + 1
  | .slice elems spare => uptoBulkAll elems + uptoBulkAll spare + 1
  | .agg parts => uptoBulkAll parts + 1
  | .iface _ d => uptoBulk d + 1
  | .map entries => uptoBulkEntries entries + 1
  | .held _ => 1
def uptoBulkAll {H : Type} : List (DataW H) → Nat
  | [] => 0
  | d :: r => uptoBulk d + uptoBulkAll r
def uptoBulkEntries {H : Type} : List (Lit × DataW H) → Nat
  | [] => 0
  | x :: r => uptoBulkEntry x + uptoBulkEntries r
def uptoBulkEntry {H : Type} : Lit × DataW H → Nat
  | (.string bytes, d) => bytes.length + uptoBulk d + 1
  | (_, d) => uptoBulk d + 1
 end
def uptoSmall : (H : Type) → List (DataW H) → Bool := fun _ ds => decide (uptoBulkAll ds ≤ 1048576)
def OpenSpec.upto (s : _root_.Go.ChangeSpec) : _root_.Go.OpenSpec := { _root_.Go.OpenSpec.ofChange s with cond := some uptoSmall }

/-- 'metronomelaw12.CniHost', WHERE WHAT IT READS IS OF BULK AT MOST 1048576: true; the input reads as it did. -/
def cniHostUptoRow : OpenClaim := { program := "ytnlmpemfpkmodaa", sum := "1b88e1ca24bfbd10847a79fc04e9019c268872e6f1af011ab0141903c4a21420", func := "metronome/metronomelaw12.CniHost", spec := "cniHost", unfollowed := true, recurses := true, apart := false, narrowed := true }
def CniHostUptoSaid : Prop := cniHostUptoRow.holds Try.pinned (OpenSpec.upto cniHostSpec)

/-- 'metronomelaw12.CniController', WHERE WHAT IT READS IS OF BULK AT MOST 1048576: true; the input reads as it did. -/
def cniControllerUptoRow : OpenClaim := { program := "ytnlmpemfpkmodaa", sum := "1b88e1ca24bfbd10847a79fc04e9019c268872e6f1af011ab0141903c4a21420", func := "metronome/metronomelaw12.CniController", spec := "cniController", unfollowed := true, recurses := true, apart := false, narrowed := true }
def CniControllerUptoSaid : Prop := cniControllerUptoRow.holds Try.pinned (OpenSpec.upto cniControllerSpec)

/-- 'metronomelaw12.CniStays', WHERE WHAT IT READS IS OF BULK AT MOST 1048576: true; the input reads as it did. -/
def cniStaysUptoRow : OpenClaim := { program := "ytnlmpemfpkmodaa", sum := "1b88e1ca24bfbd10847a79fc04e9019c268872e6f1af011ab0141903c4a21420", func := "metronome/metronomelaw12.CniStays", spec := "cniStays", unfollowed := true, recurses := true, apart := false, narrowed := true }
def CniStaysUptoSaid : Prop := cniStaysUptoRow.holds Try.pinned (OpenSpec.upto cniStaysSpec)

/-- 'metronomelaw12.CniSilent', WHERE WHAT IT READS IS OF BULK AT MOST 1048576: true; the input reads as it did. -/
def cniSilentUptoRow : OpenClaim := { program := "ytnlmpemfpkmodaa", sum := "1b88e1ca24bfbd10847a79fc04e9019c268872e6f1af011ab0141903c4a21420", func := "metronome/metronomelaw12.CniSilent", spec := "cniSilent", unfollowed := true, recurses := true, apart := false, narrowed := true }
def CniSilentUptoSaid : Prop := cniSilentUptoRow.holds Try.pinned (OpenSpec.upto cniSilentSpec)

end Rows
end Go.Proofs.Ytnlmpemfpkmodaa
