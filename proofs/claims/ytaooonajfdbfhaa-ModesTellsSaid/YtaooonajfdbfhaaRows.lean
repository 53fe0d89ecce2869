/-
  No cell of these rows narrows 'for every input' (looked for: loops, veiled, ifaces, maps, wideKeys, modest, calm, conditions, laid).
  DERIVED. THE GIVEN ROWS OF THIS SEAT. 4 by the template 'for every input the law returns true; each argument reads behind the call as it read before'; 0 by the template 'total and deterministic' (their statements: YtaooonajfdbfhaaTotals.lean).
  GIVEN WITH THE SEED: the statements are not yours to turn. If you find one false, say at which input.
  Laid BY PROGRAM, IN A SANDBOX (cutbox-rows.mjs): the forced cells as the released guide's own fill.sh prints them over the translation c6a3809e64a9f8bb… (all of the seat's roots in one cut). By AI agents, Wed Nov 11 2026. No macro, syntax, notation, axiom, sorry.
-/
import Derived.Test.YtaooonajfdbfhaaChecked
import GoSem.Claim
import GoSem.ClaimJoined
import GoSem.ClaimMapViews
import Derived.JoinedTies
import Derived.KernelRfl
namespace Go.Proofs.Ytaooonajfdbfhaa
/- THE CELL 'sum', in the pinned program and in every row, IS THE sha256 OF THE DUMP (.gsa) THAT YtaooonajfdbfhaaProg.lean LOADS. Nothing in Lean hashes anything: it is a label: what it is worth is what the hold of that sum in a sandbox is worth. -/
noncomputable def Try.pinned : Pinned := { name := "ytaooonajfdbfhaa", sum := "c6a3809e64a9f8bb6dce7faed4f65792e3aae9fe0e474afc101ee47703b5cac3", checked := Try.checked }
namespace Rows
def none {H : Type} : Left H := { results := [], args := [] }

/-- 'metronomelaw10.ModesTells': WHATEVER THE INPUT: true; the input reads as it did. -/
def modesTellsSpec : ChangeSpec := { name := "modesTells", fn := fun _ => fun
  | [d1, d2, d3, d4, d5, d6] => { results := [.lit (.bool true)], args := [d1, d2, d3, d4, d5, d6] }
  | _ => none }
def modesTellsRow : OpenClaim := { program := "ytaooonajfdbfhaa", sum := "c6a3809e64a9f8bb6dce7faed4f65792e3aae9fe0e474afc101ee47703b5cac3", func := "metronome/metronomelaw10.ModesTells", spec := "modesTells", unfollowed := true, recurses := true, apart := false }
def ModesTellsSaid : Prop := modesTellsRow.holds Try.pinned (OpenSpec.ofChange modesTellsSpec)

/-- ITS FALSE NEIGHBOUR: 'it returns false'. Refute it at one input. -/
def modesTellsWrong : ChangeSpec := { name := "modesTells", fn := fun _ => fun
  | [d1, d2, d3, d4, d5, d6] => { results := [.lit (.bool false)], args := [d1, d2, d3, d4, d5, d6] }
  | _ => none }
def ModesTellsWrongFalsely : Prop := modesTellsRow.holds Try.pinned (OpenSpec.ofChange modesTellsWrong)

/-- 'metronomelaw10.ModesOnce': WHATEVER THE INPUT: true; the input reads as it did. -/
def modesOnceSpec : ChangeSpec := { name := "modesOnce", fn := fun _ => fun
  | [d1, d2, d3] => { results := [.lit (.bool true)], args := [d1, d2, d3] }
  | _ => none }
def modesOnceRow : OpenClaim := { program := "ytaooonajfdbfhaa", sum := "c6a3809e64a9f8bb6dce7faed4f65792e3aae9fe0e474afc101ee47703b5cac3", func := "metronome/metronomelaw10.ModesOnce", spec := "modesOnce", unfollowed := true, recurses := true, apart := false }
def ModesOnceSaid : Prop := modesOnceRow.holds Try.pinned (OpenSpec.ofChange modesOnceSpec)

/-- ITS FALSE NEIGHBOUR: 'it returns false'. Refute it at one input. -/
def modesOnceWrong : ChangeSpec := { name := "modesOnce", fn := fun _ => fun
  | [d1, d2, d3] => { results := [.lit (.bool false)], args := [d1, d2, d3] }
  | _ => none }
def ModesOnceWrongFalsely : Prop := modesOnceRow.holds Try.pinned (OpenSpec.ofChange modesOnceWrong)

/-- 'metronomelaw10.ModesReach': WHATEVER THE INPUT: true; the input reads as it did. -/
def modesReachSpec : ChangeSpec := { name := "modesReach", fn := fun _ => fun
  | [d1, d2, d3, d4, d5] => { results := [.lit (.bool true)], args := [d1, d2, d3, d4, d5] }
  | _ => none }
def modesReachRow : OpenClaim := { program := "ytaooonajfdbfhaa", sum := "c6a3809e64a9f8bb6dce7faed4f65792e3aae9fe0e474afc101ee47703b5cac3", func := "metronome/metronomelaw10.ModesReach", spec := "modesReach", unfollowed := true, recurses := true, apart := false }
def ModesReachSaid : Prop := modesReachRow.holds Try.pinned (OpenSpec.ofChange modesReachSpec)

/-- ITS FALSE NEIGHBOUR: 'it returns false'. Refute it at one input. -/
def modesReachWrong : ChangeSpec := { name := "modesReach", fn := fun _ => fun
  | [d1, d2, d3, d4, d5] => { results := [.lit (.bool false)], args := [d1, d2, d3, d4, d5] }
  | _ => none }
def ModesReachWrongFalsely : Prop := modesReachRow.holds Try.pinned (OpenSpec.ofChange modesReachWrong)

/-- 'metronomelaw10.ModesNone': WHATEVER THE INPUT: true; the input reads as it did. -/
def modesNoneSpec : ChangeSpec := { name := "modesNone", fn := fun _ => fun
  | [d1, d2, d3] => { results := [.lit (.bool true)], args := [d1, d2, d3] }
  | _ => none }
def modesNoneRow : OpenClaim := { program := "ytaooonajfdbfhaa", sum := "c6a3809e64a9f8bb6dce7faed4f65792e3aae9fe0e474afc101ee47703b5cac3", func := "metronome/metronomelaw10.ModesNone", spec := "modesNone", unfollowed := true, recurses := true, apart := false }
def ModesNoneSaid : Prop := modesNoneRow.holds Try.pinned (OpenSpec.ofChange modesNoneSpec)

/-- ITS FALSE NEIGHBOUR: 'it returns false'. Refute it at one input. -/
def modesNoneWrong : ChangeSpec := { name := "modesNone", fn := fun _ => fun
  | [d1, d2, d3] => { results := [.lit (.bool false)], args := [d1, d2, d3] }
  | _ => none }
def ModesNoneWrongFalsely : Prop := modesNoneRow.holds Try.pinned (OpenSpec.ofChange modesNoneWrong)

/- THE SECOND FORM. 'bulk': how many values and letters a reading holds, each counted each time it is reached (what is shared counts as often as it is met; a slice's spare places count too). A statement '..UptoSaid' is the law's where the arguments, and the package variables that the reading takes, are together of bulk at most 1048576: NARROWER than '..Said'. Prove '..Said' where nothing that the law and all that it calls make is longer than what came in: it says more and counts as full. Else prove '..UptoSaid'. A law counts once. -/
mutual
def uptoBulk {H : Type} : DataW H → Nat
  | .lit (.string bytes) => bytes.length + 1
  | .lit _ => 1
  | .nil => 1
  | .ptr d => uptoBulk d + 1
  | .slice elems spare => uptoBulkAll elems + uptoBulkAll spare + 1
  | .agg parts => uptoBulkAll parts + 1
  | .iface _ d => uptoBulk d + 1
  | .map entries => uptoBulkEntries entries + 1
  | .held _ => 1
def uptoBulkAll {H : Type} : List (DataW H) → Nat
  | [] => 0
  | d :: r => uptoBulk d + uptoBulkAll r
def uptoBulkEntries {H : Type} : List (Lit × DataW H) → Nat
  | [] => 0
  | x :: r => uptoBulkEntry x + uptoBulkEntries r
def uptoBulkEntry {H : Type} : Lit × DataW H → Nat
  | (.string bytes, d) => bytes.length + uptoBulk d + 1
  | (_, d) => uptoBulk d + 1
 end
def uptoSmall : (H : Type) → List (DataW H) → Bool := fun _ ds => decide (uptoBulkAll ds ≤ 1048576)
def OpenSpec.upto (s : _root_.Go.ChangeSpec) : _root_.Go.OpenSpec := { _root_.Go.OpenSpec.ofChange s with cond := some uptoSmall }

/-- 'metronomelaw10.ModesTells', WHERE WHAT IT READS IS OF BULK AT MOST 1048576: true; the input reads as it did. -/
def modesTellsUptoRow : OpenClaim := { program := "ytaooonajfdbfhaa", sum := "c6a3809e64a9f8bb6dce7faed4f65792e3aae9fe0e474afc101ee47703b5cac3", func := "metronome/metronomelaw10.ModesTells", spec := "modesTells", unfollowed := true, recurses := true, apart := false, narrowed := true }
def ModesTellsUptoSaid : Prop := modesTellsUptoRow.holds Try.pinned (OpenSpec.upto modesTellsSpec)

/-- 'metronomelaw10.ModesOnce', WHERE WHAT IT READS IS OF BULK AT MOST 1048576: true; the input reads as it did. -/
def modesOnceUptoRow : OpenClaim := { program := "ytaooonajfdbfhaa", sum := "c6a3809e64a9f8bb6dce7faed4f65792e3aae9fe0e474afc101ee47703b5cac3", func := "metronome/metronomelaw10.ModesOnce", spec := "modesOnce", unfollowed := true, recurses := true, apart := false, narrowed := true }
def ModesOnceUptoSaid : Prop := modesOnceUptoRow.holds Try.pinned (OpenSpec.upto modesOnceSpec)

/-- 'metronomelaw10.ModesReach', WHERE WHAT IT READS IS OF BULK AT MOST 1048576: true; the input reads as it did. -/
def modesReachUptoRow : OpenClaim := { program := "ytaooonajfdbfhaa", sum := "c6a3809e64a9f8bb6dce7faed4f65792e3aae9fe0e474afc101ee47703b5cac3", func := "metronome/metronomelaw10.ModesReach", spec := "modesReach", unfollowed := true, recurses := true, apart := false, narrowed := true }
def ModesReachUptoSaid : Prop := modesReachUptoRow.holds Try.pinned (OpenSpec.upto modesReachSpec)

/-- 'metronomelaw10.ModesNone', WHERE WHAT IT READS IS OF BULK AT MOST 1048576: true; the input reads as it did. -/
def modesNoneUptoRow : OpenClaim := { program := "ytaooonajfdbfhaa", sum := "c6a3809e64a9f8bb6dce7faed4f65792e3aae9fe0e474afc101ee47703b5cac3", func := "metronome/metronomelaw10.ModesNone", spec := "modesNone", unfollowed := true, recurses := true, apart := false, narrowed := true }
def ModesNoneUptoSaid : Prop := modesNoneUptoRow.holds Try.pinned (OpenSpec.upto modesNoneSpec)

end Rows
end Go.Proofs.Ytaooonajfdbfhaa
