/-
  No cell of these rows narrows 'for every input' (looked for: loops, veiled, ifaces, maps, wideKeys, modest, calm, conditions, laid).
  DERIVED. THE GIVEN ROWS OF THIS SEAT. 5 by the template 'for every input the law returns true; each argument reads behind the call as it read before'; 0 by the template 'total and deterministic' (their statements: YtnmaelefcohogaaTotals.lean).
  GIVEN WITH THE SEED: the statements are not yours to turn. If you find one false, say at which input.
  Laid BY PROGRAM, IN A SANDBOX (cutbox-rows.mjs): the forced cells as the released guide's own fill.sh prints them over the translation 63c0eac88d4da636… (all of the seat's roots in one cut). By AI agents, Wed Nov 11 2026. No macro, syntax, notation, axiom, sorry.
-/
import Derived.Test.YtnmaelefcohogaaChecked
import GoSem.Claim
import GoSem.ClaimJoined
import GoSem.ClaimMapViews
import Derived.JoinedTies
import Derived.KernelRfl
namespace Go.Proofs.Ytnmaelefcohogaa
/- THE CELL 'sum', in the pinned program and in every row, IS THE sha256 OF THE DUMP (.gsa) THAT YtnmaelefcohogaaProg.lean LOADS. Nothing in Lean hashes anything: it is a label: what it is worth is what the hold of that sum in a sandbox is worth. -/
noncomputable def Try.pinned : Pinned := { name := "ytnmaelefcohogaa", sum := "63c0eac88d4da636856394698c55d612ffc03e683dd511dc342510126be0b1d3", checked := Try.checked }
namespace Rows
def none {H : Type} : Left H := { results := [], args := [] }

/-- 'metronomelaw07.MedlChecks': WHATEVER THE INPUT: true; the input reads as it did. -/
def medlChecksSpec : ChangeSpec := { name := "medlChecks", fn := fun _ => fun
  | [d1, d2, d3, d4] => { results := [.lit (.bool true)], args := [d1, d2, d3, d4] }
  | _ => none }
def medlChecksRow : OpenClaim := { program := "ytnmaelefcohogaa", sum := "63c0eac88d4da636856394698c55d612ffc03e683dd511dc342510126be0b1d3", func := "metronome/metronomelaw07.MedlChecks", spec := "medlChecks", unfollowed := true, recurses := true, apart := false }
def MedlChecksSaid : Prop := medlChecksRow.holds Try.pinned (OpenSpec.ofChange medlChecksSpec)

/-- ITS FALSE NEIGHBOUR: 'it returns false'. Refute it at one input. -/
def medlChecksWrong : ChangeSpec := { name := "medlChecks", fn := fun _ => fun
  | [d1, d2, d3, d4] => { results := [.lit (.bool false)], args := [d1, d2, d3, d4] }
  | _ => none }
def MedlChecksWrongFalsely : Prop := medlChecksRow.holds Try.pinned (OpenSpec.ofChange medlChecksWrong)

/-- 'metronomelaw07.MedlTells': WHATEVER THE INPUT: true; the input reads as it did. -/
def medlTellsSpec : ChangeSpec := { name := "medlTells", fn := fun _ => fun
  | [d1, d2, d3] => { results := [.lit (.bool true)], args := [d1, d2, d3] }
  | _ => none }
def medlTellsRow : OpenClaim := { program := "ytnmaelefcohogaa", sum := "63c0eac88d4da636856394698c55d612ffc03e683dd511dc342510126be0b1d3", func := "metronome/metronomelaw07.MedlTells", spec := "medlTells", unfollowed := true, recurses := true, apart := false }
def MedlTellsSaid : Prop := medlTellsRow.holds Try.pinned (OpenSpec.ofChange medlTellsSpec)

/-- ITS FALSE NEIGHBOUR: 'it returns false'. Refute it at one input. -/
def medlTellsWrong : ChangeSpec := { name := "medlTells", fn := fun _ => fun
  | [d1, d2, d3] => { results := [.lit (.bool false)], args := [d1, d2, d3] }
  | _ => none }
def MedlTellsWrongFalsely : Prop := medlTellsRow.holds Try.pinned (OpenSpec.ofChange medlTellsWrong)

/-- 'metronomelaw07.MedlRoom': WHATEVER THE INPUT: true; the input reads as it did. -/
def medlRoomSpec : ChangeSpec := { name := "medlRoom", fn := fun _ => fun
  | [d1, d2, d3, d4] => { results := [.lit (.bool true)], args := [d1, d2, d3, d4] }
  | _ => none }
def medlRoomRow : OpenClaim := { program := "ytnmaelefcohogaa", sum := "63c0eac88d4da636856394698c55d612ffc03e683dd511dc342510126be0b1d3", func := "metronome/metronomelaw07.MedlRoom", spec := "medlRoom", unfollowed := true, recurses := true, apart := false }
def MedlRoomSaid : Prop := medlRoomRow.holds Try.pinned (OpenSpec.ofChange medlRoomSpec)

/-- ITS FALSE NEIGHBOUR: 'it returns false'. Refute it at one input. -/
def medlRoomWrong : ChangeSpec := { name := "medlRoom", fn := fun _ => fun
  | [d1, d2, d3, d4] => { results := [.lit (.bool false)], args := [d1, d2, d3, d4] }
  | _ => none }
def MedlRoomWrongFalsely : Prop := medlRoomRow.holds Try.pinned (OpenSpec.ofChange medlRoomWrong)

/-- 'metronomelaw07.MedlApart': WHATEVER THE INPUT: true; the input reads as it did. -/
def medlApartSpec : ChangeSpec := { name := "medlApart", fn := fun _ => fun
  | [d1, d2, d3] => { results := [.lit (.bool true)], args := [d1, d2, d3] }
  | _ => none }
def medlApartRow : OpenClaim := { program := "ytnmaelefcohogaa", sum := "63c0eac88d4da636856394698c55d612ffc03e683dd511dc342510126be0b1d3", func := "metronome/metronomelaw07.MedlApart", spec := "medlApart", unfollowed := true, recurses := true, apart := false }
def MedlApartSaid : Prop := medlApartRow.holds Try.pinned (OpenSpec.ofChange medlApartSpec)

/-- ITS FALSE NEIGHBOUR: 'it returns false'. Refute it at one input. -/
def medlApartWrong : ChangeSpec := { name := "medlApart", fn := fun _ => fun
  | [d1, d2, d3] => { results := [.lit (.bool false)], args := [d1, d2, d3] }
  | _ => none }
def MedlApartWrongFalsely : Prop := medlApartRow.holds Try.pinned (OpenSpec.ofChange medlApartWrong)

/-- 'metronomelaw07.MedlMore': WHATEVER THE INPUT: true; the input reads as it did. -/
def medlMoreSpec : ChangeSpec := { name := "medlMore", fn := fun _ => fun
  | [d1, d2, d3] => { results := [.lit (.bool true)], args := [d1, d2, d3] }
  | _ => none }
def medlMoreRow : OpenClaim := { program := "ytnmaelefcohogaa", sum := "63c0eac88d4da636856394698c55d612ffc03e683dd511dc342510126be0b1d3", func := "metronome/metronomelaw07.MedlMore", spec := "medlMore", unfollowed := true, recurses := true, apart := false }
def MedlMoreSaid : Prop := medlMoreRow.holds Try.pinned (OpenSpec.ofChange medlMoreSpec)

/-- ITS FALSE NEIGHBOUR: 'it returns false'. Refute it at one input. -/
def medlMoreWrong : ChangeSpec := { name := "medlMore", fn := fun _ => fun
  | [d1, d2, d3] => { results := [.lit (.bool false)], args := [d1, d2, d3] }
  | _ => none }
def MedlMoreWrongFalsely : Prop := medlMoreRow.holds Try.pinned (OpenSpec.ofChange medlMoreWrong)

/- THE SECOND FORM. 'bulk': how many values and letters a reading holds, each counted each time it is reached (what is shared counts as often as it is met; a slice's spare places count too). A statement '..UptoSaid' is the law's where the arguments, and the package variables that the reading takes, are together of bulk at most 1048576: NARROWER than '..Said'. Prove '..Said' where nothing that the law and all that it calls make is longer than what came in: it says more and counts as full. Else prove '..UptoSaid'. A law counts once. -/
mutual
def uptoBulk {H : Type} : DataW H → Nat
  | .lit (.string bytes) => bytes.length + 1
  | .lit _ => 1
  | .nil => 1
  | .ptr d => uptoBulk d + 1
  | .slice elems spare => uptoBulkAll elems + uptoBulkAll spare + 1
  | .agg parts => uptoBulkAll parts + 1
  | .iface _ d => uptoBulk d + 1
  | .map entries => uptoBulkEntries entries + 1
  | .held _ => 1
def uptoBulkAll {H : Type} : List (DataW H) → Nat
  | [] => 0
  | d :: r => uptoBulk d + uptoBulkAll r
def uptoBulkEntries {H : Type} : List (Lit × DataW H) → Nat
  | [] => 0
  | x :: r => uptoBulkEntry x + uptoBulkEntries r
def uptoBulkEntry {H : Type} : Lit × DataW H → Nat
  | (.string bytes, d) => bytes.length + uptoBulk d + 1
  | (_, d) => uptoBulk d + 1
 end
def uptoSmall : (H : Type) → List (DataW H) → Bool := fun _ ds => decide (uptoBulkAll ds ≤ 1048576)
def OpenSpec.upto (s : _root_.Go.ChangeSpec) : _root_.Go.OpenSpec := { _root_.Go.OpenSpec.ofChange s with cond := some uptoSmall }

/-- 'metronomelaw07.MedlChecks', WHERE WHAT IT READS IS OF BULK AT MOST 1048576: true; the input reads as it did. -/
def medlChecksUptoRow : OpenClaim := { program := "ytnmaelefcohogaa", sum := "63c0eac88d4da636856394698c55d612ffc03e683dd511dc342510126be0b1d3", func := "metronome/metronomelaw07.MedlChecks", spec := "medlChecks", unfollowed := true, recurses := true, apart := false, narrowed := true }
def MedlChecksUptoSaid : Prop := medlChecksUptoRow.holds Try.pinned (OpenSpec.upto medlChecksSpec)

/-- 'metronomelaw07.MedlTells', WHERE WHAT IT READS IS OF BULK AT MOST 1048576: true; the input reads as it did. -/
def medlTellsUptoRow : OpenClaim := { program := "ytnmaelefcohogaa", sum := "63c0eac88d4da636856394698c55d612ffc03e683dd511dc342510126be0b1d3", func := "metronome/metronomelaw07.MedlTells", spec := "medlTells", unfollowed := true, recurses := true, apart := false, narrowed := true }
def MedlTellsUptoSaid : Prop := medlTellsUptoRow.holds Try.pinned (OpenSpec.upto medlTellsSpec)

/-- 'metronomelaw07.MedlRoom', WHERE WHAT IT READS IS OF BULK AT MOST 1048576: true; the input reads as it did. -/
def medlRoomUptoRow : OpenClaim := { program := "ytnmaelefcohogaa", sum := "63c0eac88d4da636856394698c55d612ffc03e683dd511dc342510126be0b1d3", func := "metronome/metronomelaw07.MedlRoom", spec := "medlRoom", unfollowed := true, recurses := true, apart := false, narrowed := true }
def MedlRoomUptoSaid : Prop := medlRoomUptoRow.holds Try.pinned (OpenSpec.upto medlRoomSpec)

/-- 'metronomelaw07.MedlApart', WHERE WHAT IT READS IS OF BULK AT MOST 1048576: true; the input reads as it did. -/
def medlApartUptoRow : OpenClaim := { program := "ytnmaelefcohogaa", sum := "63c0eac88d4da636856394698c55d612ffc03e683dd511dc342510126be0b1d3", func := "metronome/metronomelaw07.MedlApart", spec := "medlApart", unfollowed := true, recurses := true, apart := false, narrowed := true }
def MedlApartUptoSaid : Prop := medlApartUptoRow.holds Try.pinned (OpenSpec.upto medlApartSpec)

/-- 'metronomelaw07.MedlMore', WHERE WHAT IT READS IS OF BULK AT MOST 1048576: true; the input reads as it did. -/
def medlMoreUptoRow : OpenClaim := { program := "ytnmaelefcohogaa", sum := "63c0eac88d4da636856394698c55d612ffc03e683dd511dc342510126be0b1d3", func := "metronome/metronomelaw07.MedlMore", spec := "medlMore", unfollowed := true, recurses := true, apart := false, narrowed := true }
def MedlMoreUptoSaid : Prop := medlMoreUptoRow.holds Try.pinned (OpenSpec.upto medlMoreSpec)

end Rows
end Go.Proofs.Ytnmaelefcohogaa
