/-
  No cell of these rows narrows 'for every input' (looked for: loops, veiled, ifaces, maps, wideKeys, modest, calm, conditions, laid).
  DERIVED. THE GIVEN ROWS OF THIS SEAT. 7 by the template 'for every input the law returns true; each argument reads behind the call as it read before'; 0 by the template 'total and deterministic' (their statements: YtdmedhklcicpeaaTotals.lean).
  GIVEN WITH THE SEED: the statements are not yours to turn. If you find one false, say at which input.
  Laid BY PROGRAM, IN A SANDBOX (cutbox-rows.mjs): the forced cells as the released guide's own fill.sh prints them over the translation 5663c5e89fa04e19… (all of the seat's roots in one cut). By AI agents, Wed Nov 11 2026. No macro, syntax, notation, axiom, sorry.
-/
import Derived.Test.YtdmedhklcicpeaaChecked
import GoSem.Claim
import GoSem.ClaimJoined
import GoSem.ClaimMapViews
import Derived.JoinedTies
import Derived.KernelRfl
namespace Go.Proofs.Ytdmedhklcicpeaa
/- THE CELL 'sum', in the pinned program and in every row, IS THE sha256 OF THE DUMP (.gsa) THAT YtdmedhklcicpeaaProg.lean LOADS. Nothing in Lean hashes anything: it is a label: what it is worth is what the hold of that sum in a sandbox is worth. -/
noncomputable def Try.pinned : Pinned := { name := "ytdmedhklcicpeaa", sum := "5663c5e89fa04e19e62df37e6d45d0643a3ea05675f7f5da0ca8afccc8beea5b", checked := Try.checked }
namespace Rows
def none {H : Type} : Left H := { results := [], args := [] }

/-- 'metronomelaw03.PhasorSends': WHATEVER THE INPUT: true; the input reads as it did. -/
def phasorSendsSpec : ChangeSpec := { name := "phasorSends", fn := fun _ => fun
  | [d1, d2, d3] => { results := [.lit (.bool true)], args := [d1, d2, d3] }
  | _ => none }
def phasorSendsRow : OpenClaim := { program := "ytdmedhklcicpeaa", sum := "5663c5e89fa04e19e62df37e6d45d0643a3ea05675f7f5da0ca8afccc8beea5b", func := "metronome/metronomelaw03.PhasorSends", spec := "phasorSends", apart := false }
def PhasorSendsSaid : Prop := phasorSendsRow.holds Try.pinned (OpenSpec.ofChange phasorSendsSpec)

/-- ITS FALSE NEIGHBOUR: 'it returns false'. Refute it at one input. -/
def phasorSendsWrong : ChangeSpec := { name := "phasorSends", fn := fun _ => fun
  | [d1, d2, d3] => { results := [.lit (.bool false)], args := [d1, d2, d3] }
  | _ => none }
def PhasorSendsWrongFalsely : Prop := phasorSendsRow.holds Try.pinned (OpenSpec.ofChange phasorSendsWrong)

/-- 'metronomelaw03.PhasorChanges': WHATEVER THE INPUT: true; the input reads as it did. -/
def phasorChangesSpec : ChangeSpec := { name := "phasorChanges", fn := fun _ => fun
  | [d1, d2, d3] => { results := [.lit (.bool true)], args := [d1, d2, d3] }
  | _ => none }
def phasorChangesRow : OpenClaim := { program := "ytdmedhklcicpeaa", sum := "5663c5e89fa04e19e62df37e6d45d0643a3ea05675f7f5da0ca8afccc8beea5b", func := "metronome/metronomelaw03.PhasorChanges", spec := "phasorChanges", apart := false }
def PhasorChangesSaid : Prop := phasorChangesRow.holds Try.pinned (OpenSpec.ofChange phasorChangesSpec)

/-- ITS FALSE NEIGHBOUR: 'it returns false'. Refute it at one input. -/
def phasorChangesWrong : ChangeSpec := { name := "phasorChanges", fn := fun _ => fun
  | [d1, d2, d3] => { results := [.lit (.bool false)], args := [d1, d2, d3] }
  | _ => none }
def PhasorChangesWrongFalsely : Prop := phasorChangesRow.holds Try.pinned (OpenSpec.ofChange phasorChangesWrong)

/-- 'metronomelaw03.PhasorFinds': WHATEVER THE INPUT: true; the input reads as it did. -/
def phasorFindsSpec : ChangeSpec := { name := "phasorFinds", fn := fun _ => fun
  | [d1, d2] => { results := [.lit (.bool true)], args := [d1, d2] }
  | _ => none }
def phasorFindsRow : OpenClaim := { program := "ytdmedhklcicpeaa", sum := "5663c5e89fa04e19e62df37e6d45d0643a3ea05675f7f5da0ca8afccc8beea5b", func := "metronome/metronomelaw03.PhasorFinds", spec := "phasorFinds", apart := false }
def PhasorFindsSaid : Prop := phasorFindsRow.holds Try.pinned (OpenSpec.ofChange phasorFindsSpec)

/-- ITS FALSE NEIGHBOUR: 'it returns false'. Refute it at one input. -/
def phasorFindsWrong : ChangeSpec := { name := "phasorFinds", fn := fun _ => fun
  | [d1, d2] => { results := [.lit (.bool false)], args := [d1, d2] }
  | _ => none }
def PhasorFindsWrongFalsely : Prop := phasorFindsRow.holds Try.pinned (OpenSpec.ofChange phasorFindsWrong)

/-- 'metronomelaw03.PhasorReads': WHATEVER THE INPUT: true; the input reads as it did. -/
def phasorReadsSpec : ChangeSpec := { name := "phasorReads", fn := fun _ => fun
  | [d1, d2, d3] => { results := [.lit (.bool true)], args := [d1, d2, d3] }
  | _ => none }
def phasorReadsRow : OpenClaim := { program := "ytdmedhklcicpeaa", sum := "5663c5e89fa04e19e62df37e6d45d0643a3ea05675f7f5da0ca8afccc8beea5b", func := "metronome/metronomelaw03.PhasorReads", spec := "phasorReads", apart := false }
def PhasorReadsSaid : Prop := phasorReadsRow.holds Try.pinned (OpenSpec.ofChange phasorReadsSpec)

/-- ITS FALSE NEIGHBOUR: 'it returns false'. Refute it at one input. -/
def phasorReadsWrong : ChangeSpec := { name := "phasorReads", fn := fun _ => fun
  | [d1, d2, d3] => { results := [.lit (.bool false)], args := [d1, d2, d3] }
  | _ => none }
def PhasorReadsWrongFalsely : Prop := phasorReadsRow.holds Try.pinned (OpenSpec.ofChange phasorReadsWrong)

/-- 'metronomelaw03.PhasorBack': WHATEVER THE INPUT: true; the input reads as it did. -/
def phasorBackSpec : ChangeSpec := { name := "phasorBack", fn := fun _ => fun
  | [d1, d2, d3, d4] => { results := [.lit (.bool true)], args := [d1, d2, d3, d4] }
  | _ => none }
def phasorBackRow : OpenClaim := { program := "ytdmedhklcicpeaa", sum := "5663c5e89fa04e19e62df37e6d45d0643a3ea05675f7f5da0ca8afccc8beea5b", func := "metronome/metronomelaw03.PhasorBack", spec := "phasorBack", apart := false }
def PhasorBackSaid : Prop := phasorBackRow.holds Try.pinned (OpenSpec.ofChange phasorBackSpec)

/-- ITS FALSE NEIGHBOUR: 'it returns false'. Refute it at one input. -/
def phasorBackWrong : ChangeSpec := { name := "phasorBack", fn := fun _ => fun
  | [d1, d2, d3, d4] => { results := [.lit (.bool false)], args := [d1, d2, d3, d4] }
  | _ => none }
def PhasorBackWrongFalsely : Prop := phasorBackRow.holds Try.pinned (OpenSpec.ofChange phasorBackWrong)

/-- 'metronomelaw03.PhasorNoise': WHATEVER THE INPUT: true; the input reads as it did. -/
def phasorNoiseSpec : ChangeSpec := { name := "phasorNoise", fn := fun _ => fun
  | [d1, d2, d3] => { results := [.lit (.bool true)], args := [d1, d2, d3] }
  | _ => none }
def phasorNoiseRow : OpenClaim := { program := "ytdmedhklcicpeaa", sum := "5663c5e89fa04e19e62df37e6d45d0643a3ea05675f7f5da0ca8afccc8beea5b", func := "metronome/metronomelaw03.PhasorNoise", spec := "phasorNoise", apart := false }
def PhasorNoiseSaid : Prop := phasorNoiseRow.holds Try.pinned (OpenSpec.ofChange phasorNoiseSpec)

/-- ITS FALSE NEIGHBOUR: 'it returns false'. Refute it at one input. -/
def phasorNoiseWrong : ChangeSpec := { name := "phasorNoise", fn := fun _ => fun
  | [d1, d2, d3] => { results := [.lit (.bool false)], args := [d1, d2, d3] }
  | _ => none }
def PhasorNoiseWrongFalsely : Prop := phasorNoiseRow.holds Try.pinned (OpenSpec.ofChange phasorNoiseWrong)

/-- 'metronomelaw03.PhasorTurns': WHATEVER THE INPUT: true; the input reads as it did. -/
def phasorTurnsSpec : ChangeSpec := { name := "phasorTurns", fn := fun _ => fun
  | [d1, d2, d3, d4] => { results := [.lit (.bool true)], args := [d1, d2, d3, d4] }
  | _ => none }
def phasorTurnsRow : OpenClaim := { program := "ytdmedhklcicpeaa", sum := "5663c5e89fa04e19e62df37e6d45d0643a3ea05675f7f5da0ca8afccc8beea5b", func := "metronome/metronomelaw03.PhasorTurns", spec := "phasorTurns", apart := false }
def PhasorTurnsSaid : Prop := phasorTurnsRow.holds Try.pinned (OpenSpec.ofChange phasorTurnsSpec)

/-- ITS FALSE NEIGHBOUR: 'it returns false'. Refute it at one input. -/
def phasorTurnsWrong : ChangeSpec := { name := "phasorTurns", fn := fun _ => fun
  | [d1, d2, d3, d4] => { results := [.lit (.bool false)], args := [d1, d2, d3, d4] }
  | _ => none }
def PhasorTurnsWrongFalsely : Prop := phasorTurnsRow.holds Try.pinned (OpenSpec.ofChange phasorTurnsWrong)

/- THE SECOND FORM. 'bulk': how many values and letters a reading holds, each counted each time it is reached (what is shared counts as often as it is met; a slice's spare places count too). A statement '..UptoSaid' is the law's where the arguments, and the package variables that the reading takes, are together of bulk at most 1048576: NARROWER than '..Said'. Prove '..Said' where nothing that the law and all that it calls make is longer than what came in: it says more and counts as full. Else prove '..UptoSaid'. A law counts once. -/
mutual
def uptoBulk {H : Type} : DataW H → Nat
  | .lit (.string bytes) => bytes.length + 1
  | .lit _ => 1
  | .nil => 1
  | .ptr d => uptoBulk d + 1
  | .slice elems spare => uptoBulkAll elems + uptoBulkAll spare + 1
  | .agg parts => uptoBulkAll parts + 1
  | .iface _ d => uptoBulk d + 1
  | .map entries => uptoBulkEntries entries + 1
  | .held _ => 1
def uptoBulkAll {H : Type} : List (DataW H) → Nat
  | [] => 0
  | d :: r => uptoBulk d + uptoBulkAll r
def uptoBulkEntries {H : Type} : List (Lit × DataW H) → Nat
  | [] => 0
  | x :: r => uptoBulkEntry x + uptoBulkEntries r
def uptoBulkEntry {H : Type} : Lit × DataW H → Nat
  | (.string bytes, d) => bytes.length + uptoBulk d + 1
  | (_, d) => uptoBulk d + 1
 end
def uptoSmall : (H : Type) → List (DataW H) → Bool := fun _ ds => decide (uptoBulkAll ds ≤ 1048576)
def OpenSpec.upto (s : _root_.Go.ChangeSpec) : _root_.Go.OpenSpec := { _root_.Go.OpenSpec.ofChange s with cond := some uptoSmall }

/-- 'metronomelaw03.PhasorSends', WHERE WHAT IT READS IS OF BULK AT MOST 1048576: true; the input reads as it did. -/
def phasorSendsUptoRow : OpenClaim := { program := "ytdmedhklcicpeaa", sum := "5663c5e89fa04e19e62df37e6d45d0643a3ea05675f7f5da0ca8afccc8beea5b", func := "metronome/metronomelaw03.PhasorSends", spec := "phasorSends", apart := false, narrowed := true }
def PhasorSendsUptoSaid : Prop := phasorSendsUptoRow.holds Try.pinned (OpenSpec.upto phasorSendsSpec)

/-- 'metronomelaw03.PhasorChanges', WHERE WHAT IT READS IS OF BULK AT MOST 1048576: true; the input reads as it did. -/
def phasorChangesUptoRow : OpenClaim := { program := "ytdmedhklcicpeaa", sum := "5663c5e89fa04e19e62df37e6d45d0643a3ea05675f7f5da0ca8afccc8beea5b", func := "metronome/metronomelaw03.PhasorChanges", spec := "phasorChanges", apart := false, narrowed := true }
def PhasorChangesUptoSaid : Prop := phasorChangesUptoRow.holds Try.pinned (OpenSpec.upto phasorChangesSpec)

/-- 'metronomelaw03.PhasorFinds', WHERE WHAT IT READS IS OF BULK AT MOST 1048576: true; the input reads as it did. -/
def phasorFindsUptoRow : OpenClaim := { program := "ytdmedhklcicpeaa", sum := "5663c5e89fa04e19e62df37e6d45d0643a3ea05675f7f5da0ca8afccc8beea5b", func := "metronome/metronomelaw03.PhasorFinds", spec := "phasorFinds", apart := false, narrowed := true }
def PhasorFindsUptoSaid : Prop := phasorFindsUptoRow.holds Try.pinned (OpenSpec.upto phasorFindsSpec)

/-- 'metronomelaw03.PhasorReads', WHERE WHAT IT READS IS OF BULK AT MOST 1048576: true; the input reads as it did. -/
def phasorReadsUptoRow : OpenClaim := { program := "ytdmedhklcicpeaa", sum := "5663c5e89fa04e19e62df37e6d45d0643a3ea05675f7f5da0ca8afccc8beea5b", func := "metronome/metronomelaw03.PhasorReads", spec := "phasorReads", apart := false, narrowed := true }
def PhasorReadsUptoSaid : Prop := phasorReadsUptoRow.holds Try.pinned (OpenSpec.upto phasorReadsSpec)

/-- 'metronomelaw03.PhasorBack', WHERE WHAT IT READS IS OF BULK AT MOST 1048576: true; the input reads as it did. -/
def phasorBackUptoRow : OpenClaim := { program := "ytdmedhklcicpeaa", sum := "5663c5e89fa04e19e62df37e6d45d0643a3ea05675f7f5da0ca8afccc8beea5b", func := "metronome/metronomelaw03.PhasorBack", spec := "phasorBack", apart := false, narrowed := true }
def PhasorBackUptoSaid : Prop := phasorBackUptoRow.holds Try.pinned (OpenSpec.upto phasorBackSpec)

/-- 'metronomelaw03.PhasorNoise', WHERE WHAT IT READS IS OF BULK AT MOST 1048576: true; the input reads as it did. -/
def phasorNoiseUptoRow : OpenClaim := { program := "ytdmedhklcicpeaa", sum := "5663c5e89fa04e19e62df37e6d45d0643a3ea05675f7f5da0ca8afccc8beea5b", func := "metronome/metronomelaw03.PhasorNoise", spec := "phasorNoise", apart := false, narrowed := true }
def PhasorNoiseUptoSaid : Prop := phasorNoiseUptoRow.holds Try.pinned (OpenSpec.upto phasorNoiseSpec)

/-- 'metronomelaw03.PhasorTurns', WHERE WHAT IT READS IS OF BULK AT MOST 1048576: true; the input reads as it did. -/
def phasorTurnsUptoRow : OpenClaim := { program := "ytdmedhklcicpeaa", sum := "5663c5e89fa04e19e62df37e6d45d0643a3ea05675f7f5da0ca8afccc8beea5b", func := "metronome/metronomelaw03.PhasorTurns", spec := "phasorTurns", apart := false, narrowed := true }
def PhasorTurnsUptoSaid : Prop := phasorTurnsUptoRow.holds Try.pinned (OpenSpec.upto phasorTurnsSpec)

end Rows
end Go.Proofs.Ytdmedhklcicpeaa
