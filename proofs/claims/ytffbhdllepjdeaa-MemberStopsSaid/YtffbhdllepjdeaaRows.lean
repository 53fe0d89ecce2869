/-
  No cell of these rows narrows 'for every input' (looked for: loops, veiled, ifaces, maps, wideKeys, modest, calm, conditions, laid).
  DERIVED. THE GIVEN ROWS OF THIS SEAT. 8 by the template 'for every input the law returns true; each argument reads behind the call as it read before'; 0 by the template 'total and deterministic' (their statements: YtffbhdllepjdeaaTotals.lean).
  GIVEN WITH THE SEED: the statements are not yours to turn. If you find one false, say at which input.
  Laid BY PROGRAM, IN A SANDBOX (cutbox-rows.mjs): the forced cells as the released guide's own fill.sh prints them over the translation 0f0931be14bacb86… (all of the seat's roots in one cut). By AI agents, Wed Nov 11 2026. No macro, syntax, notation, axiom, sorry.
-/
import Derived.Test.YtffbhdllepjdeaaChecked
import GoSem.Claim
import GoSem.ClaimJoined
import GoSem.ClaimMapViews
import Derived.JoinedTies
import Derived.KernelRfl
namespace Go.Proofs.Ytffbhdllepjdeaa
/- THE CELL 'sum', in the pinned program and in every row, IS THE sha256 OF THE DUMP (.gsa) THAT YtffbhdllepjdeaaProg.lean LOADS. Nothing in Lean hashes anything: it is a label: what it is worth is what the hold of that sum in a sandbox is worth. -/
noncomputable def Try.pinned : Pinned := { name := "ytffbhdllepjdeaa", sum := "0f0931be14bacb869138cd2773cc2ccf1416899f577719a629a3b2c530f7fa7b", checked := Try.checked }
namespace Rows
def none {H : Type} : Left H := { results := [], args := [] }

/-- 'metronomelaw09.MemberViews': WHATEVER THE INPUT: true; the input reads as it did. -/
def memberViewsSpec : ChangeSpec := { name := "memberViews", fn := fun _ => fun
  | [d1, d2, d3, d4, d5, d6] => { results := [.lit (.bool true)], args := [d1, d2, d3, d4, d5, d6] }
  | _ => none }
def memberViewsRow : OpenClaim := { program := "ytffbhdllepjdeaa", sum := "0f0931be14bacb869138cd2773cc2ccf1416899f577719a629a3b2c530f7fa7b", func := "metronome/metronomelaw09.MemberViews", spec := "memberViews", unfollowed := true, recurses := true, apart := false }
def MemberViewsSaid : Prop := memberViewsRow.holds Try.pinned (OpenSpec.ofChange memberViewsSpec)

/-- ITS FALSE NEIGHBOUR: 'it returns false'. Refute it at one input. -/
def memberViewsWrong : ChangeSpec := { name := "memberViews", fn := fun _ => fun
  | [d1, d2, d3, d4, d5, d6] => { results := [.lit (.bool false)], args := [d1, d2, d3, d4, d5, d6] }
  | _ => none }
def MemberViewsWrongFalsely : Prop := memberViewsRow.holds Try.pinned (OpenSpec.ofChange memberViewsWrong)

/-- 'metronomelaw09.MemberFrames': WHATEVER THE INPUT: true; the input reads as it did. -/
def memberFramesSpec : ChangeSpec := { name := "memberFrames", fn := fun _ => fun
  | [d1, d2, d3] => { results := [.lit (.bool true)], args := [d1, d2, d3] }
  | _ => none }
def memberFramesRow : OpenClaim := { program := "ytffbhdllepjdeaa", sum := "0f0931be14bacb869138cd2773cc2ccf1416899f577719a629a3b2c530f7fa7b", func := "metronome/metronomelaw09.MemberFrames", spec := "memberFrames", unfollowed := true, recurses := true, apart := false }
def MemberFramesSaid : Prop := memberFramesRow.holds Try.pinned (OpenSpec.ofChange memberFramesSpec)

/-- ITS FALSE NEIGHBOUR: 'it returns false'. Refute it at one input. -/
def memberFramesWrong : ChangeSpec := { name := "memberFrames", fn := fun _ => fun
  | [d1, d2, d3] => { results := [.lit (.bool false)], args := [d1, d2, d3] }
  | _ => none }
def MemberFramesWrongFalsely : Prop := memberFramesRow.holds Try.pinned (OpenSpec.ofChange memberFramesWrong)

/-- 'metronomelaw09.MemberOwn': WHATEVER THE INPUT: true; the input reads as it did. -/
def memberOwnSpec : ChangeSpec := { name := "memberOwn", fn := fun _ => fun
  | [d] => { results := [.lit (.bool true)], args := [d] }
  | _ => none }
def memberOwnRow : OpenClaim := { program := "ytffbhdllepjdeaa", sum := "0f0931be14bacb869138cd2773cc2ccf1416899f577719a629a3b2c530f7fa7b", func := "metronome/metronomelaw09.MemberOwn", spec := "memberOwn", unfollowed := true, recurses := true, apart := false }
def MemberOwnSaid : Prop := memberOwnRow.holds Try.pinned (OpenSpec.ofChange memberOwnSpec)

/-- ITS FALSE NEIGHBOUR: 'it returns false'. Refute it at one input. -/
def memberOwnWrong : ChangeSpec := { name := "memberOwn", fn := fun _ => fun
  | [d] => { results := [.lit (.bool false)], args := [d] }
  | _ => none }
def MemberOwnWrongFalsely : Prop := memberOwnRow.holds Try.pinned (OpenSpec.ofChange memberOwnWrong)

/-- 'metronomelaw09.MemberMay': WHATEVER THE INPUT: true; the input reads as it did. -/
def memberMaySpec : ChangeSpec := { name := "memberMay", fn := fun _ => fun
  | [d1, d2, d3] => { results := [.lit (.bool true)], args := [d1, d2, d3] }
  | _ => none }
def memberMayRow : OpenClaim := { program := "ytffbhdllepjdeaa", sum := "0f0931be14bacb869138cd2773cc2ccf1416899f577719a629a3b2c530f7fa7b", func := "metronome/metronomelaw09.MemberMay", spec := "memberMay", unfollowed := true, recurses := true, apart := false }
def MemberMaySaid : Prop := memberMayRow.holds Try.pinned (OpenSpec.ofChange memberMaySpec)

/-- ITS FALSE NEIGHBOUR: 'it returns false'. Refute it at one input. -/
def memberMayWrong : ChangeSpec := { name := "memberMay", fn := fun _ => fun
  | [d1, d2, d3] => { results := [.lit (.bool false)], args := [d1, d2, d3] }
  | _ => none }
def MemberMayWrongFalsely : Prop := memberMayRow.holds Try.pinned (OpenSpec.ofChange memberMayWrong)

/-- 'metronomelaw09.MemberAgree': WHATEVER THE INPUT: true; the input reads as it did. -/
def memberAgreeSpec : ChangeSpec := { name := "memberAgree", fn := fun _ => fun
  | [d1, d2, d3, d4] => { results := [.lit (.bool true)], args := [d1, d2, d3, d4] }
  | _ => none }
def memberAgreeRow : OpenClaim := { program := "ytffbhdllepjdeaa", sum := "0f0931be14bacb869138cd2773cc2ccf1416899f577719a629a3b2c530f7fa7b", func := "metronome/metronomelaw09.MemberAgree", spec := "memberAgree", unfollowed := true, recurses := true, apart := false }
def MemberAgreeSaid : Prop := memberAgreeRow.holds Try.pinned (OpenSpec.ofChange memberAgreeSpec)

/-- ITS FALSE NEIGHBOUR: 'it returns false'. Refute it at one input. -/
def memberAgreeWrong : ChangeSpec := { name := "memberAgree", fn := fun _ => fun
  | [d1, d2, d3, d4] => { results := [.lit (.bool false)], args := [d1, d2, d3, d4] }
  | _ => none }
def MemberAgreeWrongFalsely : Prop := memberAgreeRow.holds Try.pinned (OpenSpec.ofChange memberAgreeWrong)

/-- 'metronomelaw09.MemberTold': WHATEVER THE INPUT: true; the input reads as it did. -/
def memberToldSpec : ChangeSpec := { name := "memberTold", fn := fun _ => fun
  | [d1, d2, d3, d4] => { results := [.lit (.bool true)], args := [d1, d2, d3, d4] }
  | _ => none }
def memberToldRow : OpenClaim := { program := "ytffbhdllepjdeaa", sum := "0f0931be14bacb869138cd2773cc2ccf1416899f577719a629a3b2c530f7fa7b", func := "metronome/metronomelaw09.MemberTold", spec := "memberTold", unfollowed := true, recurses := true, apart := false }
def MemberToldSaid : Prop := memberToldRow.holds Try.pinned (OpenSpec.ofChange memberToldSpec)

/-- ITS FALSE NEIGHBOUR: 'it returns false'. Refute it at one input. -/
def memberToldWrong : ChangeSpec := { name := "memberTold", fn := fun _ => fun
  | [d1, d2, d3, d4] => { results := [.lit (.bool false)], args := [d1, d2, d3, d4] }
  | _ => none }
def MemberToldWrongFalsely : Prop := memberToldRow.holds Try.pinned (OpenSpec.ofChange memberToldWrong)

/-- 'metronomelaw09.MemberGoes': WHATEVER THE INPUT: true; the input reads as it did. -/
def memberGoesSpec : ChangeSpec := { name := "memberGoes", fn := fun _ => fun
  | [d1, d2, d3, d4] => { results := [.lit (.bool true)], args := [d1, d2, d3, d4] }
  | _ => none }
def memberGoesRow : OpenClaim := { program := "ytffbhdllepjdeaa", sum := "0f0931be14bacb869138cd2773cc2ccf1416899f577719a629a3b2c530f7fa7b", func := "metronome/metronomelaw09.MemberGoes", spec := "memberGoes", unfollowed := true, recurses := true, apart := false }
def MemberGoesSaid : Prop := memberGoesRow.holds Try.pinned (OpenSpec.ofChange memberGoesSpec)

/-- ITS FALSE NEIGHBOUR: 'it returns false'. Refute it at one input. -/
def memberGoesWrong : ChangeSpec := { name := "memberGoes", fn := fun _ => fun
  | [d1, d2, d3, d4] => { results := [.lit (.bool false)], args := [d1, d2, d3, d4] }
  | _ => none }
def MemberGoesWrongFalsely : Prop := memberGoesRow.holds Try.pinned (OpenSpec.ofChange memberGoesWrong)

/-- 'metronomelaw09.MemberStops': WHATEVER THE INPUT: true; the input reads as it did. -/
def memberStopsSpec : ChangeSpec := { name := "memberStops", fn := fun _ => fun
  | [d1, d2, d3] => { results := [.lit (.bool true)], args := [d1, d2, d3] }
  | _ => none }
def memberStopsRow : OpenClaim := { program := "ytffbhdllepjdeaa", sum := "0f0931be14bacb869138cd2773cc2ccf1416899f577719a629a3b2c530f7fa7b", func := "metronome/metronomelaw09.MemberStops", spec := "memberStops", unfollowed := true, recurses := true, apart := false }
def MemberStopsSaid : Prop := memberStopsRow.holds Try.pinned (OpenSpec.ofChange memberStopsSpec)

/-- ITS FALSE NEIGHBOUR: 'it returns false'. Refute it at one input. -/
def memberStopsWrong : ChangeSpec := { name := "memberStops", fn := fun _ => fun
  | [d1, d2, d3] => { results := [.lit (.bool false)], args := [d1, d2, d3] }
  | _ => none }
def MemberStopsWrongFalsely : Prop := memberStopsRow.holds Try.pinned (OpenSpec.ofChange memberStopsWrong)

/- THE SECOND FORM. 'bulk': how many values and letters a reading holds, each counted each time it is reached (what is shared counts as often as it is met; a slice's spare places count too). A statement '..UptoSaid' is the law's where the arguments, and the package variables that the reading takes, are together of bulk at most 1048576: NARROWER than '..Said'. Prove '..Said' where nothing that the law and all that it calls make is longer than what came in: it says more and counts as full. Else prove '..UptoSaid'. A law counts once. -/
mutual
def uptoBulk {H : Type} : DataW H → Nat
  | .lit (.string bytes) => bytes.length + 1
  | .lit _ => 1
  | .nil => 1
  | .ptr d => uptoBulk d + 1
  | .slice elems spare => uptoBulkAll elems + uptoBulkAll spare + 1
  | .agg parts => uptoBulkAll parts + 1
  | .iface _ d => uptoBulk d + 1
  | .map entries => uptoBulkEntries entries + 1
  | .held _ => 1
def uptoBulkAll {H : Type} : List (DataW H) → Nat
  | [] => 0
  | d :: r => uptoBulk d + uptoBulkAll r
def uptoBulkEntries {H : Type} : List (Lit × DataW H) → Nat
  | [] => 0
  | x :: r => uptoBulkEntry x + uptoBulkEntries r
def uptoBulkEntry {H : Type} : Lit × DataW H → Nat
  | (.string bytes, d) => bytes.length + uptoBulk d + 1
  | (_, d) => uptoBulk d + 1
 end
def uptoSmall : (H : Type) → List (DataW H) → Bool := fun _ ds => decide (uptoBulkAll ds ≤ 1048576)
def OpenSpec.upto (s : _root_.Go.ChangeSpec) : _root_.Go.OpenSpec := { _root_.Go.OpenSpec.ofChange s with cond := some uptoSmall }

/-- 'metronomelaw09.MemberViews', WHERE WHAT IT READS IS OF BULK AT MOST 1048576: true; the input reads as it did. -/
def memberViewsUptoRow : OpenClaim := { program := "ytffbhdllepjdeaa", sum := "0f0931be14bacb869138cd2773cc2ccf1416899f577719a629a3b2c530f7fa7b", func := "metronome/metronomelaw09.MemberViews", spec := "memberViews", unfollowed := true, recurses := true, apart := false, narrowed := true }
def MemberViewsUptoSaid : Prop := memberViewsUptoRow.holds Try.pinned (OpenSpec.upto memberViewsSpec)

/-- 'metronomelaw09.MemberFrames', WHERE WHAT IT READS IS OF BULK AT MOST 1048576: true; the input reads as it did. -/
def memberFramesUptoRow : OpenClaim := { program := "ytffbhdllepjdeaa", sum := "0f0931be14bacb869138cd2773cc2ccf1416899f577719a629a3b2c530f7fa7b", func := "metronome/metronomelaw09.MemberFrames", spec := "memberFrames", unfollowed := true, recurses := true, apart := false, narrowed := true }
def MemberFramesUptoSaid : Prop := memberFramesUptoRow.holds Try.pinned (OpenSpec.upto memberFramesSpec)

/-- 'metronomelaw09.MemberOwn', WHERE WHAT IT READS IS OF BULK AT MOST 1048576: true; the input reads as it did. -/
def memberOwnUptoRow : OpenClaim := { program := "ytffbhdllepjdeaa", sum := "0f0931be14bacb869138cd2773cc2ccf1416899f577719a629a3b2c530f7fa7b", func := "metronome/metronomelaw09.MemberOwn", spec := "memberOwn", unfollowed := true, recurses := true, apart := false, narrowed := true }
def MemberOwnUptoSaid : Prop := memberOwnUptoRow.holds Try.pinned (OpenSpec.upto memberOwnSpec)

/-- 'metronomelaw09.MemberMay', WHERE WHAT IT READS IS OF BULK AT MOST 1048576: true; the input reads as it did. -/
def memberMayUptoRow : OpenClaim := { program := "ytffbhdllepjdeaa", sum := "0f0931be14bacb869138cd2773cc2ccf1416899f577719a629a3b2c530f7fa7b", func := "metronome/metronomelaw09.MemberMay", spec := "memberMay", unfollowed := true, recurses := true, apart := false, narrowed := true }
def MemberMayUptoSaid : Prop := memberMayUptoRow.holds Try.pinned (OpenSpec.upto memberMaySpec)

/-- 'metronomelaw09.MemberAgree', WHERE WHAT IT READS IS OF BULK AT MOST 1048576: true; the input reads as it did. -/
def memberAgreeUptoRow : OpenClaim := { program := "ytffbhdllepjdeaa", sum := "0f0931be14bacb869138cd2773cc2ccf1416899f577719a629a3b2c530f7fa7b", func := "metronome/metronomelaw09.MemberAgree", spec := "memberAgree", unfollowed := true, recurses := true, apart := false, narrowed := true }
def MemberAgreeUptoSaid : Prop := memberAgreeUptoRow.holds Try.pinned (OpenSpec.upto memberAgreeSpec)

/-- 'metronomelaw09.MemberTold', WHERE WHAT IT READS IS OF BULK AT MOST 1048576: true; the input reads as it did. -/
def memberToldUptoRow : OpenClaim := { program := "ytffbhdllepjdeaa", sum := "0f0931be14bacb869138cd2773cc2ccf1416899f577719a629a3b2c530f7fa7b", func := "metronome/metronomelaw09.MemberTold", spec := "memberTold", unfollowed := true, recurses := true, apart := false, narrowed := true }
def MemberToldUptoSaid : Prop := memberToldUptoRow.holds Try.pinned (OpenSpec.upto memberToldSpec)

/-- 'metronomelaw09.MemberGoes', WHERE WHAT IT READS IS OF BULK AT MOST 1048576: true; the input reads as it did. -/
def memberGoesUptoRow : OpenClaim := { program := "ytffbhdllepjdeaa", sum := "0f0931be14bacb869138cd2773cc2ccf1416899f577719a629a3b2c530f7fa7b", func := "metronome/metronomelaw09.MemberGoes", spec := "memberGoes", unfollowed := true, recurses := true, apart := false, narrowed := true }
def MemberGoesUptoSaid : Prop := memberGoesUptoRow.holds Try.pinned (OpenSpec.upto memberGoesSpec)

/-- 'metronomelaw09.MemberStops', WHERE WHAT IT READS IS OF BULK AT MOST 1048576: true; the input reads as it did. -/
def memberStopsUptoRow : OpenClaim := { program := "ytffbhdllepjdeaa", sum := "0f0931be14bacb869138cd2773cc2ccf1416899f577719a629a3b2c530f7fa7b", func := "metronome/metronomelaw09.MemberStops", spec := "memberStops", unfollowed := true, recurses := true, apart := false, narrowed := true }
def MemberStopsUptoSaid : Prop := memberStopsUptoRow.holds Try.pinned (OpenSpec.upto memberStopsSpec)

end Rows
end Go.Proofs.Ytffbhdllepjdeaa
