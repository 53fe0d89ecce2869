/-
  All of package bits tells the places and bits, each place among those that there are. No condition but that the bytes can be read.
-/
import Derived.Test.YtlmlbpnjkkfiaaaDoorJ1
namespace Go.Proofs.YtlmlbpnjkkfiaaaDoor
open Go.RowKit Go.Shelf
attribute [local go_sem] Oper.semAt_some

/-- A place among n, and a bit. -/
abbrev At (n : Nat) := { x : Nat × Bool // x.1 < n }
abbrev encS {n : Nat} (x : At n) : Array Value := #[Value.int .i64 (x.1.1 : Int), .bool x.1.2]
/-- A sequence that tells l, each place among its own. -/
abbrev TellsS (n gf : Nat) (lb : Array Value) (g ob : Nat) (l : List Bool) (w : World) : Prop :=
  SeqStopsK Fence.wide n Tryd.prog gf lb (encS (n := l.length)) (Keeps2 g ob) (fun ys => ys.map (·.1) = upto l l.length) (fun pre => ∃ k, k ≤ l.length ∧ pre.map (·.1) = upto l k) l.length w

/-- What All answers: a sequence that tells the truths. -/
def AllGivesS (w : World) (l : List Bool) (e : Ending) (w' : World) : Prop :=
  ∃ (gf : Nat) (lb : Array Value) (g ob : Nat), e = .returned (.func (.func gf) #[] lb) ∧ (∀ args w, (callFunc gf args).run Tryd.prog w = .ok (.enter gf args) w) ∧ (∀ n, 1 ≤ n → TellsS n gf lb g ob l w') ∧
    w.heap.size ≤ g ∧ w.heap.size ≤ ob ∧ g < w'.heap.size ∧ ob < w'.heap.size ∧ Below w.heap.size w w'

end Go.Proofs.YtlmlbpnjkkfiaaaDoor
