/-
  All of package bits tells the places and bits, rising, and nothing of bits that may not be. No condition but that the bytes can be read.
-/
import Derived.Test.YtnlmpemfpkmodaaE5
import Derived.RangeFuncNested
import Derived.RangeFuncBound
import Derived.RangeFuncCalls
import Derived.RangeFuncLeaves
import Derived.RangeFuncBox
import Derived.Shelf.Abstract
import Derived.Shelf.RegionOpen
import Derived.OwnWalkIn
import Derived.TacticsInMore
import Derived.LoopNIn
import Derived.LoopIn
import Derived.Maps.AppendAt
namespace Go.Proofs.Ytnlmpemfpkmodaa
open Go.RowKit Go.Shelf
attribute [local go_sem] Oper.semAt_some

/-- What has come when k rounds are over. -/
def upto (l : List Bool) (k : Nat) : List (Nat × Bool) := (List.range k).map fun j => (j, l[j]?.getD false)
theorem upto_succ (l : List Bool) (k : Nat) : upto l (k + 1) = upto l k ++ [(k, l[k]?.getD false)] := by simp [upto, List.range_succ]
theorem upto_length (l : List Bool) (k : Nat) : (upto l k).length = k := by simp [upto]
theorem upto_snd (l : List Bool) : (upto l l.length).map (·.2) = l := by
  apply List.ext_getElem
  · simp [upto]
  · intro i h1 h2; simp [upto, h2]

/-- What a round must keep: the iterator's own row and box. -/
def Keeps2 (g ob : Nat) (W W' : World) : Prop := W'.heap[g]? = W.heap[g]? ∧ W'.heap[ob]? = W.heap[ob]?
theorem Keeps2.trans {g ob : Nat} {A B C : World} (h : Keeps2 g ob A B) (k : Keeps2 g ob B C) : Keeps2 g ob A C := ⟨k.1.trans h.1, k.2.trans h.2⟩
theorem Keeps2.refl (g ob : Nat) (A : World) : Keeps2 g ob A A := ⟨rfl, rfl⟩
theorem keeps2_b {g ob : Nat} {w : World} (hg : g < w.heap.size) (ho : ob < w.heap.size) (W : World) (l : Nat) (o o' : Obj) (hl : w.heap.size ≤ l) (_ : W.heap[l]? = some o) (_ : o.isCells = false) (_ : o.isWalk = false) : Keeps2 g ob W (W.putObj l o') :=
  ⟨World.putObj_heap_other (by omega), World.putObj_heap_other (by omega)⟩

abbrev enc2 (x : Nat × Bool) : Array Value := #[Value.int .i64 (x.1 : Int), .bool x.2]
/-- A sequence that tells l. -/
abbrev Tells (n gf : Nat) (lb : Array Value) (g ob : Nat) (l : List Bool) (w : World) : Prop :=
  SeqStopsK Fence.wide n Try.prog gf lb enc2 (Keeps2 g ob) (fun ys => ys = upto l l.length) (fun pre => ∃ k, k ≤ l.length ∧ pre = upto l k) l.length w

/-- The truths of bits; none of bits that may not be. -/
def lst (N : Int) (bs : List UInt8) : List Bool := if goodB N bs = true then listOf N bs else []
theorem lst_length (N : Int) (bs : List UInt8) : (lst N bs).length ≤ 4096 := by
  unfold lst
  split
  · rename_i h
    have := good_length h
    have := (good_iff N bs).1 h
    omega
  · simp
/-- What All answers: a sequence that tells the truths. -/
def AllGives (w : World) (l : List Bool) (e : Ending) (w' : World) : Prop :=
  ∃ (gf : Nat) (lb : Array Value) (g ob : Nat), e = .returned (.func (.func gf) #[] lb) ∧ (∀ args w, (callFunc gf args).run Try.prog w = .ok (.enter gf args) w) ∧ (∀ n, 1 ≤ n → Tells n gf lb g ob l w') ∧
    w.heap.size ≤ g ∧ w.heap.size ≤ ob ∧ g < w'.heap.size ∧ ob < w'.heap.size ∧ Below w.heap.size w w'

end Go.Proofs.Ytnlmpemfpkmodaa
