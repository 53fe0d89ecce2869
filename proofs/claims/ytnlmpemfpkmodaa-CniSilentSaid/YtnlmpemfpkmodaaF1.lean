/-
  The document itself: Check and List. No condition but that the bytes can be read.
-/
import Derived.Test.YtnlmpemfpkmodaaE8
namespace Go.Proofs.Ytnlmpemfpkmodaa
open Go.RowKit

theorem shr_test (x j : Nat) : (((x : Int) / 2 ^ j).tmod 2 == 1) = x.testBit j := by
  have e : ((x : Int) / 2 ^ j) = ((x / 2 ^ j : Nat) : Int) := by norm_cast
  rw [e, Nat.testBit_eq_decide_div_mod_eq, Int.tmod_eq_emod_of_nonneg (Int.natCast_nonneg _)]
  rcases Nat.mod_two_eq_zero_or_one (x / 2 ^ j) with h | h
  · have h' : ((x / 2 ^ j : Nat) : Int) % 2 = 0 := by omega
    rw [h, h']; rfl
  · have h' : ((x / 2 ^ j : Nat) : Int) % 2 = 1 := by omega
    rw [h, h']; rfl

theorem Try.info4 : (Try.prog.info? 4).map (fun i => (i.zero, i.size, i.bytes)) = some (some (.bool false), 1, 1) := by kernel_rfl
/-- What the document's List answers. -/
def Truths (w : World) (l : List Bool) (e : Ending) (w' : World) : Prop := ∃ v, e = .returned v ∧ w'.ownsRow w.heap.size 4 1 v l.length (l.map Value.bool) ∧ Below w.heap.size w w'

theorem own_mono {w : World} {b b' : Nat} {e : TypeId} {size : Nat} {v : Value} {n : Nat} {xs : List Value} (h : w.ownsRow b e size v n xs) (hb : b' ≤ b) : w.ownsRow b' e size v n xs := by
  refine ⟨h.1, ?_⟩
  rcases h.2 with h2 | ⟨g, cap, cur, hv, hg, r⟩
  · exact .inl h2
  · exact .inr ⟨g, cap, cur, hv, Nat.le_trans hb hg, r⟩
theorem own_grown_low {w w' : World} {b : Nat} {e : TypeId} {size : Nat} {v : Value} {n : Nat} {xs : List Value} {o : Obj} (h : w.ownsRow b e size v n xs) (hg : (w.alloc o).grownBy w' v.ownBlock) (q : Nat) (hq : q < b) (hq2 : q < w.heap.size) : w'.heap[q]? = w.heap[q]? := by
  refine (hg.block q (by simp; omega) (fun e => ?_)).trans (Below.heap_alloc w o q hq2)
  have := (h.lt q e.symm).1
  omega
theorem own_below {w w' a : World} {b B : Nat} {e : TypeId} {size : Nat} {v : Value} {n : Nat} {xs : List Value} {o : Obj} (h : w.ownsRow b e size v n xs) (hg : (w.alloc o).grownBy w' v.ownBlock) (hB : Below B a w) (h1 : B ≤ b) (h2 : B ≤ w.heap.size) : Below B a w' :=
  (hB.alloc h2 o).grown hg (by simp; omega) (fun k ek => Nat.le_trans h1 (h.lt k ek).1)

theorem take_snoc_map (l : List Bool) (k : Nat) (h : k < l.length) : (l.take (k + 1)).map Value.bool = (l.take k).map Value.bool ++ [.bool (l[k]?.getD false)] := by
  rw [List.take_add_one, List.map_append, List.getElem?_eq_getElem h]; rfl

end Go.Proofs.Ytnlmpemfpkmodaa
