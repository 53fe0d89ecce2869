/-
  A region whose order Go leaves open, walked once, where each operation yields one value in all worlds that keep what was there. No condition.
-/
import Derived.Test.YtnlmpemfpkmodaaG3
namespace Go.Proofs.Ytnlmpemfpkmodaa
open Go.RowKit

/-- A world that keeps all that lay in w0. -/
structure NearW (w0 : World) where
  W : World
  h : Below w0.heap.size w0 W
instance (w0 : World) : Nonempty (NearW w0) := ⟨⟨w0, Below.refl _ _⟩⟩
theorem wp_region_near {P : Program} {id : Nat} {Q : Exit → Act → World → Prop} {a : Act} {w : World} {l : List Oper} (hm : P.follows .mixedOrders = true) (hB : Region.lexB .any l.toArray = true)
    (h : wpQuiet P l.toArray (fun w' => ∃ n : NearW w, w' = n.W) (fun a' => ∀ w', (∃ n : NearW w, w' = n.W) → Q .normal a' w') l a) : (Code.region id l.toArray true).wp P Q a w :=
  wp_region_quiet (C := fun w' => ∃ n : NearW w, w' = n.W) hm hB ⟨⟨_, (Below.refl _ w).drew⟩, rfl⟩ (by simpa using h)
theorem near_call {P : Program} {f : FuncId} {args : Array Value} {w0 : World} {n : NearW w0} {v : Value} (h : Calls P f args n.W fun e w' => e = .returned v ∧ Below n.W.heap.size n.W w') :
    Calls P f args n.W fun e w'' => e = .returned v ∧ ∃ m : NearW w0, w'' = m.W :=
  h.mono fun _ w' ⟨he, hb⟩ => ⟨he, ⟨w', n.h.trans (hb.mono n.h.size)⟩, rfl⟩
theorem near_byt {w0 : World} {A : Option Addr} {bs : List UInt8} (h : Byt w0.heap.size w0 A bs) (n : NearW w0) : Byt n.W.heap.size n.W A bs := (h.below n.h).mono n.h.size
theorem near_two {w0 : World} {g : Nat} {t : TypeId} {a b : Value} (h : Blk w0 g t #[a, b]) : (∀ n : NearW w0, n.W.cell? ⟨g, 0, none⟩ = some a) ∧ (∀ n : NearW w0, n.W.cell? ⟨g, 1, none⟩ = some b) :=
  ⟨fun n => (h.below n.h h.lt).two.1, fun n => (h.below n.h h.lt).two.2.1⟩
end Go.Proofs.Ytnlmpemfpkmodaa
