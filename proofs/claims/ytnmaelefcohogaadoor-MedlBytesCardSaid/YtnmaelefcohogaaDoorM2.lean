/-
  Bytes that a writer of package medl has put together: numbers with the highest byte first, in memory of its own. Condition: that each theorem names.
-/
import Derived.Test.YtnmaelefcohogaaDoorMM
import Derived.Test.YtnmaelefcohogaaDoorMY
import Derived.Deep.AppendLies
import Derived.Deep.RegionLaw
import Derived.Deep.Cut
namespace Go.Proofs.YtnmaelefcohogaaDoor
open Go.RowKit

/-- A number's bytes, the highest first. -/
def beB (n width : Nat) : List UInt8 := (List.range width).map fun i => UInt8.ofNat (n / 2 ^ (8 * (width - 1 - i)))
theorem beB_length (n width : Nat) : (beB n width).length = width := by simp [beB]
theorem u8_nat (m : Nat) : IntKind.u8.wrap (m : Int) = ((UInt8.ofNat m).toNat : Int) := by
  have h1 : IntKind.u8.bits = 8 := rfl
  have h2 : IntKind.u8.signed = false := rfl
  simp [IntKind.wrap, h1, h2]
theorem byte_of (n j : Nat) : IntKind.u8.wrap ((n : Int) / 2 ^ ((j : Int) * 8).toNat) = ((UInt8.ofNat (n / 2 ^ (8 * j))).toNat : Int) := by
  rw [show ((j : Int) * 8).toNat = 8 * j by omega, ← u8_nat]
  congr 1
/-- Bytes as cells. -/
abbrev cellsB (l : List UInt8) : List Value := l.map fun x => Value.int .u8 (x.toNat : Int)
/-- The writer at g has put the bytes l. -/
def Wr (B g : Nat) (l : List UInt8) (W : World) : Prop :=
  ∃ A c, Blk W g 38 #[.slice A l.length c] ∧ W.ownsRow B 5 1 (.slice A l.length c) l.length (cellsB l)
/-- What is as it was. -/
def Kp (g : Nat) (W W' : World) : Prop := Below g W W' ∧ ∀ b t cs, Blk W b t cs → t ≠ 5 → t ≠ 38 → Blk W' b t cs
theorem Kp.refl (g : Nat) (W : World) : Kp g W W := ⟨Below.refl _ _, fun _ _ _ h _ _ => h⟩
theorem Kp.trans {g : Nat} {a b c : World} (h : Kp g a b) (k : Kp g b c) : Kp g a c := ⟨h.1.trans k.1, fun _ _ _ x t1 t2 => k.2 _ _ _ (h.2 _ _ _ x t1 t2) t1 t2⟩
theorem own_lt_types {W : World} {b g : Nat} {e t : TypeId} {v : Value} {n : Nat} {xs : List Value} {cs : Array Value} (h : W.ownsRow b e 1 v n xs) (k : Blk W g t cs) (hne : t ≠ e) : some g ≠ v.ownBlock := by
  intro he
  rcases h.2 with ⟨rfl, _⟩ | ⟨g', cap, cur, rfl, _, hg, _⟩
  · cases he
  · simp only [Value.ownBlock, Option.some.injEq] at he
    subst he
    unfold Blk at k
    rw [hg] at k
    injection k with k
    injection k with _ h2 _
    exact hne h2.symm
/-- Behind one more byte. -/
theorem Wr.step {B g : Nat} {l : List UInt8} {W w1 : World} {tmp : Obj} {A : Option Addr} {c : Nat} {x : UInt8} {v' : Value} (hgB : g < B) (hB : B ≤ W.heap.size)
    (hb : Blk W g 38 #[.slice A l.length c]) (ho : W.ownsRow B 5 1 (.slice A l.length c) l.length (cellsB l))
    (hg : (W.alloc tmp).grownBy w1 (Value.slice A l.length c).ownBlock) (hn : w1.ownsRow B 5 1 v' (l.length + 1) (cellsB l ++ [Value.int .u8 (x.toNat : Int)])) :
    Wr B g (l ++ [x]) (w1.setCell ⟨g, 0, none⟩ v') ∧ Kp g W (w1.setCell ⟨g, 0, none⟩ v') ∧ w1.cell? ⟨g, 0, none⟩ = some (.slice A l.length c) ∧ w1.frozen? ⟨g, 0, none⟩ = false := by
  have hbel : Below B W w1 := own_below ho hg (Below.refl _ _) (Nat.le_refl _) hB
  have hb1 := hb.below hbel hgB
  obtain ⟨A', c', rfl⟩ := own_slice hn
  refine ⟨⟨A', c', ?_, ?_⟩, ⟨?_, fun b t cs k t1 t2 => ?_⟩, by simpa using hb1.cell 0, hb1.frozen 0⟩
  · have := hb1.set_ 0 (.slice A' (l.length + 1) c')
    simpa using this
  · have := put_row (j := 0) hn hgB (.slice A' (l.length + 1) c')
    simpa [cellsB] using this
  · exact Below.off (hbel.mono (Nat.le_of_lt hgB)) (by have := hbel.size; omega) (by dsimp only; omega) (only_setCell (World.grownBy.refl _ _) (.inl rfl) _)
  · have hne : b ≠ g := k.ne_type hb t2
    have k1 : Blk w1 b t cs := (k.alloc tmp).grown hg (own_lt_types ho k t1)
    exact k1.far (by dsimp only; exact hne) _
end Go.Proofs.YtnmaelefcohogaaDoor
