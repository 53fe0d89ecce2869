/-
  Flip of package bits answers as the document says, for all bits and places. No condition but that the bytes and the places can be read.
-/
import Derived.Test.YtnlmpemfpkmodaaH2
namespace Go.Proofs.Ytnlmpemfpkmodaa
open Go.RowKit

/-- The slice at A holds the places zs, in a block below n₀ (nil or empty where there are none). -/
def Ints (n₀ : Nat) (W : World) (A : Option Addr) (zs : List Int) : Prop :=
  zs ≠ [] → ∃ b off, A = some ⟨b, off, none⟩ ∧ b < n₀ ∧ ∀ j, j < zs.length → W.cell? ⟨b, off + j, none⟩ = some (.int .i64 (zs[j]?.getD 0))
theorem Ints.below {n₀ : Nat} {W W' : World} {A : Option Addr} {zs : List Int} (h : Ints n₀ W A zs) (hb : Below n₀ W W') : Ints n₀ W' A zs := fun hn => by
  obtain ⟨b, off, e, hlt, hc⟩ := h hn
  exact ⟨b, off, e, hlt, fun j hj => (hb.cell (p := ⟨b, off + j, none⟩) hlt).trans (hc j hj)⟩
theorem Ints.mono {n₀ n₁ : Nat} {W : World} {A : Option Addr} {zs : List Int} (h : Ints n₀ W A zs) (hn : n₀ ≤ n₁) : Ints n₁ W A zs := fun hb => by
  obtain ⟨b, off, e, hlt, hc⟩ := h hb
  exact ⟨b, off, e, Nat.lt_of_lt_of_le hlt hn, hc⟩
theorem Ints.at_ {n₀ : Nat} {W : World} {A : Option Addr} {zs : List Int} (h : Ints n₀ W A zs) {k : Nat} (hk : k < zs.length) :
    ∃ b off, A = some ⟨b, off, none⟩ ∧ b < n₀ ∧ W.cell? ⟨b, off + k, none⟩ = some (.int .i64 (zs[k]?.getD 0)) := by
  obtain ⟨b, off, e, hlt, hc⟩ := h (by rintro rfl; simp at hk)
  exact ⟨b, off, e, hlt, hc k hk⟩

/-- One bit turned. -/
def flip1 (l : List Bool) (i : Int) : List Bool := l.set i.toNat (!(l[i.toNat]?.getD false))
def okAt (N : Int) (zs : List Int) : Bool := zs.all fun i => decide (0 ≤ i) && decide (i < N)
def flips (l : List Bool) (zs : List Int) : List Bool := zs.foldl flip1 l
/-- Flip, by the document. -/
def flipS (N : Int) (bs : List UInt8) (zs : List Int) : Int × List Bool :=
  if goodB N bs = true then if okAt N zs = true then (0, flips (listOf N bs) zs) else (2, []) else (10, [])
theorem flip1_length (l : List Bool) (i : Int) : (flip1 l i).length = l.length := by simp [flip1]
theorem flips_length (zs : List Int) : ∀ l : List Bool, (flips l zs).length = l.length := by
  induction zs with
  | nil => intro l; rfl
  | cons z zs ih => intro l; show (flips (flip1 l z) zs).length = _; rw [ih, flip1_length]
theorem int_at (zs : List Int) (k : Nat) (h : k < zs.length) : zs.take (k + 1) = zs.take k ++ [zs[k]?.getD 0] := by
  rw [List.take_add_one, List.getElem?_eq_getElem h]; rfl
theorem flips_snoc (l : List Bool) (zs : List Int) (z : Int) : flips l (zs ++ [z]) = flip1 (flips l zs) z := by simp [flips]
theorem ok_snoc (N : Int) (zs : List Int) (z : Int) : okAt N (zs ++ [z]) = (okAt N zs && (decide (0 ≤ z) && decide (z < N))) := by simp [okAt]
theorem ok_not (N : Int) (zs : List Int) (k : Nat) (h : k < zs.length) (hb : ¬ (0 ≤ zs[k]?.getD 0 ∧ zs[k]?.getD 0 < N)) : okAt N zs = false := by
  unfold okAt
  rw [List.all_eq_false]
  refine ⟨zs[k], List.getElem_mem h, ?_⟩
  rw [List.getElem?_eq_getElem h] at hb
  simpa using hb

end Go.Proofs.Ytnlmpemfpkmodaa
