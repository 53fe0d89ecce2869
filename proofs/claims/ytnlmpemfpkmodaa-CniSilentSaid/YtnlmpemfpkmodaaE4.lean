/-
  Put of package bits answers as the document says, for all bits, numbers and widths. No condition but that the bytes can be read.
-/
import Derived.Test.YtnlmpemfpkmodaaE3
namespace Go.Proofs.Ytnlmpemfpkmodaa
open Go.RowKit

/-! ### A list that is painted from its head on -/
def paint (t : List Bool) (p : Nat) : List Bool := t.take p ++ List.replicate (t.length - p) false
theorem paint_length (t : List Bool) (p : Nat) (h : p ≤ t.length) : (paint t p).length = t.length := by simp [paint]; omega
theorem paint_get (t : List Bool) (p i : Nat) : (paint t p)[i]?.getD false = (decide (i < p) && t[i]?.getD false) := by
  unfold paint
  rw [List.getElem?_append, List.length_take]
  by_cases h : i < p
  · by_cases h2 : i < t.length
    · rw [if_pos (by omega), List.getElem?_take_of_lt h]; simp [h]
    · rw [if_neg (by omega), List.getElem?_replicate, List.getElem?_eq_none (l := t) (by omega)]
      split <;> simp
  · rw [if_neg (by omega), List.getElem?_replicate]
    split <;> simp [h]
theorem paint_full (t : List Bool) : paint t t.length = t := by simp [paint]
theorem paint_zero (t : List Bool) : paint t 0 = List.replicate t.length false := by simp [paint]
theorem paint_app (l r : List Bool) : paint (l ++ r) l.length = l ++ List.replicate r.length false := by simp [paint]
theorem paint_flip {t : List Bool} {p : Nat} {bs : List UInt8} (h : IsBits (paint t p) bs) (hp : p < t.length) (hb : t[p]?.getD false = true) : IsBits (paint t (p + 1)) (flipB bs p) := by
  have hl := paint_length t p (by omega)
  refine ⟨by rw [flipB_length, paint_length t (p + 1) (by omega), h.1, hl], fun i => ?_⟩
  rw [bitAt_flipB bs p i (by rw [h.1, hl]; omega), h.2, paint_get, paint_get]
  by_cases e : p = i
  · subst e; simp [hb]
  · have : decide (i < p + 1) = decide (i < p) := by rw [decide_eq_decide]; omega
    simp [e, this]
theorem paint_stay {t : List Bool} {p : Nat} {bs : List UInt8} (h : IsBits (paint t p) bs) (hp : p < t.length) (hb : t[p]?.getD false = false) : IsBits (paint t (p + 1)) bs := by
  have hl := paint_length t p (by omega)
  refine ⟨by rw [paint_length t (p + 1) (by omega), h.1, hl], fun i => ?_⟩
  rw [h.2, paint_get, paint_get]
  by_cases e : p = i
  · subst e; simp [hb]
  · have : decide (i < p + 1) = decide (i < p) := by rw [decide_eq_decide]; omega
    simp [this]

/-- The bytes lie in a block from B on. -/
def Fresh (B : Nat) (A : Option Addr) (bs : List UInt8) : Prop := ∀ a, A = some a → bs ≠ [] → B ≤ a.block
theorem Byt.set_low {n₀ B : Nat} {W : World} {A : Option Addr} {bs : List UInt8} (h : Byt n₀ W A bs) (hf : Fresh B A bs) {p : Addr} (hp : p.block < B) (u : Value) : Byt n₀ (W.setCell p u) A bs := fun hn => by
  obtain ⟨b, off, rfl, hlt, hc⟩ := h hn
  have hb := hf _ rfl hn
  exact ⟨b, off, rfl, hlt, fun j hj => (World.cell?_setCell_other W p _ u (fun e => by subst e; simp at hp hb; omega)).trans (hc j hj)⟩
/-- What a call answers: an error's number and bits, in memory that it may have made; all that was there stays. -/
def Res (w : World) (r : Int × List Bool) (e : Ending) (w' : World) : Prop :=
  ∃ (A : Option Addr) (n c : Nat) (bs : List UInt8), e = .returned (.tuple #[.agg #[.int .i64 r.2.length, .slice A n c], .int .i64 r.1]) ∧ n = bs.length ∧ IsBits r.2 bs ∧ r.2.length ≤ 4096 ∧ Byt w'.heap.size w' A bs ∧ Below w.heap.size w w' ∧ Fresh w.heap.size A bs
theorem res_err {w w' : World} (k : Int) (h : Below w.heap.size w w') : Res w (k, []) (.returned (.tuple #[.agg #[.int .i64 0, .slice none 0 0], .int .i64 k])) w' :=
  ⟨none, 0, 0, [], rfl, rfl, isBits_nil, by simp, fun h => absurd rfl h, h, fun _ _ h => absurd rfl h⟩

/-- A box of two cells. -/
theorem Blk.two {w : World} {g : Nat} {t : TypeId} {a b : Value} (h : Blk w g t #[a, b]) : w.cell? ⟨g, 0, none⟩ = some a ∧ w.cell? ⟨g, 1, none⟩ = some b ∧ w.frozen? ⟨g, 0, none⟩ = false ∧ w.frozen? ⟨g, 1, none⟩ = false :=
  ⟨by simpa using h.cell 0, by simpa using h.cell 1, h.frozen 0, h.frozen 1⟩
theorem Blk.put2 {w : World} {g : Nat} {t : TypeId} {a b : Value} (h : Blk w g t #[a, b]) (x y : Value) : Blk ((w.setCell ⟨g, 0, none⟩ x).setCell ⟨g, 1, none⟩ y) g t #[x, y] := by
  simpa using (h.set_ 0 x).set_ 1 y
theorem bit_test (v j : Nat) (hv : v < 2 ^ 64) : (bits .and .u64 ((v : Int) / 2 ^ j) 1 == 1) = v.testBit j := by
  have e : ((v : Int) / 2 ^ j) = ((v / 2 ^ j : Nat) : Int) := by norm_cast
  have hle : v / 2 ^ j ≤ v := Nat.div_le_self _ _
  rw [e, show (1 : Int) = ((1 : Nat) : Int) from rfl, u64_and_nat _ _ (by omega) (by omega), nat_mask1, Nat.testBit_eq_decide_div_mod_eq]
  rcases Nat.mod_two_eq_zero_or_one (v / 2 ^ j) with h | h <;> rw [h] <;> rfl
theorem numBits_get (l : List Bool) (v W N k : Nat) (hl : l.length = N) (hk : k < W) : (l ++ numBits v W)[N + k]?.getD false = v.testBit (W - 1 - k) := by
  subst hl
  rw [List.getElem?_append_right (by omega)]
  simp [numBits, hk]

/-- Put, by the document. -/
def putS (N : Int) (bs : List UInt8) (v : Nat) (width : Int) : Int × List Bool :=
  if goodB N bs = true then
    if (0 ≤ width ∧ width ≤ 64) ∧ v / 2 ^ width.toNat = 0 then
      if 4096 - N < width then (3, []) else (0, listOf N bs ++ numBits v width.toNat)
    else (2, [])
  else (10, [])

end Go.Proofs.Ytnlmpemfpkmodaa
