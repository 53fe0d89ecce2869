/-
  The document itself: Of. No condition but that the truths can be read.
-/
import Derived.Test.YtnlmpemfpkmodaaF1
namespace Go.Proofs.Ytnlmpemfpkmodaa
open Go.RowKit

/-- The slice at A holds the truths l, in a block below n₀ (nil or empty where there are none). -/
def Bools (n₀ : Nat) (W : World) (A : Option Addr) (l : List Bool) : Prop :=
  l ≠ [] → ∃ b off, A = some ⟨b, off, none⟩ ∧ b < n₀ ∧ ∀ j, j < l.length → W.cell? ⟨b, off + j, none⟩ = some (.bool (l[j]?.getD false))
theorem Bools.below {n₀ : Nat} {W W' : World} {A : Option Addr} {l : List Bool} (h : Bools n₀ W A l) (hb : Below n₀ W W') : Bools n₀ W' A l := fun hn => by
  obtain ⟨b, off, e, hlt, hc⟩ := h hn
  exact ⟨b, off, e, hlt, fun j hj => (hb.cell (p := ⟨b, off + j, none⟩) hlt).trans (hc j hj)⟩
theorem Bools.mono {n₀ n₁ : Nat} {W : World} {A : Option Addr} {l : List Bool} (h : Bools n₀ W A l) (hn : n₀ ≤ n₁) : Bools n₁ W A l := fun hb => by
  obtain ⟨b, off, e, hlt, hc⟩ := h hb
  exact ⟨b, off, e, Nat.lt_of_lt_of_le hlt hn, hc⟩
theorem Bools.at_ {n₀ : Nat} {W : World} {A : Option Addr} {l : List Bool} (h : Bools n₀ W A l) {k : Nat} (hk : k < l.length) :
    ∃ b off, A = some ⟨b, off, none⟩ ∧ b < n₀ ∧ W.cell? ⟨b, off + k, none⟩ = some (.bool (l[k]?.getD false)) := by
  obtain ⟨b, off, e, hlt, hc⟩ := h (by rintro rfl; simp at hk)
  exact ⟨b, off, e, hlt, hc k hk⟩
theorem bools_of_own {w : World} {base : Nat} {v : Value} {k : Nat} {l : List Bool} (h : w.ownsRow base 4 1 v k (l.map Value.bool)) : ∃ A c, v = .slice A l.length c ∧ Bools w.heap.size w A l := by
  have hk : l.length = k := by have := h.1; simpa using this
  rcases h.2 with ⟨rfl, h0⟩ | ⟨g, cap, cur, rfl, _, hh, _⟩
  · exact ⟨none, 0, by rw [hk, h0], fun hne => absurd (List.eq_nil_of_length_eq_zero (hk.trans h0)) hne⟩
  · refine ⟨some ⟨g, 0, none⟩, cap, by rw [hk], fun _ => ⟨g, 0, rfl, (Array.getElem?_eq_some_iff.1 hh).1, fun j hj => ?_⟩⟩
    have := h.cells (g := g) rfl j (.bool (l[j]?.getD false)) (by simp [hj])
    rwa [addr_add] at this

theorem or_mask (x : UInt8) (k : Nat) (hk : k ≤ 7) (h : x.toNat.testBit k = false) : bits .or .u8 (x.toNat : Int) (2 ^ k) = ((x ^^^ UInt8.ofNat (2 ^ k)).toNat : Int) := by
  have hm : 2 ^ k < 2 ^ 8 := Nat.pow_lt_pow_right (by omega) (by omega)
  have hx := x.toNat_lt
  have e2 : (2 : Int) ^ k = ((2 ^ k : Nat) : Int) := by norm_cast
  rw [e2, u8_or_nat _ _ hx hm, UInt8.toNat_xor, UInt8.toNat_ofNat', Nat.mod_eq_of_lt hm]
  congr 1
  apply Nat.eq_of_testBit_eq
  intro i
  rw [Nat.testBit_or, Nat.testBit_xor, Nat.testBit_two_pow]
  by_cases e : k = i
  · subst e; simp [h]
  · simp [e]

theorem pow256 (j : Nat) (h : j ≤ 7) : (2 : Int) ^ j % 256 = 2 ^ j := by
  have hlt : 2 ^ j < 2 ^ 8 := Nat.pow_lt_pow_right (by omega) (by omega)
  have e : (2 : Int) ^ j = ((2 ^ j : Nat) : Int) := by norm_cast
  rw [e]; generalize 2 ^ j = q at hlt; omega
/-- Of, by the document. -/
def ofS (l : List Bool) : Int × List Bool := if 4096 < l.length then (3, []) else (0, l)

end Go.Proofs.Ytnlmpemfpkmodaa
