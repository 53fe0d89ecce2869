/-
  Contracts of the small functions of package bits: how many bytes bits need, the bit of a place in its byte, whether a width may be, whether a bit is 1. Conditions: the places and counts that each theorem names.
-/
import Derived.Test.YtlkmipcenlhacaaProg
import Derived.Test.YtlkmipcenlhacaaM
import Derived.WalkKit
import Derived.WalkSpells
import Derived.WalkLawsBesides
import Derived.Deep.QuietTactic
import Derived.BigQuiet
import Derived.IntWalk
namespace Go.Proofs.Ytlkmipcenlhacaa
open Go.RowKit

/-- The slice at A holds the bytes bs, in a block below n₀ (nil or empty where there are none). -/
def Byt (n₀ : Nat) (W : World) (A : Option Addr) (bs : List UInt8) : Prop :=
  bs ≠ [] → ∃ b off, A = some ⟨b, off, none⟩ ∧ b < n₀ ∧ ∀ j, j < bs.length → W.cell? ⟨b, off + j, none⟩ = some (.int .u8 (bs[j]?.getD 0).toNat)

theorem Byt.below {n₀ : Nat} {W W' : World} {A : Option Addr} {bs : List UInt8} (h : Byt n₀ W A bs) (hb : Below n₀ W W') : Byt n₀ W' A bs := fun hn => by
  obtain ⟨b, off, e, hlt, hc⟩ := h hn
  exact ⟨b, off, e, hlt, fun j hj => (hb.cell (p := ⟨b, off + j, none⟩) hlt).trans (hc j hj)⟩
theorem Byt.mono {n₀ n₁ : Nat} {W : World} {A : Option Addr} {bs : List UInt8} (h : Byt n₀ W A bs) (hn : n₀ ≤ n₁) : Byt n₁ W A bs := fun hb => by
  obtain ⟨b, off, e, hlt, hc⟩ := h hb
  exact ⟨b, off, e, Nat.lt_of_lt_of_le hlt hn, hc⟩

theorem below_drewN {B : Nat} {a w : World} (h : Below B a w) (n : Nat) : Below B a (w.drewN n) := ⟨h.os, h.tape, h.output, h.size, h.block⟩

theorem ret_bool {a b : Bool} (h : a = b) : Ending.returned (.bool a) = .returned (.bool b) := by rw [h]
theorem ret_int {k : IntKind} {a b : Int} (h : a = b) : Ending.returned (.int k a) = .returned (.int k b) := by rw [h]
theorem and_mask (x : UInt8) (k : Nat) (hk : k ≤ 7) : (bits .and .u8 (x.toNat : Int) (2 ^ k) != 0) = x.toNat.testBit k := by
  have hm : 2 ^ k < 2 ^ 8 := Nat.pow_lt_pow_right (by omega) (by omega)
  have hx := x.toNat_lt
  have e2 : (2 : Int) ^ k = ((2 ^ k : Nat) : Int) := by norm_cast
  rw [e2, u8_and_nat _ _ hx hm, nat_bit, Nat.testBit_eq_decide_div_mod_eq]
  have hp : 0 < 2 ^ k := Nat.pos_of_ne_zero (by simp)
  clear e2
  generalize 2 ^ k = q at *
  rcases Nat.mod_two_eq_zero_or_one (x.toNat / q) with h | h
  · simp [h]
  · simp [h]; omega
theorem xor_mask (x : UInt8) (k : Nat) (hk : k ≤ 7) : bits .xor .u8 (x.toNat : Int) (2 ^ k) = ((x ^^^ UInt8.ofNat (2 ^ k)).toNat : Int) := by
  have hm : 2 ^ k < 2 ^ 8 := Nat.pow_lt_pow_right (by omega) (by omega)
  have hx := x.toNat_lt
  have e2 : (2 : Int) ^ k = ((2 ^ k : Nat) : Int) := by norm_cast
  rw [e2, u8_xor_nat _ _ hx hm, UInt8.toNat_xor, UInt8.toNat_ofNat', Nat.mod_eq_of_lt hm]

theorem pow_mask (n : Int) (h0 : 0 ≤ n) : (2 : Int) ^ (7 - n % 8).toNat % 256 = ((2 ^ (7 - n.toNat % 8) : Nat) : Int) := by
  have e : (7 - n % 8).toNat = 7 - n.toNat % 8 := by omega
  rw [e]
  have hlt : 2 ^ (7 - n.toNat % 8) < 2 ^ 8 := Nat.pow_lt_pow_right (by omega) (by omega)
  have : ((2 : Int) ^ (7 - n.toNat % 8)) = ((2 ^ (7 - n.toNat % 8) : Nat) : Int) := by norm_cast
  rw [this]; generalize 2 ^ (7 - n.toNat % 8) = q at hlt; omega

end Go.Proofs.Ytlkmipcenlhacaa
