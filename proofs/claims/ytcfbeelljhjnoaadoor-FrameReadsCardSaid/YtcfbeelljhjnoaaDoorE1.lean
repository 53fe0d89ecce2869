/-
  Contracts of the small functions of package bits: how many bytes bits need, the bit of a place in its byte, whether a width may be, whether a bit is 1. Conditions: the places and counts that each theorem names.
-/
import Derived.Test.YtcfbeelljhjnoaaDoorProg
import Derived.Test.YtcfbeelljhjnoaaDoorM
import Derived.WalkKit
import Derived.WalkSpells
import Derived.WalkLawsBesides
import Derived.Deep.QuietTactic
import Derived.BigQuiet
import Derived.IntWalk
namespace Go.Proofs.YtcfbeelljhjnoaaDoor
open Go.RowKit

/-- The slice at A holds the bytes bs, in a block below n₀ (nil or empty where there are none). -/
def Byt (n₀ : Nat) (W : World) (A : Option Addr) (bs : List UInt8) : Prop :=
  bs ≠ [] → ∃ b off, A = some ⟨b, off, none⟩ ∧ b < n₀ ∧ ∀ j, j < bs.length → W.cell? ⟨b, off + j, none⟩ = some (.int .u8 (bs[j]?.getD 0).toNat)

theorem Byt.below {n₀ : Nat} {W W' : World} {A : Option Addr} {bs : List UInt8} (h : Byt n₀ W A bs) (hb : Below n₀ W W') : Byt n₀ W' A bs := fun hn => by
  obtain ⟨b, off, e, hlt, hc⟩ := h hn
  exact ⟨b, off, e, hlt, fun j hj => (hb.cell (p := ⟨b, off + j, none⟩) hlt).trans (hc j hj)⟩
theorem Byt.mono {n₀ n₁ : Nat} {W : World} {A : Option Addr} {bs : List UInt8} (h : Byt n₀ W A bs) (hn : n₀ ≤ n₁) : Byt n₁ W A bs := fun hb => by
  obtain ⟨b, off, e, hlt, hc⟩ := h hb
  exact ⟨b, off, e, Nat.lt_of_lt_of_le hlt hn, hc⟩

theorem below_drewN {B : Nat} {a w : World} (h : Below B a w) (n : Nat) : Below B a (w.drewN n) := ⟨h.os, h.tape, h.output, h.size, h.block⟩

theorem ret_bool {a b : Bool} (h : a = b) : Ending.returned (.bool a) = .returned (.bool b) := by rw [h]
theorem ret_int {k : IntKind} {a b : Int} (h : a = b) : Ending.returned (.int k a) = .returned (.int k b) := by rw [h]
theorem and_mask (x : UInt8) (k : Nat) (hk : k ≤ 7) : (bits .and .u8 (x.toNat : Int) (2 ^ k) != 0) = x.toNat.testBit k := by
  have hm : 2 ^ k < 2 ^ 8 := Nat.pow_lt_pow_right (by omega) (by omega)
  have hx := x.toNat_lt
  have e2 : (2 : Int) ^ k = ((2 ^ k : Nat) : Int) := by norm_cast
  rw [e2, u8_and_nat _ _ hx hm, nat_bit, Nat.testBit_eq_decide_div_mod_eq]
  have hp : 0 < 2 ^ k := Nat.pos_of_ne_zero (by simp)
  clear e2
  generalize 2 ^ k = q at *
  rcases Nat.mod_two_eq_zero_or_one (x.toNat / q) with h | h
  · simp [h]
  · simp [h]; omega
theorem xor_mask (x : UInt8) (k : Nat) (hk : k ≤ 7) : bits .xor .u8 (x.toNat : Int) (2 ^ k) = ((x ^^^ UInt8.ofNat (2 ^ k)).toNat : Int) := by
  have hm : 2 ^ k < 2 ^ 8 := Nat.pow_lt_pow_right (by omega) (by omega)
  have hx := x.toNat_lt
  have e2 : (2 : Int) ^ k = ((2 ^ k : Nat) : Int) := by norm_cast
  rw [e2, u8_xor_nat _ _ hx hm, UInt8.toNat_xor, UInt8.toNat_ofNat', Nat.mod_eq_of_lt hm]

set_option maxRecDepth 4000 in
set_option maxHeartbeats 400000 in
theorem byteCount_any (n : Int) (w : World) (h0 : 0 ≤ n) (h1 : n ≤ 8192) :
    Calls Tryd.prog 71 #[.int .i64 n] w fun e w' => e = .returned (.int .i64 ((n + 7) / 8)) ∧ w = w' := by
  go_enter Tryd.func71, Tryd.ntmps71
  go_wp2
  go_ret
  exact ⟨by rw [show n + 7 = n + 8 - 1 by omega]; rfl, rfl⟩

theorem pow_mask (n : Int) (h0 : 0 ≤ n) : (2 : Int) ^ (7 - n % 8).toNat % 256 = ((2 ^ (7 - n.toNat % 8) : Nat) : Int) := by
  have e : (7 - n % 8).toNat = 7 - n.toNat % 8 := by omega
  rw [e]
  have hlt : 2 ^ (7 - n.toNat % 8) < 2 ^ 8 := Nat.pow_lt_pow_right (by omega) (by omega)
  have : ((2 : Int) ^ (7 - n.toNat % 8)) = ((2 ^ (7 - n.toNat % 8) : Nat) : Int) := by norm_cast
  rw [this]; generalize 2 ^ (7 - n.toNat % 8) = q at hlt; omega

set_option maxRecDepth 4000 in
set_option maxHeartbeats 400000 in
theorem mask_any (n : Int) (w : World) (h0 : 0 ≤ n) (h1 : n ≤ 8192) :
    Calls Tryd.prog 86 #[.int .i64 n] w fun e w' => e = .returned (.int .u8 (2 ^ (7 - n.toNat % 8) : Nat)) ∧ w = w' := by
  go_enter Tryd.func86, Tryd.ntmps86
  go_wp2
  go_ret
  exact ⟨by rw [← pow_mask n h0]; rfl, rfl⟩

set_option maxRecDepth 4000 in
set_option maxHeartbeats 400000 in
theorem isWidth_yes (n : Int) (w : World) (h0 : 0 ≤ n) (h1 : n ≤ 64) :
    Calls Tryd.prog 81 #[.int .i64 n] w fun e w' => e = .returned (.bool true) ∧ w = w' := by
  have h2 : decide (n ≤ 64) = true := by simpa using h1
  go_enter Tryd.func81, Tryd.ntmps81
  go_wp2
  go_ret
  exact ⟨rfl, rfl⟩
set_option maxRecDepth 4000 in
set_option maxHeartbeats 400000 in
theorem isWidth_no (n : Int) (w : World) (h : ¬ (0 ≤ n ∧ n ≤ 64)) :
    Calls Tryd.prog 81 #[.int .i64 n] w fun e w' => e = .returned (.bool false) ∧ w = w' := by
  by_cases h0 : 0 ≤ n
  · have h2 : decide (n ≤ 64) = false := by simp; omega
    clear h
    go_enter Tryd.func81, Tryd.ntmps81
    go_wp2
    go_ret
    exact ⟨rfl, rfl⟩
  · clear h
    go_enter Tryd.func81, Tryd.ntmps81
    go_wp2
    go_ret
    exact ⟨rfl, rfl⟩

set_option maxRecDepth 4000 in
set_option maxHeartbeats 400000 in
theorem isOne_at (N i : Int) (b off n c : Nat) (x : UInt8) (w : World) (h0 : 0 ≤ i) (h1 : i ≤ 8192) (hi : i / 8 < n) (hc : w.cell? ⟨b, off + (i / 8).toNat, none⟩ = some (.int .u8 x.toNat)) (hb : b < w.heap.size) :
    Calls Tryd.prog 72 #[.agg #[.int .i64 N, .slice (some ⟨b, off, none⟩) n c], .int .i64 i] w fun e w' => e = .returned (.bool (x.toNat.testBit (7 - i.toNat % 8))) ∧ Below w.heap.size w w' := by
  have hx := x.toNat_lt
  have hi0 : 0 ≤ i / 8 := by omega
  go_enter Tryd.func72, Tryd.ntmps72
  go_wp2
  go_quiet ((go_at_call 86; exact Calls.quiet_of_same ((mask_any _ _ h0 h1).mono fun _ _ ⟨a, b⟩ => ⟨a, b.symm⟩)))
  go_wp2
  go_ret
  exact ⟨ret_bool (and_mask x _ (by omega)), below_drewN ((Below.refl _ _).alloc (Nat.le_refl _) _) _⟩

end Go.Proofs.YtcfbeelljhjnoaaDoor
