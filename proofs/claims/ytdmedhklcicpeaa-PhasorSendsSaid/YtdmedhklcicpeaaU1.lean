/-
  Whole numbers as floating point words of 64 bits, over no program: a whole number below 2^53 is written and read exactly. Conditions: those bounds.
-/
import Derived.Laws.FloatArith
namespace Go.Proofs.Ytdmedhklcicpeaa
open Ieee

theorem log2_le52 {v : Nat} (h : v < 2 ^ 53) : v.log2 ≤ 52 := by
  by_cases h0 : v = 0
  · subst h0; decide
  · have := (Nat.log2_lt h0).2 h; omega
theorem mul_pow_ne (v j : Nat) (h : v ≠ 0) : v * 2 ^ j ≠ 0 := Nat.mul_ne_zero h (Nat.ne_of_gt (Nat.two_pow_pos j))
theorem log2_mul_pow (v j : Nat) (h : v ≠ 0) : (v * 2 ^ j).log2 = v.log2 + j := by
  induction j with
  | zero => simp
  | succ j ih =>
    rw [Nat.pow_succ, ← Nat.mul_assoc, Nat.mul_comm _ 2, Nat.log2_two_mul (mul_pow_ne v j h), ih]; omega
theorem cut_exact (neg : Bool) (n d : Nat) : Toward.even.cut neg (n * 2 ^ d) d = n := by
  by_cases hn : n = 0
  · subst hn
    unfold Toward.cut
    rw [Nat.zero_mul]
    simp
  · have hm : min d ((n * 2 ^ d).log2 + 2) = d := by rw [log2_mul_pow n d hn]; omega
    unfold Toward.cut
    simp only [hm, Nat.one_shiftLeft]
    rw [Nat.mul_div_cancel _ (Nat.two_pow_pos d), Nat.mul_mod_left]
    have := Nat.two_pow_pos d
    have h1 : decide (2 ^ d < 2 * 0) = false := by simp
    have h2 : (2 ^ d == 2 * 0) = false := by rw [beq_eq_false_iff_ne]; omega
    rw [h1, h2]; simp
/-- A whole number's word: its value, whatever the digits behind the point that it is handed with. -/
theorem nearest_whole (s : Bool) (v j : Nat) (h0 : v ≠ 0) (hv : v < 2 ^ 53) : double.nearest s (v * 2 ^ j) (-(j : Int)) = double.word s ((v.log2 + 1022) * 2 ^ 52 + v * 2 ^ (52 - v.log2)) := by
  have hl := log2_le52 hv
  unfold Format.nearest
  rw [if_neg (mul_pow_ne v j h0), log2_mul_pow v j h0]
  have hlast : max (-(j : Int) + ((v.log2 + j : Nat) : Int) - ((52 : Nat) : Int)) double.leastPlace = (v.log2 : Int) - 52 := by
    have : double.leastPlace = -1074 := by decide
    rw [this]; omega
  have hfr : double.fractionBits = 52 := rfl
  simp only [hfr, hlast]
  have hle : double.leastPlace = -1074 := by decide
  have hbi : double.binade = 2 ^ 52 := by decide
  have hinf : double.infRung = 2047 * 2 ^ 52 := by decide
  have hkept : Toward.even.cut s ((v * 2 ^ j) <<< (-(j : Int) - ((v.log2 : Int) - 52)).toNat) (((v.log2 : Int) - 52) - -(j : Int)).toNat = v * 2 ^ (52 - v.log2) := by
    rw [Nat.shiftLeft_eq]
    by_cases hc : j ≤ 52 - v.log2
    · have e1 : (-(j : Int) - ((v.log2 : Int) - 52)).toNat = 52 - v.log2 - j := by omega
      have e2 : (((v.log2 : Int) - 52) - -(j : Int)).toNat = 0 := by omega
      rw [e1, e2, Nat.mul_assoc, ← Nat.pow_add, show j + (52 - v.log2 - j) = 52 - v.log2 by omega]
      have := cut_exact s (v * 2 ^ (52 - v.log2)) 0
      simpa using this
    · have e1 : (-(j : Int) - ((v.log2 : Int) - 52)).toNat = 0 := by omega
      have e2 : (((v.log2 : Int) - 52) - -(j : Int)).toNat = j - (52 - v.log2) := by omega
      rw [e1, e2, Nat.pow_zero, Nat.mul_one]
      have := cut_exact s (v * 2 ^ (52 - v.log2)) (j - (52 - v.log2))
      rw [Nat.mul_assoc, ← Nat.pow_add, show 52 - v.log2 + (j - (52 - v.log2)) = j by omega] at this
      exact this
  rw [hkept, hle, hbi, hinf]
  have hlog : v * 2 ^ (52 - v.log2) < 2 ^ 53 := by
    have h1 : v < 2 ^ (v.log2 + 1) := Nat.lt_log2_self
    have h2 : v * 2 ^ (52 - v.log2) < 2 ^ (v.log2 + 1) * 2 ^ (52 - v.log2) := Nat.mul_lt_mul_of_pos_right h1 (Nat.two_pow_pos _)
    rwa [← Nat.pow_add, show v.log2 + 1 + (52 - v.log2) = 53 by omega] at h2
  have e3 : (((v.log2 : Int) - 52) - -1074).toNat = v.log2 + 1022 := by omega
  rw [e3, Nat.min_eq_left]
  generalize v * 2 ^ (52 - v.log2) = k at *
  omega
/-- What it reads as. -/
theorem read_whole (s : Bool) (v : Nat) (h0 : v ≠ 0) (hv : v < 2 ^ 53) : double.read (double.word s ((v.log2 + 1022) * 2 ^ 52 + v * 2 ^ (52 - v.log2))) = .number s (v * 2 ^ (52 - v.log2)) ((v.log2 : Int) - 52) := by
  have hl := log2_le52 hv
  have hlo : 2 ^ 52 ≤ v * 2 ^ (52 - v.log2) := by
    have h1 : 2 ^ v.log2 ≤ v := Nat.log2_self_le h0
    have h2 : 2 ^ v.log2 * 2 ^ (52 - v.log2) ≤ v * 2 ^ (52 - v.log2) := Nat.mul_le_mul_right _ h1
    rwa [← Nat.pow_add, show v.log2 + (52 - v.log2) = 52 by omega] at h2
  have hhi : v * 2 ^ (52 - v.log2) < 2 ^ 53 := by
    have h1 : v < 2 ^ (v.log2 + 1) := Nat.lt_log2_self
    have h2 : v * 2 ^ (52 - v.log2) < 2 ^ (v.log2 + 1) * 2 ^ (52 - v.log2) := Nat.mul_lt_mul_of_pos_right h1 (Nat.two_pow_pos _)
    rwa [← Nat.pow_add, show v.log2 + 1 + (52 - v.log2) = 53 by omega] at h2
  generalize hk : v * 2 ^ (52 - v.log2) = k at *
  generalize v.log2 = g at *
  have hsw : double.signWeight = 2 ^ 63 := by decide
  have hle : double.leastPlace = -1074 := by decide
  have hbi : double.binade = 2 ^ 52 := by decide
  have hinf : double.infRung = 2047 * 2 ^ 52 := by decide
  have hr : ∀ W : Nat, W = (g + 1022) * 2 ^ 52 + k → W < 2 ^ 63 ∧ ¬ W < 2 ^ 52 ∧ W < 2047 * 2 ^ 52 ∧ 2 ^ 52 + W % 2 ^ 52 = k ∧ W / 2 ^ 52 = g + 1023 := fun W hW => by omega
  obtain ⟨W, hW⟩ : ∃ W, W = (g + 1022) * 2 ^ 52 + k := ⟨_, rfl⟩
  rw [← hW]
  obtain ⟨r1, r2, r3, r4, r5⟩ := hr W hW
  clear hr hW
  unfold Format.read Format.word
  rw [hsw, hle, hbi, hinf]
  cases s
  · simp only [Bool.false_eq_true, if_false]
    rw [Nat.mod_eq_of_lt r1, if_neg r2, if_pos r3, r4, r5, Nat.div_eq_of_lt r1]
    simp
    omega
  · simp only [if_true]
    have e1 : (2 ^ 63 + W) % 2 ^ 63 = W := by omega
    have e2 : (2 ^ 63 + W) / 2 ^ 63 = 1 := by omega
    rw [e1, e2, if_neg r2, if_pos r3, r4, r5]
    simp
    omega
end Go.Proofs.Ytdmedhklcicpeaa
