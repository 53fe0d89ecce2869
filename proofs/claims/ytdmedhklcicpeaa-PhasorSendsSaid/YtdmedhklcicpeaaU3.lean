/-
  Complex numbers whose parts are whole numbers, over no program: their sums, products and opposites in words of 64 bits are exact while they stay small. Conditions: those bounds.
-/
import Derived.Test.YtdmedhklcicpeaaU2
import Derived.Laws.ComplexArith
namespace Go.Proofs.Ytdmedhklcicpeaa
open Ieee

theorem isF_neg {x : Nat} {n : Int} (hx : IsF x n) : IsF (Op.negFloat .f64 x) (-n) := by
  obtain ⟨s, m, j, rx, vx⟩ := hx
  refine ⟨!s, m, j, ?_, ?_⟩
  · have hsw : double.signWeight = 2 ^ 63 := by decide
    have e0 : Op.negFloat .f64 x = x ^^^ 2 ^ 63 := rfl
    have e1 : (x ^^^ 2 ^ 63) % 2 ^ 63 = x % 2 ^ 63 := by
      rw [Nat.xor_mod_two_pow]; simp
    have e2 : (x ^^^ 2 ^ 63) / 2 ^ 63 = x / 2 ^ 63 ^^^ 1 := by
      rw [Nat.xor_div_two_pow]
    have e3 : ((x / 2 ^ 63 ^^^ 1) % 2 == 1) = !(x / 2 ^ 63 % 2 == 1) := by
      have h := Nat.xor_mod_two_pow (a := x / 2 ^ 63) (b := 1) (n := 1)
      rw [Nat.pow_one] at h
      rw [h]
      rcases Nat.mod_two_eq_zero_or_one (x / 2 ^ 63) with h | h <;> rw [h] <;> rfl
    rw [e0]
    unfold Format.read at rx ⊢
    rw [hsw] at rx ⊢
    simp only [e1, e2, e3]
    simp only at rx
    split at rx
    · rename_i h; rw [if_pos h]; injection rx with a b c; rw [a, b, c]
    · rename_i h
      rw [if_neg h]
      split at rx
      · rename_i h2; rw [if_pos h2]; injection rx with a b c; rw [a, b, c]
      · split at rx <;> cases rx
  · rw [Int.neg_mul, ← vx]; cases s <;> simp
theorem isF_zero : IsF 0 0 := ⟨false, 0, 1074, by decide, by rw [Int.zero_mul]; rfl⟩
theorem isF_one : IsF 4607182418800017408 1 := ⟨false, 2 ^ 52, 52, by decide, by decide⟩
theorem isF_minus : IsF 13830554455654793216 (-1) := ⟨true, 2 ^ 52, 52, by decide, by decide⟩

theorem prod_small {x u : Int} {B : Nat} (hx : x.natAbs ≤ B) (hu : u.natAbs ≤ B) : (x * u).natAbs ≤ B * B := by
  rw [Int.natAbs_mul]; exact Nat.mul_le_mul hx hu
theorem isC_mul {a b c d : Nat} {x y u v : Int} (ha : IsF a x) (hb : IsF b y) (hc : IsF c u) (hd : IsF d v) (hx : x.natAbs ≤ 2 ^ 24) (hy : y.natAbs ≤ 2 ^ 24) (hu : u.natAbs ≤ 2 ^ 24) (hv : v.natAbs ≤ 2 ^ 24) :
    ∃ re im, cMulBits a b c d = some (re, im) ∧ IsF re (x * u - y * v) ∧ IsF im (x * v + y * u) := by
  have h1 := prod_small hx hu
  have h2 := prod_small hy hv
  have h3 := prod_small hx hv
  have h4 := prod_small hy hu
  have h0 : (2 : Nat) ^ 24 * 2 ^ 24 = 281474976710656 := by decide
  rw [h0] at h1 h2 h3 h4
  obtain ⟨r1, e1, f1⟩ := isF_mul ha hc (by omega)
  obtain ⟨r2, e2, f2⟩ := isF_mul hb hd (by omega)
  obtain ⟨r3, e3, f3⟩ := isF_sub f1 f2 (by omega)
  obtain ⟨r4, e4, f4⟩ := isF_mul ha hd (by omega)
  obtain ⟨r5, e5, f5⟩ := isF_mul hb hc (by omega)
  obtain ⟨r6, e6, f6⟩ := isF_add f4 f5 (by omega)
  refine ⟨r3, r6, ?_, f3, f6⟩
  have g1 : floatBits .mul .f64 a c = some r1 := e1
  have g2 : floatBits .mul .f64 b d = some r2 := e2
  have g3 : floatBits .sub .f64 r1 r2 = some r3 := e3
  have g4 : floatBits .mul .f64 a d = some r4 := e4
  have g5 : floatBits .mul .f64 b c = some r5 := e5
  have g6 : floatBits .add .f64 r4 r5 = some r6 := e6
  unfold cMulBits
  simp only [g1, g2, g3, g4, g5, g6, Option.bind_some]
theorem isC_add {a b c d : Nat} {x y u v : Int} (ha : IsF a x) (hb : IsF b y) (hc : IsF c u) (hd : IsF d v) (hx : (x + u).natAbs < 2 ^ 53) (hy : (y + v).natAbs < 2 ^ 53) :
    ∃ re im, cSumBits .add .f64 a b c d = some (re, im) ∧ IsF re (x + u) ∧ IsF im (y + v) := by
  obtain ⟨r1, e1, f1⟩ := isF_add ha hc hx
  obtain ⟨r2, e2, f2⟩ := isF_add hb hd hy
  refine ⟨r1, r2, ?_, f1, f2⟩
  have g1 : floatBits .add .f64 a c = some r1 := e1
  have g2 : floatBits .add .f64 b d = some r2 := e2
  unfold cSumBits
  simp only [g1, g2, Option.bind_some]
end Go.Proofs.Ytdmedhklcicpeaa
