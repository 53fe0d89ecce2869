/-
  Sums, differences and products of whole numbers in floating point words of 64 bits are exact while they stay below 2^53, over no program. Conditions: those bounds.
-/
import Derived.Test.YtdmedhklcicpeaaU1
namespace Go.Proofs.Ytdmedhklcicpeaa
open Ieee

/-- The word x stands for the whole number n. -/
def IsF (x : Nat) (n : Int) : Prop := ∃ (s : Bool) (m j : Nat), double.read x = .number s m (-(j : Int)) ∧ (if s then -(m : Int) else (m : Int)) = n * 2 ^ j
theorem pow_posi (j : Nat) : (0 : Int) < 2 ^ j := by exact_mod_cast Nat.two_pow_pos j
theorem isF_write (s : Bool) (m j : Nat) (n : Int) (h : (if s then -(m : Int) else (m : Int)) = n * 2 ^ j) (hn : n.natAbs < 2 ^ 53) : IsF (double.write (.number s m (-(j : Int)))) n := by
  have hm : m = n.natAbs * 2 ^ j := by
    have h1 := congrArg Int.natAbs h
    rw [Int.natAbs_mul, Int.natAbs_pow] at h1
    cases s <;> simpa using h1
  change IsF (double.nearest s m (-(j : Int))) n
  by_cases h0 : n = 0
  · subst h0
    have hm0 : m = 0 := by simpa using hm
    subst hm0
    refine ⟨s, 0, 1074, ?_, by rw [Int.zero_mul]; cases s <;> rfl⟩
    unfold Format.nearest
    rw [if_pos rfl]
    cases s <;> decide
  · have hv0 : n.natAbs ≠ 0 := by omega
    rw [hm, nearest_whole s _ j hv0 hn]
    have hr := read_whole s n.natAbs hv0 hn
    have hl := log2_le52 hn
    refine ⟨s, n.natAbs * 2 ^ (52 - n.natAbs.log2), 52 - n.natAbs.log2, ?_, ?_⟩
    · rw [hr]; congr 1; omega
    · have hp := pow_posi j
      have hsg : (if s then -(n.natAbs : Int) else (n.natAbs : Int)) = n := by
        rw [hm] at h
        push_cast at h
        cases s
        · simp only [Bool.false_eq_true, if_false] at h ⊢
          exact Int.eq_of_mul_eq_mul_right (Int.ne_of_gt hp) h
        · simp only [if_true] at h ⊢
          rw [← Int.neg_mul] at h
          exact Int.eq_of_mul_eq_mul_right (Int.ne_of_gt hp) h
      rw [← hsg]
      push_cast
      cases s
      · simp only [Bool.false_eq_true, if_false]
        rw [hsg.symm] at *
        simp
      · simp only [if_true]
        rw [Int.neg_mul]
        congr 2
        simp
theorem isF_int (n : Int) (hn : n.natAbs < 2 ^ 53) : IsF (FloatKind.f64.nearest n) n := by
  refine isF_write (decide (n < 0)) n.natAbs 0 n ?_ hn
  by_cases h : n < 0
  · simp [h]; omega
  · simp [h]; omega
theorem signed_eq (s : Bool) (m up : Nat) : signed s m up = (if s then -(m : Int) else (m : Int)) * 2 ^ up := by
  unfold signed
  rw [Nat.shiftLeft_eq]
  cases s
  · simp
  · simp [Int.neg_mul]
theorem sum_whole {a b : Int} (s : Bool) (m i : Nat) (t : Bool) (n j : Nat) (hx : (if s then -(m : Int) else (m : Int)) = a * 2 ^ i) (hy : (if t then -(n : Int) else (n : Int)) = b * 2 ^ j) :
    ∃ (s' : Bool) (m' k : Nat), Datum.sum (.number s m (-(i : Int))) (.number t n (-(j : Int))) = some (.number s' m' (-(k : Int))) ∧ (if s' then -(m' : Int) else (m' : Int)) = (a + b) * 2 ^ k := by
  have hbase : min (-(i : Int)) (-(j : Int)) = -((max i j : Nat) : Int) := by omega
  have e1 : (-(i : Int) - -((max i j : Nat) : Int)).toNat = max i j - i := by omega
  have e2 : (-(j : Int) - -((max i j : Nat) : Int)).toNat = max i j - j := by omega
  have htot : signed s m (max i j - i) + signed t n (max i j - j) = (a + b) * 2 ^ max i j := by
    rw [signed_eq, signed_eq, hx, hy, Int.mul_assoc, Int.mul_assoc, ← Int.pow_add, ← Int.pow_add, show i + (max i j - i) = max i j by omega, show j + (max i j - j) = max i j by omega, Int.add_mul]
  unfold Datum.sum
  simp only [hbase, e1, e2, htot]
  refine ⟨_, _, max i j, rfl, ?_⟩
  generalize (a + b) * 2 ^ max i j = T
  by_cases h0 : T = 0
  · subst h0; cases s <;> cases t <;> simp
  · rw [if_neg h0]
    by_cases hn : T < 0
    · simp [hn]; omega
    · simp [hn]; omega
theorem isF_add {x y : Nat} {a b : Int} (hx : IsF x a) (hy : IsF y b) (h : (a + b).natAbs < 2 ^ 53) : ∃ r, Format.add double x y = some r ∧ IsF r (a + b) := by
  obtain ⟨s, m, i, rx, vx⟩ := hx
  obtain ⟨t, n, j, ry, vy⟩ := hy
  obtain ⟨s', m', k, hs, hv⟩ := sum_whole s m i t n j vx vy
  refine ⟨_, ?_, isF_write s' m' k (a + b) hv h⟩
  unfold Format.add
  rw [rx, ry, hs]; rfl
theorem isF_sub {x y : Nat} {a b : Int} (hx : IsF x a) (hy : IsF y b) (h : (a - b).natAbs < 2 ^ 53) : ∃ r, Format.sub double x y = some r ∧ IsF r (a - b) := by
  obtain ⟨s, m, i, rx, vx⟩ := hx
  obtain ⟨t, n, j, ry, vy⟩ := hy
  have vy2 : (if (!t) then -(n : Int) else (n : Int)) = (-b) * 2 ^ j := by
    rw [Int.neg_mul, ← vy]; cases t <;> simp
  obtain ⟨s', m', k, hs, hv⟩ := sum_whole s m i (!t) n j vx vy2
  rw [← Int.sub_eq_add_neg] at hv
  refine ⟨_, ?_, isF_write s' m' k (a - b) hv h⟩
  unfold Format.sub
  rw [rx, ry]
  change (Datum.sum (.number s m (-(i : Int))) (.number (!t) n (-(j : Int)))).map _ = _
  rw [hs]; rfl
theorem isF_mul {x y : Nat} {a b : Int} (hx : IsF x a) (hy : IsF y b) (h : (a * b).natAbs < 2 ^ 53) : ∃ r, Format.mul double x y = some r ∧ IsF r (a * b) := by
  obtain ⟨s, m, i, rx, vx⟩ := hx
  obtain ⟨t, n, j, ry, vy⟩ := hy
  have hv : (if (s ^^ t) then -((m * n : Nat) : Int) else ((m * n : Nat) : Int)) = (a * b) * 2 ^ (i + j) := by
    have e : (a * b) * 2 ^ (i + j) = (a * 2 ^ i) * (b * 2 ^ j) := by rw [Int.pow_add]; simp [Int.mul_assoc, Int.mul_left_comm]
    rw [e, ← vx, ← vy]
    cases s <;> cases t <;> simp [Int.neg_mul, Int.mul_neg]
  refine ⟨_, ?_, isF_write (s ^^ t) (m * n) (i + j) (a * b) hv h⟩
  unfold Format.mul
  rw [rx, ry]
  change some (double.write (.number (s ^^ t) (m * n) (-(i : Int) + -(j : Int)))) = _
  congr 3
  omega
theorem cut_zero (neg : Bool) (n d : Nat) : Toward.zero.cut neg (n * 2 ^ d) d = n := by
  by_cases hn : n = 0
  · subst hn
    unfold Toward.cut
    rw [Nat.zero_mul]
    simp
  · have hm : min d ((n * 2 ^ d).log2 + 2) = d := by rw [log2_mul_pow n d hn]; omega
    unfold Toward.cut
    simp only [hm, Nat.one_shiftLeft]
    rw [Nat.mul_div_cancel _ (Nat.two_pow_pos d)]
    simp
theorem isF_toInt {x : Nat} {n : Int} (hx : IsF x n) (h : n.natAbs < 2 ^ 53) : floatToIntVal .f64 x .i64 = some n := by
  obtain ⟨s, m, j, rx, vx⟩ := hx
  have hm : m = n.natAbs * 2 ^ j := by
    have h1 := congrArg Int.natAbs vx
    rw [Int.natAbs_mul, Int.natAbs_pow] at h1
    cases s <;> simpa using h1
  have hp := pow_posi j
  have hsg : (if s then -(n.natAbs : Int) else (n.natAbs : Int)) = n := by
    rw [hm] at vx
    push_cast at vx
    cases s
    · simp only [Bool.false_eq_true, if_false] at vx ⊢
      exact Int.eq_of_mul_eq_mul_right (Int.ne_of_gt hp) vx
    · simp only [if_true] at vx ⊢
      rw [← Int.neg_mul] at vx
      exact Int.eq_of_mul_eq_mul_right (Int.ne_of_gt hp) vx
  have ht : (FloatKind.f64.decode x).toInt .zero = some n := by
    change Datum.toInt .zero (double.read x) = _
    rw [rx, hm]
    unfold Datum.toInt Datum.integral
    have e1 : (-(j : Int)).toNat = 0 := by omega
    have e2 : (- -(j : Int)).toNat = j := by omega
    simp only [e1, e2, Nat.shiftLeft_zero, cut_zero]
    rw [signed_eq, Int.pow_zero, Int.mul_one, hsg]
  unfold floatToIntVal
  rw [ht]
  have hb : IntKind.i64.min ≤ n ∧ n ≤ IntKind.i64.max := by
    have e3 : IntKind.i64.min = -9223372036854775808 := by decide
    have e4 : IntKind.i64.max = 9223372036854775807 := by decide
    rw [e3, e4]; omega
  simp only [hb, and_self, if_true]
theorem compare_mul (a b : Int) (k : Nat) : compare (a * 2 ^ k) (b * 2 ^ k) = compare a b := by
  have hp := pow_posi k
  rcases Int.lt_trichotomy a b with h | h | h
  · rw [Int.compare_eq_lt.2 h, Int.compare_eq_lt.2 (Int.mul_lt_mul_of_pos_right h hp)]
  · subst h; simp
  · rw [Int.compare_eq_gt.2 h, Int.compare_eq_gt.2 (Int.mul_lt_mul_of_pos_right h hp)]
theorem isF_order {x y : Nat} {a b : Int} (hx : IsF x a) (hy : IsF y b) : Format.order double x y = some (compare a b) := by
  obtain ⟨s, m, i, rx, vx⟩ := hx
  obtain ⟨t, n, j, ry, vy⟩ := hy
  have hbase : min (-(i : Int)) (-(j : Int)) = -((max i j : Nat) : Int) := by omega
  have e1 : (-(i : Int) - -((max i j : Nat) : Int)).toNat = max i j - i := by omega
  have e2 : (-(j : Int) - -((max i j : Nat) : Int)).toNat = max i j - j := by omega
  unfold Format.order
  rw [rx, ry]
  unfold Datum.order
  simp only [hbase, e1, e2]
  rw [signed_eq, signed_eq, vx, vy, Int.mul_assoc, Int.mul_assoc, ← Int.pow_add, ← Int.pow_add, show i + (max i j - i) = max i j by omega, show j + (max i j - j) = max i j by omega, compare_mul]
end Go.Proofs.Ytdmedhklcicpeaa
