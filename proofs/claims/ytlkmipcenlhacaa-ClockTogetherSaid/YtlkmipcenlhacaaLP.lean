/-
  Clocks that go through a round together, in plain Lean: where each is, what each saw, and how far they are apart behind it. No condition. (Stage 13; laid ahead.)
-/
import Derived.Test.YtlkmipcenlhacaaLA
namespace Go.Proofs.Ytlkmipcenlhacaa
open Go.RowKit

/-- By how much a clock has drifted in its first k slots. -/
def drI (d : Nat → Nat → Int) (i : Nat) : Nat → Int
  | 0 => 0
  | k + 1 => drI d i k + d k i
theorem drI_in {d : Nat → Nat → Int} {D : Int} (h : ∀ k i, -D ≤ d k i ∧ d k i ≤ D) (i k : Nat) : -((k : Int) * D) ≤ drI d i k ∧ drI d i k ≤ (k : Int) * D := by
  induction k with
  | zero => simp [drI]
  | succ k ih =>
    have h2 := h k i
    have e : ((k + 1 : Nat) : Int) * D = (k : Int) * D + D := by rw [Int.natCast_succ, Int.add_mul, Int.one_mul]
    show -(((k + 1 : Nat) : Int) * D) ≤ drI d i k + d k i ∧ drI d i k + d k i ≤ ((k + 1 : Nat) : Int) * D
    rw [e]; omega
/-- Where a clock's k-th slot begins. -/
def stI (S : Int) (o : Nat → Int) (d : Nat → Nat → Int) (i k : Nat) : Int := o i + (k : Int) * S + drI d i k
theorem stI_succ (S : Int) (o : Nat → Int) (d : Nat → Nat → Int) (i k : Nat) : stI S o d i (k + 1) = stI S o d i k + S + d k i := by
  unfold stI
  rw [Int.natCast_succ, Int.add_mul, Int.one_mul]
  show o i + ((k : Int) * S + S) + (drI d i k + d k i) = _
  omega
/-- What a clock saw in the first k slots. -/
def devsI (S : Int) (o : Nat → Int) (d : Nat → Nat → Int) (i k : Nat) : List Int := (List.range k).flatMap fun j => if j = i then [] else [stI S o d j j - stI S o d i j]
theorem devsI_own (S : Int) (o : Nat → Int) (d : Nat → Nat → Int) (k : Nat) : devsI S o d k (k + 1) = devsI S o d k k := by
  unfold devsI; rw [List.range_succ, List.flatMap_append]; simp
theorem devsI_other (S : Int) (o : Nat → Int) (d : Nat → Nat → Int) {i k : Nat} (h : i ≠ k) : devsI S o d i (k + 1) = devsI S o d i k ++ [stI S o d k k - stI S o d i k] := by
  unfold devsI; rw [List.range_succ, List.flatMap_append]; simp [Ne.symm h]
theorem devsI_zero (S : Int) (o : Nat → Int) (d : Nat → Nat → Int) (i : Nat) : devsI S o d i 0 = [] := rfl
theorem devsI_length (S : Int) (o : Nat → Int) (d : Nat → Nat → Int) (i k : Nat) : (devsI S o d i k).length ≤ k := by
  induction k with
  | zero => simp [devsI]
  | succ k ih =>
    by_cases h : i = k
    · subst h; rw [devsI_own]; omega
    · rw [devsI_other S o d h, List.length_append]; simp; omega
theorem devsI_mem {S : Int} {o : Nat → Int} {d : Nat → Nat → Int} {i k : Nat} {x : Int} (h : x ∈ devsI S o d i k) : ∃ j, j < k ∧ x = stI S o d j j - stI S o d i j := by
  unfold devsI at h
  obtain ⟨j, hj, hx⟩ := List.mem_flatMap.1 h
  refine ⟨j, List.mem_range.1 hj, ?_⟩
  split at hx
  · cases hx
  · simpa using hx
/-- A clock at the beginning of slot k, which saw what was sent in the first q slots. -/
def ckI (S : Int) (o : Nat → Int) (d : Nat → Nat → Int) (i k q : Nat) : Ck := ⟨stI S o d i k, k, devsI S o d i q⟩
/-- A clock behind the round. -/
def finI (S : Int) (o : Nat → Int) (d : Nat → Nat → Int) (N i : Nat) : Ck := ⟨stI S o d i N + byK (ckI S o d i N N), N, []⟩
/-- What a round's clocks are asked for: a list that may be, beginnings no further apart than the precision, drifts that may be. -/
structure TgOk (m : ML) (a : Int) (o : Nat → Int) (d : Nat → Nat → Int) : Prop where
  ok : okM m
  a0 : 0 ≤ a ∧ a ≤ 549755813888
  o0 : ∀ i, a ≤ o i ∧ o i ≤ a + (14 * m.N * m.D + 8)
  dd : ∀ k i, -m.D ≤ d k i ∧ d k i ≤ m.D
theorem tg_st {m : ML} {a : Int} {o : Nat → Int} {d : Nat → Nat → Int} (h : TgOk m a o d) (i k : Nat) (hk : k ≤ 8) : 0 ≤ stI m.S o d i k ∧ stI m.S o d i k ≤ 549755813888 + 8000 + 134218240 := by
  obtain ⟨hN, hD, hL, hW, hG, hS, -, -⟩ := okM_nums h.ok
  have hdr := drI_in h.dd i k
  have ho := h.o0 i
  have ha := h.a0
  have e1 : 14 * m.N * m.D = 14 * (m.N * m.D) := by rw [Int.mul_assoc]
  have h1 : m.N * m.D ≤ 8 * 64 := Int.mul_le_mul hN.2 hD.2 hD.1 (by omega)
  have h2 : (k : Int) * m.D ≤ (k : Int) * m.S := Int.mul_le_mul_of_nonneg_left (by omega) (by omega)
  have h3 : (k : Int) * m.S ≤ 8 * 16777216 := Int.mul_le_mul (by omega) hS.2 (by omega) (by omega)
  have h4 : (k : Int) * m.D ≤ 8 * 64 := Int.mul_le_mul (by omega) hD.2 hD.1 (by omega)
  have h5 : 0 ≤ (k : Int) * m.D := Int.mul_nonneg (by omega) hD.1
  unfold stI
  rw [e1] at ho
  omega
theorem tg_dev {m : ML} {a : Int} {o : Nat → Int} {d : Nat → Nat → Int} (h : TgOk m a o d) (i j : Nat) (hj : (j : Int) < m.N) : -m.W ≤ stI m.S o d j j - stI m.S o d i j ∧ stI m.S o d j j - stI m.S o d i j ≤ m.W := by
  obtain ⟨hN, hD, -, -, -, -, hW, -⟩ := okM_nums h.ok
  have h1 := drI_in h.dd i j
  have h2 := drI_in h.dd j j
  have ho := h.o0 i
  have ho2 := h.o0 j
  have e1 : 14 * m.N * m.D = 14 * (m.N * m.D) := by rw [Int.mul_assoc]
  have e2 : 16 * m.N * m.D = 16 * (m.N * m.D) := by rw [Int.mul_assoc]
  have h3 : (j : Int) * m.D ≤ m.N * m.D := Int.mul_le_mul_of_nonneg_right (by omega) hD.1
  unfold stI
  rw [e1] at ho ho2
  rw [e2] at hW
  omega
theorem tg_ok {m : ML} {a : Int} {o : Nat → Int} {d : Nat → Nat → Int} (h : TgOk m a o d) (i k q : Nat) (hk : (k : Int) ≤ m.N) (hq : (q : Int) ≤ m.N) : okCk m.W (ckI m.S o d i k q) := by
  obtain ⟨hN, -, -, -, -, -, -, -⟩ := okM_nums h.ok
  have h1 := tg_st h i k (by omega)
  have h2 := devsI_length m.S o d i q
  refine ⟨⟨⟨h1.1, by show stI m.S o d i k ≤ _; omega⟩, by show 0 ≤ (k : Int); omega, by show (k : Int) ≤ _; omega⟩, by show (devsI m.S o d i q).length ≤ 8; omega, fun z hz => ?_⟩
  obtain ⟨j, hj, e⟩ := devsI_mem (nth_mem hz)
  show -m.W ≤ nth (devsI m.S o d i q) z ∧ nth (devsI m.S o d i q) z ≤ m.W
  rw [e]
  exact tg_dev h i j (by omega)
theorem tg_send {m : ML} {a : Int} {o : Nat → Int} {d : Nat → Nat → Int} (h : TgOk m a o d) (i k q : Nat) (hk : (k : Int) ≤ m.N) (hq : (q : Int) ≤ m.N) : sendK m (ckI m.S o d i k q) = (0, stI m.S o d i k + m.G) := by
  unfold sendK; rw [if_pos (chkK_zero.2 ⟨h.ok, tg_ok h i k q hk hq⟩)]; rfl
theorem tg_see {m : ML} {a : Int} {o : Nat → Int} {d : Nat → Nat → Int} (h : TgOk m a o d) (i k : Nat) (hk : (k : Int) < m.N) (hi : i ≠ k) : seeK m (ckI m.S o d i k k) (stI m.S o d k k + m.G + m.L) = (0, ckI m.S o d i k (k + 1)) := by
  obtain ⟨hN, -, hL, -, hG, -, -, -⟩ := okM_nums h.ok
  have h1 := tg_st h k k (by omega)
  have h2 := tg_dev h i k hk
  have h3 := devsI_length m.S o d i k
  unfold seeK
  rw [if_pos (chkK_zero.2 ⟨h.ok, tg_ok h i k k (by omega) (by omega)⟩), if_pos]
  · unfold ckI expK
    dsimp only
    rw [devsI_other m.S o d hi]
    congr 4
    omega
  · unfold expK ckI
    dsimp only
    refine ⟨by omega, by omega, by omega⟩
theorem tg_gone {m : ML} {a : Int} {o : Nat → Int} {d : Nat → Nat → Int} (h : TgOk m a o d) (i k : Nat) (hk : (k : Int) + 1 < m.N) : nextK m (ckI m.S o d i k (k + 1)) (d k i) = (0, ckI m.S o d i (k + 1) (k + 1)) := by
  obtain ⟨hN, -, -, -, -, -, -, -⟩ := okM_nums h.ok
  have e : goneK m (ckI m.S o d i k (k + 1)) (d k i) = ckI m.S o d i (k + 1) (k + 1) := by
    unfold goneK ckI
    dsimp only
    rw [if_neg (by rw [Int.emod_eq_of_lt (by omega) (by omega)]; omega), stI_succ]
    simp
  unfold nextK
  rw [if_pos (chkK_zero.2 ⟨h.ok, tg_ok h i k (k + 1) (by omega) (by omega)⟩), if_pos (h.dd k i), e, if_pos (tg_ok h i (k + 1) (k + 1) (by omega) (by omega))]
theorem tg_last {m : ML} {a : Int} {o : Nat → Int} {d : Nat → Nat → Int} (h : TgOk m a o d) (i k : Nat) (hk : ((k + 1 : Nat) : Int) = m.N) : nextK m (ckI m.S o d i k (k + 1)) (d k i) = (0, finI m.S o d (k + 1) i) := by
  obtain ⟨hN, hD, hL, hW, hG, hS, -, -⟩ := okM_nums h.ok
  have hby : byK (ckI m.S o d i k (k + 1)) = byK (ckI m.S o d i (k + 1) (k + 1)) := rfl
  have hbi := byK_in (tg_ok h i k (k + 1) (by omega) (by omega)) (by omega)
  have h1 := tg_st h i k (by omega)
  have h2 := h.dd k i
  have e : goneK m (ckI m.S o d i k (k + 1)) (d k i) = finI m.S o d (k + 1) i := by
    unfold goneK finI
    rw [show (ckI m.S o d i k (k + 1)).sl + 1 = m.N by show (k : Int) + 1 = m.N; omega, Int.emod_self, if_pos rfl, stI_succ, hby, ← hk]
    rfl
  unfold nextK
  rw [if_pos (chkK_zero.2 ⟨h.ok, tg_ok h i k (k + 1) (by omega) (by omega)⟩), if_pos h2, e, if_pos]
  refine ⟨⟨⟨?_, ?_⟩, by show 0 ≤ ((k + 1 : Nat) : Int); omega, by show ((k + 1 : Nat) : Int) ≤ _; omega⟩, by show ([] : List Int).length ≤ 8; simp, fun z hz => by exact absurd hz (Nat.not_lt_zero _)⟩
  · show 0 ≤ stI m.S o d i (k + 1) + byK (ckI m.S o d i (k + 1) (k + 1))
    rw [stI_succ, ← hby]; omega
  · show stI m.S o d i (k + 1) + byK (ckI m.S o d i (k + 1) (k + 1)) ≤ _
    rw [stI_succ, ← hby]; omega
/-- What a clock saw of each, and nothing of itself. -/
def allI (S : Int) (o : Nat → Int) (d : Nat → Nat → Int) (i N : Nat) : List Int := (List.range N).map fun j => if j = i then 0 else stI S o d j j - stI S o d i j
theorem allI_perm (S : Int) (o : Nat → Int) (d : Nat → Nat → Int) (i : Nat) : ∀ N, (i < N → (0 :: devsI S o d i N).Perm (allI S o d i N)) ∧ (N ≤ i → devsI S o d i N = allI S o d i N) := by
  intro N
  induction N with
  | zero => exact ⟨fun h => absurd h (Nat.not_lt_zero _), fun _ => rfl⟩
  | succ N ih =>
    have ha : allI S o d i (N + 1) = allI S o d i N ++ [if N = i then 0 else stI S o d N N - stI S o d i N] := by unfold allI; rw [List.range_succ, List.map_append]; rfl
    refine ⟨fun h => ?_, fun h => ?_⟩
    · rw [ha]
      by_cases e : i = N
      · subst e
        rw [devsI_own, if_pos rfl, ← ih.2 (Nat.le_refl _)]
        exact (List.perm_append_comm (l₁ := devsI S o d i i) (l₂ := [0])).symm
      · rw [devsI_other S o d e, if_neg (fun h => e h.symm)]
        exact (ih.1 (by omega)).append_right _
    · rw [ha, devsI_other S o d (by omega), if_neg (by omega), ih.2 (by omega)]
theorem allI_length (S : Int) (o : Nat → Int) (d : Nat → Nat → Int) (i N : Nat) : (allI S o d i N).length = N := by simp [allI]
theorem allI_near {m : ML} {a : Int} {o : Nat → Int} {d : Nat → Nat → Int} (h : TgOk m a o d) (i j N : Nat) (hN : (N : Int) = m.N) (hj : j < N) (z : Nat) (hz : z < N) : nth ((allI m.S o d i N).map (· + o i)) z ≤ nth ((allI m.S o d j N).map (· + o j)) z + 2 * (m.N * m.D) := by
  have hD := (okM_nums h.ok).2.1
  rw [nth_map _ _ _ (by rw [allI_length]; exact hz), nth_map _ _ _ (by rw [allI_length]; exact hz)]
  have e1 : ∀ q, nth (allI m.S o d q N) z = if z = q then 0 else stI m.S o d z z - stI m.S o d q z := fun q => by
    rw [nth_at (by rw [allI_length]; exact hz)]; simp [allI]
  rw [e1, e1]
  have d1 := drI_in h.dd i z
  have d2 := drI_in h.dd j z
  have d3 := drI_in h.dd z z
  have h3 : (z : Int) * m.D ≤ m.N * m.D := Int.mul_le_mul_of_nonneg_right (by omega) hD.1
  have h4 : 0 ≤ (z : Int) * m.D := Int.mul_nonneg (by omega) hD.1
  unfold stI
  split
  · split
    · subst_vars; omega
    · subst_vars; omega
  · split
    · subst_vars; omega
    · omega
/-- Behind the round no two clocks are far apart. -/
theorem tg_near {m : ML} {a : Int} {o : Nat → Int} {d : Nat → Nat → Int} (h : TgOk m a o d) (N i j : Nat) (hN : (N : Int) = m.N) (hi : i < N) (hj : j < N) : (finI m.S o d N i).st - (finI m.S o d N j).st ≤ 6 * m.N * m.D + 2 := by
  have hD := (okM_nums h.ok).2.1
  have hN4 := (okM_nums h.ok).1
  have e1 : 6 * m.N * m.D = 6 * (m.N * m.D) := by rw [Int.mul_assoc]
  have hP : 0 ≤ m.N * m.D := Int.mul_nonneg (by omega) hD.1
  have key : ∀ q, q < N → o q + byK (ckI m.S o d q N N) = midOf ((allI m.S o d q N).map (· + o q)) := fun q hq => by
    rw [midOf_map _ _ (by rw [allI_length]; omega)]
    have := midOf_turned ((allI_perm m.S o d q N).1 hq) (by simp)
    unfold byK ckI
    dsimp only
    rw [this]; omega
  have hmid := midOf_under ((allI m.S o d i N).map (· + o i)) ((allI m.S o d j N).map (· + o j)) (2 * (m.N * m.D)) (by rw [List.length_map, List.length_map, allI_length, allI_length]) (fun z hz => allI_near h i j N hN hj z (by rw [List.length_map, allI_length] at hz; exact hz)) (by rw [List.length_map, allI_length]; omega)
  rw [← key i hi, ← key j hj] at hmid
  have d1 := drI_in h.dd i N
  have d2 := drI_in h.dd j N
  rw [hN] at d1 d2
  show stI m.S o d i N + byK (ckI m.S o d i N N) - (stI m.S o d j N + byK (ckI m.S o d j N N)) ≤ _
  unfold stI
  rw [e1]
  omega
end Go.Proofs.Ytlkmipcenlhacaa
