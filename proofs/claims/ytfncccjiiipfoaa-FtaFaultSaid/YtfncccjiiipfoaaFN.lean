/-
  One fault, in plain Lean: two lists that are the same, place by place, up to e, but for one place. No condition but those that each theorem names.
-/
import Derived.Test.YtfncccjiiipfoaaFL
namespace Go.Proofs.Ytfncccjiiipfoaa
/-- The second list: each number of the first i but the k-th is changed. -/
def bF (t : List Int) (dd : Nat → Int) (k i : Nat) : List Int := (List.range t.length).map fun j => if j < i ∧ j ≠ k then nth t j + dd j else nth t j
/-- All numbers of both lists up to the i-th, without the k-th. -/
def goodF (t : List Int) (dd : Nat → Int) (k : Nat) : Nat → List Int
  | 0 => []
  | i + 1 => if i = k then goodF t dd k i else goodF t dd k i ++ [nth t i, nth t i + dd i]
/-- By how much they differ. -/
def eF (dd : Nat → Int) (k : Nat) : Nat → Int
  | 0 => 0
  | i + 1 => if i = k then eF dd k i else max (max (eF dd k i) (dd i)) (-(dd i))
theorem bF_length (t : List Int) (dd : Nat → Int) (k i : Nat) : (bF t dd k i).length = t.length := by unfold bF; simp
theorem bF_nth (t : List Int) (dd : Nat → Int) (k i j : Nat) (h : j < t.length) : nth (bF t dd k i) j = if j < i ∧ j ≠ k then nth t j + dd j else nth t j := by
  rw [nth_at (by rw [bF_length]; exact h)]; unfold bF; simp
theorem ext_nth {l m : List Int} (h : l.length = m.length) (hn : ∀ j, j < l.length → nth l j = nth m j) : l = m := by
  refine List.ext_getElem h fun j h1 h2 => ?_
  have := hn j h1
  rw [nth_at h1, nth_at h2] at this
  exact this
theorem bF_zero (t : List Int) (dd : Nat → Int) (k : Nat) : bF t dd k 0 = t := ext_nth (bF_length _ _ _ _) fun j h => by
  rw [bF_length] at h
  rw [bF_nth _ _ _ _ _ h, if_neg (by omega)]
theorem bF_skip (t : List Int) (dd : Nat → Int) (k : Nat) : bF t dd k (k + 1) = bF t dd k k := ext_nth (by rw [bF_length, bF_length]) fun j h => by
  rw [bF_length] at h
  rw [bF_nth _ _ _ _ _ h, bF_nth _ _ _ _ _ h]
  by_cases h1 : j < k
  · rw [if_pos ⟨by omega, by omega⟩, if_pos ⟨by omega, by omega⟩]
  · rw [if_neg (by omega), if_neg (by omega)]
theorem bF_step (t : List Int) (dd : Nat → Int) (k i : Nat) (hk : i ≠ k) (hi : i < t.length) : (bF t dd k i).set i (nth t i + dd i) = bF t dd k (i + 1) := ext_nth (by rw [List.length_set, bF_length, bF_length]) fun j h => by
  rw [List.length_set, bF_length] at h
  rw [nth_set _ _ _ (by rw [bF_length]; exact hi), bF_nth _ _ _ _ _ h, bF_nth _ _ _ _ _ h]
  by_cases h1 : j = i
  · subst h1; rw [if_pos rfl, if_pos ⟨by omega, hk⟩]
  · rw [if_neg h1]
    by_cases h2 : j < i ∧ j ≠ k
    · rw [if_pos h2, if_pos ⟨by omega, h2.2⟩]
    · rw [if_neg h2, if_neg (by omega)]
theorem eF_bound {dd : Nat → Int} {k : Nat} {B : Int} (hB : 0 ≤ B) (h : ∀ j, -B ≤ dd j ∧ dd j ≤ B) : ∀ i, 0 ≤ eF dd k i ∧ eF dd k i ≤ B ∧ ∀ j, j < i → j ≠ k → dd j ≤ eF dd k i ∧ -(dd j) ≤ eF dd k i := by
  intro i
  induction i with
  | zero => exact ⟨Int.le_refl _, hB, fun j hj => by omega⟩
  | succ i ih =>
    obtain ⟨h1, h2, h3⟩ := ih
    have hi := h i
    show 0 ≤ (if i = k then eF dd k i else max (max (eF dd k i) (dd i)) (-(dd i))) ∧ (if i = k then eF dd k i else max (max (eF dd k i) (dd i)) (-(dd i))) ≤ B ∧ ∀ j, j < i + 1 → j ≠ k → dd j ≤ (if i = k then eF dd k i else max (max (eF dd k i) (dd i)) (-(dd i))) ∧ -(dd j) ≤ (if i = k then eF dd k i else max (max (eF dd k i) (dd i)) (-(dd i)))
    by_cases e : i = k
    · rw [if_pos e]
      refine ⟨h1, h2, fun j hj hk => h3 j (by omega) hk⟩
    · rw [if_neg e]
      refine ⟨by omega, by omega, fun j hj hk => ?_⟩
      by_cases e2 : j = i
      · subst e2; omega
      · have := h3 j (by omega) hk; omega
theorem goodF_spec (t : List Int) (dd : Nat → Int) (k : Nat) (P : Int → Prop) : ∀ i, (∀ j, j < i → j ≠ k → P (nth t j) ∧ P (nth t j + dd j)) → (∀ y ∈ goodF t dd k i, P y) ∧ (goodF t dd k i).length ≤ 2 * i ∧ ∀ j, j < i → j ≠ k → nth t j ∈ goodF t dd k i ∧ nth t j + dd j ∈ goodF t dd k i := by
  intro i
  induction i with
  | zero => intro _; exact ⟨fun y hy => (by cases hy), Nat.le_refl _, fun j hj => (by omega)⟩
  | succ i ih =>
    intro h
    obtain ⟨h1, h2, h3⟩ := ih fun j hj hk => h j (by omega) hk
    show (∀ y ∈ (if i = k then goodF t dd k i else goodF t dd k i ++ [nth t i, nth t i + dd i]), P y) ∧ (if i = k then goodF t dd k i else goodF t dd k i ++ [nth t i, nth t i + dd i]).length ≤ 2 * (i + 1) ∧ ∀ j, j < i + 1 → j ≠ k → nth t j ∈ (if i = k then goodF t dd k i else goodF t dd k i ++ [nth t i, nth t i + dd i]) ∧ nth t j + dd j ∈ (if i = k then goodF t dd k i else goodF t dd k i ++ [nth t i, nth t i + dd i])
    by_cases e : i = k
    · rw [if_pos e]
      refine ⟨h1, by omega, fun j hj hk => h3 j (by omega) hk⟩
    · rw [if_neg e]
      obtain ⟨p1, p2⟩ := h i (by omega) e
      refine ⟨fun y hy => ?_, by rw [List.length_append]; show _ + 2 ≤ _; omega, fun j hj hk => ?_⟩
      · rcases List.mem_append.1 hy with hy | hy
        · exact h1 y hy
        · simp at hy; rcases hy with rfl | rfl <;> assumption
      · by_cases e2 : j = i
        · subst e2; simp
        · have := h3 j (by omega) hk; simp [this.1, this.2]
theorem nth_eraseIdx (l : List Int) (k i : Nat) : nth (l.eraseIdx k) i = if i < k then nth l i else nth l (i + 1) := by
  unfold nth; rw [List.getElem?_eraseIdx]; split <;> rfl
theorem mem_eraseIdx_nth {l : List Int} {k : Nat} (hk : k < l.length) {y : Int} (hy : y ∈ l.eraseIdx k) : ∃ j, j < l.length ∧ j ≠ k ∧ y = nth l j := by
  obtain ⟨i, hi, rfl⟩ := List.getElem_of_mem hy
  have hl := List.length_eraseIdx_of_lt hk
  have h := nth_eraseIdx l k i
  rw [nth_at hi] at h
  by_cases e : i < k
  · rw [if_pos e] at h; exact ⟨i, by omega, by omega, h⟩
  · rw [if_neg e] at h; exact ⟨i + 1, by omega, by omega, h⟩
/-- The law of one fault, for both lists. -/
theorem fault_math (t : List Int) (dd : Nat → Int) (k : Nat) (mine other : Int) (h4 : 4 ≤ t.length) (hk : k < t.length) (hd : ∀ j, -32768 ≤ dd j ∧ dd j ≤ 32768)
    (hin : ∀ j, j < t.length → j ≠ k → -mOff ≤ nth t j ∧ nth t j ≤ mOff) (ha : (midS (t.set k mine)).2 = 0) (hb : (midS ((bF t dd k t.length).set k other)).2 = 0) :
    2 * ((midS (t.set k mine)).1 - (midS ((bF t dd k t.length).set k other)).1) ≤ spreadS (goodF t dd k t.length) + eF dd k t.length + 2 ∧
    2 * ((midS ((bF t dd k t.length).set k other)).1 - (midS (t.set k mine)).1) ≤ spreadS (goodF t dd k t.length) + eF dd k t.length + 2 ∧
    0 ≤ spreadS (goodF t dd k t.length) ∧ spreadS (goodF t dd k t.length) ≤ 4 * mOff ∧ -mOff ≤ (midS (t.set k mine)).1 ∧ (midS (t.set k mine)).1 ≤ mOff ∧ -mOff ≤ (midS ((bF t dd k t.length).set k other)).1 ∧ (midS ((bF t dd k t.length).set k other)).1 ≤ mOff := by
  obtain ⟨a0, a1⟩ := keptS_ok ha
  obtain ⟨b0, b1⟩ := keptS_ok hb
  rw [midS_in a0 a1, midS_in b0 b1]
  have al : (t.set k mine).length = t.length := by simp
  have bl : ((bF t dd k t.length).set k other).length = t.length := by rw [List.length_set, bF_length]
  obtain ⟨e0, e1, e2⟩ := eF_bound (dd := dd) (k := k) (B := 32768) (by decide) hd t.length
  obtain ⟨g1, g2, g3⟩ := goodF_spec t dd k (fun y => -(mOff + 32768) ≤ y ∧ y ≤ mOff + 32768) t.length fun j hj hne => by
    have := hin j hj hne; have := hd j; omega
  have hgl : 0 < (goodF t dd k t.length).length := by
    obtain ⟨j, hj, hne⟩ : ∃ j, j < t.length ∧ j ≠ k := ⟨if k = 0 then 1 else 0, by split <;> omega, by split <;> omega⟩
    exact List.length_pos_of_mem (g3 j hj hne).1
  have hlo := sort_first (goodF t dd k t.length) hgl
  have hhi := sort_last (goodF t dd k t.length) hgl
  have hlom := (hlo _).1 (Int.le_refl _)
  have hhim := (hhi _).1 (Int.le_refl _)
  have hlb := (hlo (-(mOff + 32768))).2 fun y hy => (g1 y hy).1
  have hub := (hhi (mOff + 32768)).2 fun y hy => (g1 y hy).2
  have hsp : spreadS (goodF t dd k t.length) = nth (sortI (goodF t dd k t.length)) ((goodF t dd k t.length).length - 1) - nth (sortI (goodF t dd k t.length)) 0 := by unfold spreadS; rw [if_neg (by omega)]
  have hpos := sort_rises (goodF t dd k t.length) (Nat.zero_le ((goodF t dd k t.length).length - 1)) (by omega)
  have ma : ∀ y ∈ (t.set k mine).eraseIdx k, y ∈ goodF t dd k t.length := fun y hy => by
    obtain ⟨j, hj, hne, rfl⟩ := mem_eraseIdx_nth (by rw [al]; exact hk) hy
    rw [nth_set t k mine hk, if_neg hne]
    exact (g3 j (by omega) hne).1
  have mb : ∀ y ∈ ((bF t dd k t.length).set k other).eraseIdx k, y ∈ goodF t dd k t.length := fun y hy => by
    obtain ⟨j, hj, hne, rfl⟩ := mem_eraseIdx_nth (by rw [bl]; exact hk) hy
    rw [nth_set _ k other (by rw [bF_length]; exact hk), if_neg hne, bF_nth _ _ _ _ _ (by omega), if_pos ⟨by omega, hne⟩]
    exact (g3 j (by omega) hne).2
  have both : ∀ i, i < t.length - 1 → nth ((t.set k mine).eraseIdx k) i ≤ nth (((bF t dd k t.length).set k other).eraseIdx k) i + eF dd k t.length ∧ nth (((bF t dd k t.length).set k other).eraseIdx k) i ≤ nth ((t.set k mine).eraseIdx k) i + eF dd k t.length := fun i hi => by
    rw [nth_eraseIdx, nth_eraseIdx]
    have key : ∀ j, j < t.length → j ≠ k → nth (t.set k mine) j ≤ nth ((bF t dd k t.length).set k other) j + eF dd k t.length ∧ nth ((bF t dd k t.length).set k other) j ≤ nth (t.set k mine) j + eF dd k t.length := fun j hj hne => by
      rw [nth_set t k mine hk, if_neg hne, nth_set _ k other (by rw [bF_length]; exact hk), if_neg hne, bF_nth _ _ _ _ _ (by omega), if_pos ⟨by omega, hne⟩]
      have := e2 j hj hne; omega
    by_cases e : i < k
    · rw [if_pos e, if_pos e]; exact key i (by omega) (by omega)
    · rw [if_neg e, if_neg e]; exact key (i + 1) (by omega) (by omega)
  have f1 := fault_half (t.set k mine) ((bF t dd k t.length).set k other) k (eF dd k t.length) _ _ _ (by rw [al, bl]) (by rw [al]; exact h4) (by rw [al]; exact hk) (fun i hi => (both i (by omega)).1) (fun y hy => hlom y (mb y hy)) (fun y hy => hhim y (ma y hy)) (Int.le_refl _)
  have f2 := fault_half ((bF t dd k t.length).set k other) (t.set k mine) k (eF dd k t.length) _ _ _ (by rw [al, bl]) (by rw [bl]; exact h4) (by rw [bl]; exact hk) (fun i hi => (both i (by omega)).2) (fun y hy => hlom y (ma y hy)) (fun y hy => hhim y (mb y hy)) (Int.le_refl _)
  have wa := midOf_within _ a0
  have wb := midOf_within _ b0
  have ka := keptLo_in a0 a1
  have kb := keptLo_in b0 b1
  rw [hsp]
  unfold mOff at *
  exact ⟨by omega, by omega, by omega, by omega, by omega, by omega, by omega, by omega⟩
end Go.Proofs.Ytfncccjiiipfoaa
