/-
  Some numbers in order, in plain Lean: the least and the greatest, what is kept of them, their mean, one fault. No condition.
-/
import Derived.Test.YtfncccjiiipfoaaSZ
namespace Go.Proofs.Ytfncccjiiipfoaa

def nth (l : List Int) (i : Nat) : Int := l[i]?.getD 0
/-- How many of some numbers are no greater than x. -/
def cntL (x : Int) (l : List Int) : Nat := l.countP fun y => decide (y ≤ x)
def sortI (l : List Int) : List Int := l.mergeSort fun x y => decide (x ≤ y)
theorem sortI_perm (l : List Int) : (sortI l).Perm l := List.mergeSort_perm _ _
theorem sortI_length (l : List Int) : (sortI l).length = l.length := (sortI_perm l).length_eq
theorem sortI_sorted (l : List Int) : (sortI l).Pairwise (fun x y => x ≤ y) := by
  have := List.pairwise_mergeSort (le := fun (x y : Int) => decide (x ≤ y)) (fun a b c h1 h2 => by simp at *; omega) (fun a b => by simp; omega) l
  exact this.imp fun h => by simpa using h
theorem cntL_nil (x : Int) : cntL x [] = 0 := rfl
theorem cntL_cons (x a : Int) (l : List Int) : cntL x (a :: l) = cntL x l + if a ≤ x then 1 else 0 := by
  unfold cntL; rw [List.countP_cons]; simp
theorem cntL_perm {l m : List Int} (h : l.Perm m) (x : Int) : cntL x l = cntL x m := h.countP_eq _
theorem cntL_le (x : Int) (l : List Int) : cntL x l ≤ l.length := List.countP_le_length
theorem cntL_none {x : Int} {l : List Int} (h : ∀ y ∈ l, x < y) : cntL x l = 0 := by
  unfold cntL; rw [List.countP_eq_zero]; intro y hy; have := h y hy; simp; omega
theorem cntL_all {x : Int} {l : List Int} (h : ∀ y ∈ l, y ≤ x) : cntL x l = l.length := by
  unfold cntL; rw [List.countP_eq_length]; intro y hy; have := h y hy; simp; omega
theorem sorted_nth (x : Int) : ∀ (s : List Int), s.Pairwise (fun x y => x ≤ y) → ∀ i, i < s.length → (nth s i ≤ x ↔ i < cntL x s) := by
  intro s
  induction s with
  | nil => intro _ i hi; simp at hi
  | cons a t ih =>
    intro hs i hi
    obtain ⟨ha, ht⟩ := List.pairwise_cons.1 hs
    rw [cntL_cons]
    by_cases hx : a ≤ x
    · rw [if_pos hx]
      cases i with
      | zero => exact ⟨fun _ => by omega, fun _ => hx⟩
      | succ i => have := ih ht i (by simpa using hi); show nth t i ≤ x ↔ _; omega
    · rw [if_neg hx, cntL_none (fun y hy => by have := ha y hy; omega)]
      cases i with
      | zero => exact ⟨fun h => absurd h hx, fun h => by omega⟩
      | succ i =>
        have hi' : i < t.length := by simpa using hi
        constructor
        · intro h
          have h' : nth t i ≤ x := h
          unfold nth at h'
          rw [List.getElem?_eq_getElem hi'] at h'
          have := ha _ (List.getElem_mem hi')
          simp at h'; omega
        · omega
/-- The i-th least number, by counting. -/
theorem sort_nth (l : List Int) (x : Int) (i : Nat) (hi : i < l.length) : nth (sortI l) i ≤ x ↔ i < cntL x l := by
  rw [sorted_nth x _ (sortI_sorted l) i (by rw [sortI_length]; exact hi), cntL_perm (sortI_perm l)]
theorem eq_of_cntL {a b : Int} (h : ∀ x, a ≤ x ↔ b ≤ x) : a = b := by
  have h1 := (h a).1 (Int.le_refl _); have h2 := (h b).2 (Int.le_refl _); omega
theorem cntL_more {x y : Int} (h : x ≤ y) : ∀ l : List Int, cntL x l ≤ cntL y l := by
  intro l
  induction l with
  | nil => exact Nat.le_refl _
  | cons a t ih => rw [cntL_cons, cntL_cons]; split <;> split <;> omega
theorem sort_rises (l : List Int) {i j : Nat} (hij : i ≤ j) (hj : j < l.length) : nth (sortI l) i ≤ nth (sortI l) j := by
  rw [sort_nth l _ i (by omega)]
  have := (sort_nth l (nth (sortI l) j) j hj).1 (Int.le_refl _); omega
/-- Place by place no greater. -/
theorem cntL_under (x d : Int) : ∀ (l m : List Int), l.length = m.length → (∀ i, i < l.length → nth l i ≤ nth m i + d) → cntL x m ≤ cntL (x + d) l := by
  intro l
  induction l with
  | nil => intro m h _; cases m with | nil => exact Nat.le_refl _ | cons => simp at h
  | cons a t ih =>
    intro m h hp
    cases m with
    | nil => simp at h
    | cons b u =>
      have h0 := hp 0 (by simp)
      have := ih u (by simpa using h) (fun i hi => hp (i + 1) (by simpa using hi))
      have h0' : a ≤ b + d := h0
      rw [cntL_cons, cntL_cons]; split <;> split <;> omega
theorem sort_under (l m : List Int) (d : Int) (h : l.length = m.length) (hp : ∀ i, i < l.length → nth l i ≤ nth m i + d) (i : Nat) (hi : i < l.length) : nth (sortI l) i ≤ nth (sortI m) i + d := by
  rw [sort_nth l _ i hi]
  have h1 := (sort_nth m (nth (sortI m) i) i (by omega)).1 (Int.le_refl _)
  have h2 := cntL_under (nth (sortI m) i) d l m h hp
  omega
theorem nth_at {l : List Int} {i : Nat} (h : i < l.length) : nth l i = l[i] := by unfold nth; rw [List.getElem?_eq_getElem h]; rfl
theorem nth_map (f : Int → Int) (l : List Int) (i : Nat) (h : i < l.length) : nth (l.map f) i = f (nth l i) := by
  rw [nth_at h, nth_at (by simpa using h)]; simp
theorem sort_map (l : List Int) (c : Int) (i : Nat) (hi : i < l.length) : nth (sortI (l.map (· + c))) i = nth (sortI l) i + c := by
  have h1 := sort_under (l.map (· + c)) l c (by simp) (fun j hj => by rw [nth_map _ _ _ (by simpa using hj)]; exact Int.le_refl _) i (by simpa using hi)
  have h2 := sort_under l (l.map (· + c)) (-c) (by simp) (fun j hj => by rw [nth_map _ _ _ hj]; omega) i hi
  omega
theorem sort_turned {l m : List Int} (h : l.Perm m) (i : Nat) (hi : i < l.length) : nth (sortI l) i = nth (sortI m) i := by
  apply eq_of_cntL
  intro x
  rw [sort_nth l x i hi, sort_nth m x i (by rw [← h.length_eq]; exact hi), cntL_perm h]

/-- The greatest number that may be. -/
def mOff : Int := 1099511627776
def inOff (l : List Int) : Prop := ∀ y ∈ l, -mOff ≤ y ∧ y ≤ mOff
theorem sort_first (l : List Int) (h : 0 < l.length) (x : Int) : x ≤ nth (sortI l) 0 ↔ ∀ y ∈ l, x ≤ y := by
  have := sort_nth l (x - 1) 0 h
  have h2 : cntL (x - 1) l = 0 ↔ ∀ y ∈ l, x ≤ y := by
    unfold cntL; rw [List.countP_eq_zero]
    constructor <;> intro hh y hy <;> have := hh y hy <;> simp at * <;> omega
  rw [← h2]; omega
theorem sort_last (l : List Int) (h : 0 < l.length) (x : Int) : nth (sortI l) (l.length - 1) ≤ x ↔ ∀ y ∈ l, y ≤ x := by
  rw [sort_nth l x _ (by omega)]
  have h2 : cntL x l = l.length ↔ ∀ y ∈ l, y ≤ x := by
    unfold cntL; rw [List.countP_eq_length]
    constructor <;> intro hh y hy <;> have := hh y hy <;> simp at * <;> omega
  rw [← h2]; have := cntL_le x l; omega

/-- Which place is the first that is left of n numbers, and which the last. -/
def loAt (n : Nat) : Nat := if 4 ≤ n then 1 else 0
def hiAt (n : Nat) : Nat := if 4 ≤ n then n - 2 else n - 1
theorem loAt_lt {n : Nat} (h : 0 < n) : loAt n < n := by unfold loAt; split <;> omega
theorem hiAt_lt {n : Nat} (h : 0 < n) : hiAt n < n := by unfold hiAt; split <;> omega
theorem loAt_hiAt {n : Nat} : loAt n ≤ hiAt n := by unfold loAt hiAt; split <;> omega
def keptLo (l : List Int) : Int := nth (sortI l) (loAt l.length)
def keptHi (l : List Int) : Int := nth (sortI l) (hiAt l.length)
/-- Kept, by the document. -/
def keptS (l : List Int) : Int × Int × Int :=
  if l.length = 0 then (0, 0, 4) else if nth (sortI l) 0 < -mOff ∨ mOff < nth (sortI l) (l.length - 1) then (0, 0, 80) else (keptLo l, keptHi l, 0)
theorem keptS_in {l : List Int} (h0 : 0 < l.length) (h : inOff l) : keptS l = (keptLo l, keptHi l, 0) := by
  unfold keptS
  rw [if_neg (by omega), if_neg]
  have h1 := (sort_first l h0 (-mOff)).2 fun y hy => (h y hy).1
  have h2 := (sort_last l h0 mOff).2 fun y hy => (h y hy).2
  omega
theorem keptS_ok {l : List Int} (h : (keptS l).2.2 = 0) : 0 < l.length ∧ inOff l := by
  unfold keptS at h
  split at h
  · cases h
  · split at h
    · cases h
    · rename_i h0 h1
      have hl : 0 < l.length := by omega
      refine ⟨hl, fun y hy => ⟨(sort_first l hl (-mOff)).1 (by omega) y hy, (sort_last l hl mOff).1 (by omega) y hy⟩⟩
def midOf (l : List Int) : Int := (keptLo l + keptHi l) / 2
def midS (l : List Int) : Int × Int := (((keptS l).1 + (keptS l).2.1) / 2, (keptS l).2.2)
theorem midS_in {l : List Int} (h0 : 0 < l.length) (h : inOff l) : midS l = (midOf l, 0) := by
  unfold midS; rw [keptS_in h0 h]; rfl
theorem midOf_under (l m : List Int) (d : Int) (h : l.length = m.length) (hp : ∀ i, i < l.length → nth l i ≤ nth m i + d) (h0 : 0 < l.length) : midOf l ≤ midOf m + d := by
  have h1 := sort_under l m d h hp (loAt l.length) (loAt_lt h0)
  have h2 := sort_under l m d h hp (hiAt l.length) (hiAt_lt h0)
  unfold midOf keptLo keptHi
  rw [← h]; omega
theorem midOf_map (l : List Int) (c : Int) (h0 : 0 < l.length) : midOf (l.map (· + c)) = midOf l + c := by
  have h1 := sort_map l c (loAt l.length) (loAt_lt h0)
  have h2 := sort_map l c (hiAt l.length) (hiAt_lt h0)
  unfold midOf keptLo keptHi
  rw [List.length_map, h1, h2]; omega
theorem midOf_turned {l m : List Int} (h : l.Perm m) (h0 : 0 < l.length) : midOf l = midOf m := by
  unfold midOf keptLo keptHi
  rw [sort_turned h _ (loAt_lt h0), sort_turned h _ (hiAt_lt h0), h.length_eq]
theorem midOf_within (l : List Int) (h0 : 0 < l.length) : keptLo l ≤ midOf l ∧ midOf l ≤ keptHi l := by
  have := sort_rises l (loAt_hiAt (n := l.length)) (hiAt_lt h0)
  unfold midOf keptLo keptHi; omega
theorem keptLo_in {l : List Int} (h0 : 0 < l.length) (h : inOff l) : -mOff ≤ keptLo l ∧ keptLo l ≤ keptHi l ∧ keptHi l ≤ mOff := by
  have h1 := (sort_first l h0 (-mOff)).2 fun y hy => (h y hy).1
  have h2 := (sort_last l h0 mOff).2 fun y hy => (h y hy).2
  have h3 := sort_rises l (Nat.zero_le (loAt l.length)) (loAt_lt h0)
  have h4 := sort_rises l (loAt_hiAt (n := l.length)) (hiAt_lt h0)
  have h5 := sort_rises l (i := hiAt l.length) (j := l.length - 1) (by have := hiAt_lt h0; omega) (by omega)
  unfold keptLo keptHi; omega

/-- The greatest of some numbers less the least one. -/
def spreadS (l : List Int) : Int := if l.length = 0 then 0 else nth (sortI l) (l.length - 1) - nth (sortI l) 0

/-- One fault. -/
theorem cntL_erase (x : Int) : ∀ (l : List Int) (k : Nat), k < l.length → cntL x (l.eraseIdx k) + (if nth l k ≤ x then 1 else 0) = cntL x l := by
  intro l
  induction l with
  | nil => intro k hk; simp at hk
  | cons a t ih =>
    intro k hk
    cases k with
    | zero => show cntL x t + _ = _; rw [cntL_cons]; rfl
    | succ k =>
      have := ih k (by simpa using hk)
      show cntL x (a :: t.eraseIdx k) + (if nth t k ≤ x then 1 else 0) = _
      rw [cntL_cons, cntL_cons]; omega
theorem fault_half (a b : List Int) (k : Nat) (e S lo hi : Int) (hl : a.length = b.length) (h4 : 4 ≤ a.length) (hk : k < a.length)
    (hp : ∀ i, i < a.length - 1 → nth (a.eraseIdx k) i ≤ nth (b.eraseIdx k) i + e) (hlo : ∀ y ∈ b.eraseIdx k, lo ≤ y) (hhi : ∀ y ∈ a.eraseIdx k, y ≤ hi) (hS : hi - lo ≤ S) :
    2 * (midOf a - midOf b) ≤ S + e + 1 := by
  have hea : (a.eraseIdx k).length = a.length - 1 := List.length_eraseIdx_of_lt hk
  have heb : (b.eraseIdx k).length = b.length - 1 := List.length_eraseIdx_of_lt (by omega)
  have l1 : loAt a.length = 1 := by unfold loAt; rw [if_pos h4]
  have l2 : hiAt a.length = a.length - 2 := by unfold hiAt; rw [if_pos h4]
  -- what is left greatest of a is no greater than the greatest of the others
  have q1 : keptHi a ≤ hi := by
    unfold keptHi
    rw [l2, sort_nth a hi _ (by omega)]
    have := cntL_erase hi a k hk
    have := cntL_all hhi
    omega
  have q2 : lo ≤ keptLo b := by
    unfold keptLo
    rw [← hl, l1]
    have h1 := sort_nth b (lo - 1) 1 (by omega)
    have h2 := cntL_erase (lo - 1) b k (by omega)
    have h3 : cntL (lo - 1) (b.eraseIdx k) = 0 := cntL_none fun y hy => by have := hlo y hy; omega
    have : ¬ nth (sortI b) 1 ≤ lo - 1 := by rw [h1]; split at h2 <;> omega
    omega
  have q3 : keptLo a ≤ keptHi b + e := by
    unfold keptLo
    rw [l1, sort_nth a _ 1 (by omega)]
    have h1 : b.length - 2 < cntL (keptHi b) b := by
      rw [← sort_nth b _ _ (by omega)]; unfold keptHi; rw [← hl, l2]; exact Int.le_refl _
    have h2 := cntL_erase (keptHi b) b k (by omega)
    have h3 := cntL_under (keptHi b) e (a.eraseIdx k) (b.eraseIdx k) (by omega) (fun i hi => hp i (by omega))
    have h4 := cntL_erase (keptHi b + e) a k hk
    split at h2 <;> split at h4 <;> omega
  unfold midOf; omega
theorem foldl_min (x : Int) : ∀ (l : List Int) (a : Int), x ≤ l.foldl min a ↔ x ≤ a ∧ ∀ y ∈ l, x ≤ y := by
  intro l
  induction l with
  | nil => intro a; simp
  | cons b t ih => intro a; rw [List.foldl_cons, ih]; simp only [List.mem_cons, forall_eq_or_imp, Int.le_min, and_assoc]
theorem foldl_max (x : Int) : ∀ (l : List Int) (a : Int), l.foldl max a ≤ x ↔ a ≤ x ∧ ∀ y ∈ l, y ≤ x := by
  intro l
  induction l with
  | nil => intro a; simp
  | cons b t ih => intro a; rw [List.foldl_cons, ih]; simp only [List.mem_cons, forall_eq_or_imp, Int.max_le, and_assoc]
theorem nth_mem {l : List Int} {i : Nat} (h : i < l.length) : nth l i ∈ l := by rw [nth_at h]; exact List.getElem_mem h
theorem least_is (l : List Int) (h : 0 < l.length) : l.foldl min (nth l 0) = nth (sortI l) 0 := by
  have h1 := fun x => foldl_min x l (nth l 0)
  have h2 := sort_first l h
  have h3 := h1 (l.foldl min (nth l 0))
  have h4 := h1 (nth (sortI l) 0)
  have a1 : l.foldl min (nth l 0) ≤ nth (sortI l) 0 := (h2 _).2 (h3.1 (Int.le_refl _)).2
  have a2 : nth (sortI l) 0 ≤ l.foldl min (nth l 0) := h4.2 ⟨(h2 _).1 (Int.le_refl _) _ (nth_mem h), (h2 _).1 (Int.le_refl _)⟩
  omega
theorem most_is (l : List Int) (h : 0 < l.length) : l.foldl max (nth l 0) = nth (sortI l) (l.length - 1) := by
  have h1 := fun x => foldl_max x l (nth l 0)
  have h2 := sort_last l h
  have h3 := h1 (l.foldl max (nth l 0))
  have h4 := h1 (nth (sortI l) (l.length - 1))
  have a1 : nth (sortI l) (l.length - 1) ≤ l.foldl max (nth l 0) := (h2 _).2 (h3.1 (Int.le_refl _)).2
  have a2 : l.foldl max (nth l 0) ≤ nth (sortI l) (l.length - 1) := h4.2 ⟨(h2 _).1 (Int.le_refl _) _ (nth_mem h), (h2 _).1 (Int.le_refl _)⟩
  omega
theorem cntL_off (x v : Int) (l : List Int) (h : v ∈ l) : cntL x (l.erase v) + (if v ≤ x then 1 else 0) = cntL x l := by
  rw [← cntL_cons]; exact (cntL_perm (List.perm_cons_erase h) x).symm
theorem kept_ref (l : List Int) (h : 4 ≤ l.length) :
    ((l.erase (nth (sortI l) 0)).erase (nth (sortI l) (l.length - 1))).length = l.length - 2 ∧
    nth (sortI ((l.erase (nth (sortI l) 0)).erase (nth (sortI l) (l.length - 1)))) 0 = keptLo l ∧
    nth (sortI ((l.erase (nth (sortI l) 0)).erase (nth (sortI l) (l.length - 1)))) (((l.erase (nth (sortI l) 0)).erase (nth (sortI l) (l.length - 1))).length - 1) = keptHi l := by
  have g0 := fun x => sort_nth l x 0 (by omega)
  have g1 := fun x => sort_nth l x 1 (by omega)
  have g2 := fun x => sort_nth l x (l.length - 2) (by omega)
  have g3 := fun x => sort_nth l x (l.length - 1) (by omega)
  have m0 : nth (sortI l) 0 ∈ l := (sortI_perm l).mem_iff.1 (nth_mem (by rw [sortI_length]; omega))
  have m3 : nth (sortI l) (l.length - 1) ∈ l := (sortI_perm l).mem_iff.1 (nth_mem (by rw [sortI_length]; omega))
  have l1 : keptLo l = nth (sortI l) 1 := by unfold keptLo loAt; rw [if_pos h]
  have l2 : keptHi l = nth (sortI l) (l.length - 2) := by unfold keptHi hiAt; rw [if_pos h]
  rw [l1, l2]
  have hs := sort_first l (by omega)
  have ht := sort_last l (by omega)
  generalize nth (sortI l) 0 = a at *
  generalize nth (sortI l) (l.length - 1) = b at *
  have e1 := fun x => cntL_off x a l m0
  have le1 : (l.erase a).length = l.length - 1 := List.length_erase_of_mem m0
  have m4 : b ∈ l.erase a := by
    by_cases hab : a = b
    · subst hab
      have : 0 < (l.erase a).length := by omega
      have hy := nth_mem this
      have hyl := List.mem_of_mem_erase hy
      have c1 := (hs a).1 (Int.le_refl _) _ hyl
      have c2 := (ht a).1 (Int.le_refl _) _ hyl
      have : nth (l.erase a) 0 = a := by omega
      rw [this] at hy; exact hy
    · exact (List.mem_erase_of_ne (fun e => hab e.symm)).2 m3
  have e2 := fun x => cntL_off x b (l.erase a) m4
  have le2 : ((l.erase a).erase b).length = l.length - 2 := by rw [List.length_erase_of_mem m4, le1]; omega
  refine ⟨le2, eq_of_cntL fun x => ?_, eq_of_cntL fun x => ?_⟩
  · rw [sort_nth _ x 0 (by omega), g1]
    have := e1 x; have := e2 x; have := g0 x; have := g3 x; have := cntL_le x l
    split at * <;> split at * <;> omega
  · rw [sort_nth _ x _ (by omega), g2, le2]
    have := e1 x; have := e2 x; have := g0 x; have := g3 x; have := cntL_le x l
    split at * <;> split at * <;> omega
theorem kept_few (l : List Int) (h : ¬ 4 ≤ l.length) : keptLo l = nth (sortI l) 0 ∧ keptHi l = nth (sortI l) (l.length - 1) := by
  unfold keptLo keptHi loAt hiAt; rw [if_neg h, if_neg h]; exact ⟨rfl, rfl⟩
theorem erase_snoc (l : List Int) (a v : Int) : (l ++ [a]).erase v = if v ∈ l then l.erase v ++ [a] else if a = v then l else l ++ [a] := by
  rw [List.erase_append]
  split
  · rfl
  · rename_i h
    by_cases e : a = v
    · rw [if_pos e, e]; simp
    · rw [if_neg e, List.erase_cons_tail (by simpa using e)]; rfl
theorem take_nth (l : List Int) (k : Nat) (h : k < l.length) : l.take (k + 1) = l.take k ++ [nth l k] := by
  rw [List.take_add_one, nth_at h, List.getElem?_eq_getElem h]; rfl
end Go.Proofs.Ytfncccjiiipfoaa
