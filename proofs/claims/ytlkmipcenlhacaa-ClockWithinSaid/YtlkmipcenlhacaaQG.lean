/-
  Some numbers in order, in plain Lean: the least and the greatest, what is kept of them, their mean, one fault. No condition.
  Numbers in slices: the least and the greatest (the document's, slices.Min and slices.Max), slices.Clone, what the statements go through. Conditions: those that each theorem names.
  Numbers in slices: whether two are the same, one taken out, whether one is too great. Conditions: those that each theorem names.
  The document's Kept, Midpoint, Spread. Conditions: those that each theorem names.
  The document's Midpoint and Spread. Conditions: those that each theorem names.
-/
import Derived.Test.YtlkmipcenlhacaaQE
import Derived.Test.YtlkmipcenlhacaaQB
import Derived.Lib.SliceRun
namespace Go.Proofs.Ytlkmipcenlhacaa

def nth (l : List Int) (i : Nat) : Int := l[i]?.getD 0
/-- How many of some numbers are no greater than x. -/
def cntL (x : Int) (l : List Int) : Nat := l.countP fun y => decide (y ≤ x)
def sortI (l : List Int) : List Int := l.mergeSort fun x y => decide (x ≤ y)
theorem sortI_perm (l : List Int) : (sortI l).Perm l := List.mergeSort_perm _ _
theorem sortI_length (l : List Int) : (sortI l).length = l.length := (sortI_perm l).length_eq
theorem sortI_sorted (l : List Int) : (sortI l).Pairwise (fun x y => x ≤ y) := by
  have := List.pairwise_mergeSort (le := fun (x y : Int) => decide (x ≤ y)) (fun a b c h1 h2 => by simp at *; omega) (fun a b => by simp; omega) l
  exact this.imp fun h => by simpa using h
theorem cntL_nil (x : Int) : cntL x [] = 0 := rfl
theorem cntL_cons (x a : Int) (l : List Int) : cntL x (a :: l) = cntL x l + if a ≤ x then 1 else 0 := by
  unfold cntL; rw [List.countP_cons]; simp
theorem cntL_perm {l m : List Int} (h : l.Perm m) (x : Int) : cntL x l = cntL x m := h.countP_eq _
theorem cntL_le (x : Int) (l : List Int) : cntL x l ≤ l.length := List.countP_le_length
theorem cntL_none {x : Int} {l : List Int} (h : ∀ y ∈ l, x < y) : cntL x l = 0 := by
  unfold cntL; rw [List.countP_eq_zero]; intro y hy; have := h y hy; simp; omega
theorem cntL_all {x : Int} {l : List Int} (h : ∀ y ∈ l, y ≤ x) : cntL x l = l.length := by
  unfold cntL; rw [List.countP_eq_length]; intro y hy; have := h y hy; simp; omega
theorem sorted_nth (x : Int) : ∀ (s : List Int), s.Pairwise (fun x y => x ≤ y) → ∀ i, i < s.length → (nth s i ≤ x ↔ i < cntL x s) := by
  intro s
  induction s with
  | nil => intro _ i hi; simp at hi
  | cons a t ih =>
    intro hs i hi
    obtain ⟨ha, ht⟩ := List.pairwise_cons.1 hs
    rw [cntL_cons]
    by_cases hx : a ≤ x
    · rw [if_pos hx]
      cases i with
      | zero => exact ⟨fun _ => by omega, fun _ => hx⟩
      | succ i => have := ih ht i (by simpa using hi); show nth t i ≤ x ↔ _; omega
    · rw [if_neg hx, cntL_none (fun y hy => by have := ha y hy; omega)]
      cases i with
      | zero => exact ⟨fun h => absurd h hx, fun h => by omega⟩
      | succ i =>
        have hi' : i < t.length := by simpa using hi
        constructor
        · intro h
          have h' : nth t i ≤ x := h
          unfold nth at h'
          rw [List.getElem?_eq_getElem hi'] at h'
          have := ha _ (List.getElem_mem hi')
          simp at h'; omega
        · omega
/-- The i-th least number, by counting. -/
theorem sort_nth (l : List Int) (x : Int) (i : Nat) (hi : i < l.length) : nth (sortI l) i ≤ x ↔ i < cntL x l := by
  rw [sorted_nth x _ (sortI_sorted l) i (by rw [sortI_length]; exact hi), cntL_perm (sortI_perm l)]
theorem eq_of_cntL {a b : Int} (h : ∀ x, a ≤ x ↔ b ≤ x) : a = b := by
  have h1 := (h a).1 (Int.le_refl _); have h2 := (h b).2 (Int.le_refl _); omega
theorem cntL_more {x y : Int} (h : x ≤ y) : ∀ l : List Int, cntL x l ≤ cntL y l := by
  intro l
  induction l with
  | nil => exact Nat.le_refl _
  | cons a t ih => rw [cntL_cons, cntL_cons]; split <;> split <;> omega
theorem sort_rises (l : List Int) {i j : Nat} (hij : i ≤ j) (hj : j < l.length) : nth (sortI l) i ≤ nth (sortI l) j := by
  rw [sort_nth l _ i (by omega)]
  have := (sort_nth l (nth (sortI l) j) j hj).1 (Int.le_refl _); omega
/-- Place by place no greater. -/
theorem cntL_under (x d : Int) : ∀ (l m : List Int), l.length = m.length → (∀ i, i < l.length → nth l i ≤ nth m i + d) → cntL x m ≤ cntL (x + d) l := by
  intro l
  induction l with
  | nil => intro m h _; cases m with | nil => exact Nat.le_refl _ | cons => simp at h
  | cons a t ih =>
    intro m h hp
    cases m with
    | nil => simp at h
    | cons b u =>
      have h0 := hp 0 (by simp)
      have := ih u (by simpa using h) (fun i hi => hp (i + 1) (by simpa using hi))
      have h0' : a ≤ b + d := h0
      rw [cntL_cons, cntL_cons]; split <;> split <;> omega
theorem sort_under (l m : List Int) (d : Int) (h : l.length = m.length) (hp : ∀ i, i < l.length → nth l i ≤ nth m i + d) (i : Nat) (hi : i < l.length) : nth (sortI l) i ≤ nth (sortI m) i + d := by
  rw [sort_nth l _ i hi]
  have h1 := (sort_nth m (nth (sortI m) i) i (by omega)).1 (Int.le_refl _)
  have h2 := cntL_under (nth (sortI m) i) d l m h hp
  omega
theorem nth_at {l : List Int} {i : Nat} (h : i < l.length) : nth l i = l[i] := by unfold nth; rw [List.getElem?_eq_getElem h]; rfl
theorem nth_map (f : Int → Int) (l : List Int) (i : Nat) (h : i < l.length) : nth (l.map f) i = f (nth l i) := by
  rw [nth_at h, nth_at (by simpa using h)]; simp
theorem sort_map (l : List Int) (c : Int) (i : Nat) (hi : i < l.length) : nth (sortI (l.map (· + c))) i = nth (sortI l) i + c := by
  have h1 := sort_under (l.map (· + c)) l c (by simp) (fun j hj => by rw [nth_map _ _ _ (by simpa using hj)]; exact Int.le_refl _) i (by simpa using hi)
  have h2 := sort_under l (l.map (· + c)) (-c) (by simp) (fun j hj => by rw [nth_map _ _ _ hj]; omega) i hi
  omega
theorem sort_turned {l m : List Int} (h : l.Perm m) (i : Nat) (hi : i < l.length) : nth (sortI l) i = nth (sortI m) i := by
  apply eq_of_cntL
  intro x
  rw [sort_nth l x i hi, sort_nth m x i (by rw [← h.length_eq]; exact hi), cntL_perm h]

/-- The greatest number that may be. -/
def mOff : Int := 1099511627776
def inOff (l : List Int) : Prop := ∀ y ∈ l, -mOff ≤ y ∧ y ≤ mOff
theorem sort_first (l : List Int) (h : 0 < l.length) (x : Int) : x ≤ nth (sortI l) 0 ↔ ∀ y ∈ l, x ≤ y := by
  have := sort_nth l (x - 1) 0 h
  have h2 : cntL (x - 1) l = 0 ↔ ∀ y ∈ l, x ≤ y := by
    unfold cntL; rw [List.countP_eq_zero]
    constructor <;> intro hh y hy <;> have := hh y hy <;> simp at * <;> omega
  rw [← h2]; omega
theorem sort_last (l : List Int) (h : 0 < l.length) (x : Int) : nth (sortI l) (l.length - 1) ≤ x ↔ ∀ y ∈ l, y ≤ x := by
  rw [sort_nth l x _ (by omega)]
  have h2 : cntL x l = l.length ↔ ∀ y ∈ l, y ≤ x := by
    unfold cntL; rw [List.countP_eq_length]
    constructor <;> intro hh y hy <;> have := hh y hy <;> simp at * <;> omega
  rw [← h2]; have := cntL_le x l; omega

/-- Which place is the first that is left of n numbers, and which the last. -/
def loAt (n : Nat) : Nat := if 4 ≤ n then 1 else 0
def hiAt (n : Nat) : Nat := if 4 ≤ n then n - 2 else n - 1
theorem loAt_lt {n : Nat} (h : 0 < n) : loAt n < n := by unfold loAt; split <;> omega
theorem hiAt_lt {n : Nat} (h : 0 < n) : hiAt n < n := by unfold hiAt; split <;> omega
theorem loAt_hiAt {n : Nat} : loAt n ≤ hiAt n := by unfold loAt hiAt; split <;> omega
def keptLo (l : List Int) : Int := nth (sortI l) (loAt l.length)
def keptHi (l : List Int) : Int := nth (sortI l) (hiAt l.length)
/-- Kept, by the document. -/
def keptS (l : List Int) : Int × Int × Int :=
  if l.length = 0 then (0, 0, 4) else if nth (sortI l) 0 < -mOff ∨ mOff < nth (sortI l) (l.length - 1) then (0, 0, 80) else (keptLo l, keptHi l, 0)
theorem keptS_in {l : List Int} (h0 : 0 < l.length) (h : inOff l) : keptS l = (keptLo l, keptHi l, 0) := by
  unfold keptS
  rw [if_neg (by omega), if_neg]
  have h1 := (sort_first l h0 (-mOff)).2 fun y hy => (h y hy).1
  have h2 := (sort_last l h0 mOff).2 fun y hy => (h y hy).2
  omega
theorem keptS_ok {l : List Int} (h : (keptS l).2.2 = 0) : 0 < l.length ∧ inOff l := by
  unfold keptS at h
  split at h
  · cases h
  · split at h
    · cases h
    · rename_i h0 h1
      have hl : 0 < l.length := by omega
      refine ⟨hl, fun y hy => ⟨(sort_first l hl (-mOff)).1 (by omega) y hy, (sort_last l hl mOff).1 (by omega) y hy⟩⟩
def midOf (l : List Int) : Int := (keptLo l + keptHi l) / 2
def midS (l : List Int) : Int × Int := (((keptS l).1 + (keptS l).2.1) / 2, (keptS l).2.2)
theorem midS_in {l : List Int} (h0 : 0 < l.length) (h : inOff l) : midS l = (midOf l, 0) := by
  unfold midS; rw [keptS_in h0 h]; rfl
theorem midOf_under (l m : List Int) (d : Int) (h : l.length = m.length) (hp : ∀ i, i < l.length → nth l i ≤ nth m i + d) (h0 : 0 < l.length) : midOf l ≤ midOf m + d := by
  have h1 := sort_under l m d h hp (loAt l.length) (loAt_lt h0)
  have h2 := sort_under l m d h hp (hiAt l.length) (hiAt_lt h0)
  unfold midOf keptLo keptHi
  rw [← h]; omega
theorem midOf_map (l : List Int) (c : Int) (h0 : 0 < l.length) : midOf (l.map (· + c)) = midOf l + c := by
  have h1 := sort_map l c (loAt l.length) (loAt_lt h0)
  have h2 := sort_map l c (hiAt l.length) (hiAt_lt h0)
  unfold midOf keptLo keptHi
  rw [List.length_map, h1, h2]; omega
theorem midOf_turned {l m : List Int} (h : l.Perm m) (h0 : 0 < l.length) : midOf l = midOf m := by
  unfold midOf keptLo keptHi
  rw [sort_turned h _ (loAt_lt h0), sort_turned h _ (hiAt_lt h0), h.length_eq]
theorem midOf_within (l : List Int) (h0 : 0 < l.length) : keptLo l ≤ midOf l ∧ midOf l ≤ keptHi l := by
  have := sort_rises l (loAt_hiAt (n := l.length)) (hiAt_lt h0)
  unfold midOf keptLo keptHi; omega
theorem keptLo_in {l : List Int} (h0 : 0 < l.length) (h : inOff l) : -mOff ≤ keptLo l ∧ keptLo l ≤ keptHi l ∧ keptHi l ≤ mOff := by
  have h1 := (sort_first l h0 (-mOff)).2 fun y hy => (h y hy).1
  have h2 := (sort_last l h0 mOff).2 fun y hy => (h y hy).2
  have h3 := sort_rises l (Nat.zero_le (loAt l.length)) (loAt_lt h0)
  have h4 := sort_rises l (loAt_hiAt (n := l.length)) (hiAt_lt h0)
  have h5 := sort_rises l (i := hiAt l.length) (j := l.length - 1) (by have := hiAt_lt h0; omega) (by omega)
  unfold keptLo keptHi; omega

/-- The greatest of some numbers less the least one. -/
def spreadS (l : List Int) : Int := if l.length = 0 then 0 else nth (sortI l) (l.length - 1) - nth (sortI l) 0

/-- One fault. -/
theorem cntL_erase (x : Int) : ∀ (l : List Int) (k : Nat), k < l.length → cntL x (l.eraseIdx k) + (if nth l k ≤ x then 1 else 0) = cntL x l := by
  intro l
  induction l with
  | nil => intro k hk; simp at hk
  | cons a t ih =>
    intro k hk
    cases k with
    | zero => show cntL x t + _ = _; rw [cntL_cons]; rfl
    | succ k =>
      have := ih k (by simpa using hk)
      show cntL x (a :: t.eraseIdx k) + (if nth t k ≤ x then 1 else 0) = _
      rw [cntL_cons, cntL_cons]; omega
theorem fault_half (a b : List Int) (k : Nat) (e S lo hi : Int) (hl : a.length = b.length) (h4 : 4 ≤ a.length) (hk : k < a.length)
    (hp : ∀ i, i < a.length - 1 → nth (a.eraseIdx k) i ≤ nth (b.eraseIdx k) i + e) (hlo : ∀ y ∈ b.eraseIdx k, lo ≤ y) (hhi : ∀ y ∈ a.eraseIdx k, y ≤ hi) (hS : hi - lo ≤ S) :
    2 * (midOf a - midOf b) ≤ S + e + 1 := by
  have hea : (a.eraseIdx k).length = a.length - 1 := List.length_eraseIdx_of_lt hk
  have heb : (b.eraseIdx k).length = b.length - 1 := List.length_eraseIdx_of_lt (by omega)
  have l1 : loAt a.length = 1 := by unfold loAt; rw [if_pos h4]
  have l2 : hiAt a.length = a.length - 2 := by unfold hiAt; rw [if_pos h4]
  -- what is left greatest of a is no greater than the greatest of the others
  have q1 : keptHi a ≤ hi := by
    unfold keptHi
    rw [l2, sort_nth a hi _ (by omega)]
    have := cntL_erase hi a k hk
    have := cntL_all hhi
    omega
  have q2 : lo ≤ keptLo b := by
    unfold keptLo
    rw [← hl, l1]
    have h1 := sort_nth b (lo - 1) 1 (by omega)
    have h2 := cntL_erase (lo - 1) b k (by omega)
    have h3 : cntL (lo - 1) (b.eraseIdx k) = 0 := cntL_none fun y hy => by have := hlo y hy; omega
    have : ¬ nth (sortI b) 1 ≤ lo - 1 := by rw [h1]; split at h2 <;> omega
    omega
  have q3 : keptLo a ≤ keptHi b + e := by
    unfold keptLo
    rw [l1, sort_nth a _ 1 (by omega)]
    have h1 : b.length - 2 < cntL (keptHi b) b := by
      rw [← sort_nth b _ _ (by omega)]; unfold keptHi; rw [← hl, l2]; exact Int.le_refl _
    have h2 := cntL_erase (keptHi b) b k (by omega)
    have h3 := cntL_under (keptHi b) e (a.eraseIdx k) (b.eraseIdx k) (by omega) (fun i hi => hp i (by omega))
    have h4 := cntL_erase (keptHi b + e) a k hk
    split at h2 <;> split at h4 <;> omega
  unfold midOf; omega
theorem foldl_min (x : Int) : ∀ (l : List Int) (a : Int), x ≤ l.foldl min a ↔ x ≤ a ∧ ∀ y ∈ l, x ≤ y := by
  intro l
  induction l with
  | nil => intro a; simp
  | cons b t ih => intro a; rw [List.foldl_cons, ih]; simp only [List.mem_cons, forall_eq_or_imp, Int.le_min, and_assoc]
theorem foldl_max (x : Int) : ∀ (l : List Int) (a : Int), l.foldl max a ≤ x ↔ a ≤ x ∧ ∀ y ∈ l, y ≤ x := by
  intro l
  induction l with
  | nil => intro a; simp
  | cons b t ih => intro a; rw [List.foldl_cons, ih]; simp only [List.mem_cons, forall_eq_or_imp, Int.max_le, and_assoc]
theorem nth_mem {l : List Int} {i : Nat} (h : i < l.length) : nth l i ∈ l := by rw [nth_at h]; exact List.getElem_mem h
theorem least_is (l : List Int) (h : 0 < l.length) : l.foldl min (nth l 0) = nth (sortI l) 0 := by
  have h1 := fun x => foldl_min x l (nth l 0)
  have h2 := sort_first l h
  have h3 := h1 (l.foldl min (nth l 0))
  have h4 := h1 (nth (sortI l) 0)
  have a1 : l.foldl min (nth l 0) ≤ nth (sortI l) 0 := (h2 _).2 (h3.1 (Int.le_refl _)).2
  have a2 : nth (sortI l) 0 ≤ l.foldl min (nth l 0) := h4.2 ⟨(h2 _).1 (Int.le_refl _) _ (nth_mem h), (h2 _).1 (Int.le_refl _)⟩
  omega
theorem most_is (l : List Int) (h : 0 < l.length) : l.foldl max (nth l 0) = nth (sortI l) (l.length - 1) := by
  have h1 := fun x => foldl_max x l (nth l 0)
  have h2 := sort_last l h
  have h3 := h1 (l.foldl max (nth l 0))
  have h4 := h1 (nth (sortI l) (l.length - 1))
  have a1 : nth (sortI l) (l.length - 1) ≤ l.foldl max (nth l 0) := (h2 _).2 (h3.1 (Int.le_refl _)).2
  have a2 : l.foldl max (nth l 0) ≤ nth (sortI l) (l.length - 1) := h4.2 ⟨(h2 _).1 (Int.le_refl _) _ (nth_mem h), (h2 _).1 (Int.le_refl _)⟩
  omega
theorem cntL_off (x v : Int) (l : List Int) (h : v ∈ l) : cntL x (l.erase v) + (if v ≤ x then 1 else 0) = cntL x l := by
  rw [← cntL_cons]; exact (cntL_perm (List.perm_cons_erase h) x).symm
theorem kept_ref (l : List Int) (h : 4 ≤ l.length) :
    ((l.erase (nth (sortI l) 0)).erase (nth (sortI l) (l.length - 1))).length = l.length - 2 ∧
    nth (sortI ((l.erase (nth (sortI l) 0)).erase (nth (sortI l) (l.length - 1)))) 0 = keptLo l ∧
    nth (sortI ((l.erase (nth (sortI l) 0)).erase (nth (sortI l) (l.length - 1)))) (((l.erase (nth (sortI l) 0)).erase (nth (sortI l) (l.length - 1))).length - 1) = keptHi l := by
  have g0 := fun x => sort_nth l x 0 (by omega)
  have g1 := fun x => sort_nth l x 1 (by omega)
  have g2 := fun x => sort_nth l x (l.length - 2) (by omega)
  have g3 := fun x => sort_nth l x (l.length - 1) (by omega)
  have m0 : nth (sortI l) 0 ∈ l := (sortI_perm l).mem_iff.1 (nth_mem (by rw [sortI_length]; omega))
  have m3 : nth (sortI l) (l.length - 1) ∈ l := (sortI_perm l).mem_iff.1 (nth_mem (by rw [sortI_length]; omega))
  have l1 : keptLo l = nth (sortI l) 1 := by unfold keptLo loAt; rw [if_pos h]
  have l2 : keptHi l = nth (sortI l) (l.length - 2) := by unfold keptHi hiAt; rw [if_pos h]
  rw [l1, l2]
  have hs := sort_first l (by omega)
  have ht := sort_last l (by omega)
  generalize nth (sortI l) 0 = a at *
  generalize nth (sortI l) (l.length - 1) = b at *
  have e1 := fun x => cntL_off x a l m0
  have le1 : (l.erase a).length = l.length - 1 := List.length_erase_of_mem m0
  have m4 : b ∈ l.erase a := by
    by_cases hab : a = b
    · subst hab
      have : 0 < (l.erase a).length := by omega
      have hy := nth_mem this
      have hyl := List.mem_of_mem_erase hy
      have c1 := (hs a).1 (Int.le_refl _) _ hyl
      have c2 := (ht a).1 (Int.le_refl _) _ hyl
      have : nth (l.erase a) 0 = a := by omega
      rw [this] at hy; exact hy
    · exact (List.mem_erase_of_ne (fun e => hab e.symm)).2 m3
  have e2 := fun x => cntL_off x b (l.erase a) m4
  have le2 : ((l.erase a).erase b).length = l.length - 2 := by rw [List.length_erase_of_mem m4, le1]; omega
  refine ⟨le2, eq_of_cntL fun x => ?_, eq_of_cntL fun x => ?_⟩
  · rw [sort_nth _ x 0 (by omega), g1]
    have := e1 x; have := e2 x; have := g0 x; have := g3 x; have := cntL_le x l
    split at * <;> split at * <;> omega
  · rw [sort_nth _ x _ (by omega), g2, le2]
    have := e1 x; have := e2 x; have := g0 x; have := g3 x; have := cntL_le x l
    split at * <;> split at * <;> omega
theorem kept_few (l : List Int) (h : ¬ 4 ≤ l.length) : keptLo l = nth (sortI l) 0 ∧ keptHi l = nth (sortI l) (l.length - 1) := by
  unfold keptLo keptHi loAt hiAt; rw [if_neg h, if_neg h]; exact ⟨rfl, rfl⟩
theorem erase_snoc (l : List Int) (a v : Int) : (l ++ [a]).erase v = if v ∈ l then l.erase v ++ [a] else if a = v then l else l ++ [a] := by
  rw [List.erase_append]
  split
  · rfl
  · rename_i h
    by_cases e : a = v
    · rw [if_pos e, e]; simp
    · rw [if_neg e, List.erase_cons_tail (by simpa using e)]; rfl
theorem take_nth (l : List Int) (k : Nat) (h : k < l.length) : l.take (k + 1) = l.take k ++ [nth l k] := by
  rw [List.take_add_one, nth_at h, List.getElem?_eq_getElem h]; rfl
end Go.Proofs.Ytlkmipcenlhacaa

namespace Go.Proofs.Ytlkmipcenlhacaa
open Go.RowKit

theorem Ints.take {n₀ : Nat} {W : World} {A : Option Addr} {l : List Int} (h : Ints n₀ W A l) (k : Nat) : Ints n₀ W A (l.take k) := fun hn => by
  obtain ⟨b, off, e, hlt, hc⟩ := h (by rintro rfl; simp at hn)
  refine ⟨b, off, e, hlt, fun j hj => ?_⟩
  rw [List.length_take] at hj
  have := hc j (by omega)
  rw [List.getElem?_take_of_lt (by omega)]
  exact this
theorem Ints.nAt {n₀ : Nat} {W : World} {A : Option Addr} {zs : List Int} (h : Ints n₀ W A zs) {k : Nat} (hk : k < zs.length) :
    ∃ b off, A = some ⟨b, off, none⟩ ∧ b < n₀ ∧ W.cell? ⟨b, off + k, none⟩ = some (.int .i64 (nth zs k)) := h.at_ hk
theorem ints_own {w : World} {base : Nat} {v : Value} {k : Nat} {l : List Int} (h : w.ownsRow base 2 1 v k (l.map (Value.int .i64))) : ∃ A c, v = .slice A l.length c ∧ l.length ≤ c ∧ (A = none → l.length = 0 ∧ c = 0) ∧ Ints w.heap.size w A l := by
  have hk : l.length = k := by have := h.1; rw [List.length_map] at this; omega
  rcases h.2 with ⟨rfl, h0⟩ | ⟨g, cap, cur, rfl, _, hh, hc, _⟩
  · exact ⟨none, 0, by rw [hk, h0], by omega, fun _ => ⟨by omega, rfl⟩, fun hne => absurd (List.eq_nil_of_length_eq_zero (hk.trans h0)) hne⟩
  · refine ⟨some ⟨g, 0, none⟩, cap, by rw [hk], by omega, (fun e => by cases e), fun _ => ⟨g, 0, rfl, (Array.getElem?_eq_some_iff.1 hh).1, fun j hj => ?_⟩⟩
    have e1 := h.cells (g := g) rfl j (.int .i64 (l[j]?.getD 0)) (by rw [List.getElem?_map, List.getElem?_eq_getElem hj]; rfl)
    rw [addr_add] at e1
    exact e1
theorem ints_cells {n₀ : Nat} {w : World} {a : Addr} {l : List Int} (h : Ints n₀ w (some a) l) (j : Nat) (u : Value) (hj : (l.map (Value.int .i64))[j]? = some u) : w.cell? (a.add j) = some u := by
  have hjl : j < l.length := by
    rcases Nat.lt_or_ge j l.length with h | h
    · exact h
    · rw [List.getElem?_eq_none (by simpa using h)] at hj; cases hj
  obtain ⟨b, off, e, _, hc⟩ := h (by rintro rfl; simp at hjl)
  injection e with e
  subst e
  rw [addr_add, hc j hjl, ← hj, List.getElem?_map, List.getElem?_eq_getElem hjl]; rfl
theorem ints_one (l : List Int) : ∀ x ∈ l.map (Value.int .i64), x.oneCell' = true := by
  intro x hx; obtain ⟨y, _, rfl⟩ := List.mem_map.1 hx; rfl
theorem Try.infoJ : (Try.prog.info? 2).map (fun i => (i.zero, i.size, i.bytes)) = some (some (.int .i64 0), 1, 8) := by kernel_rfl

theorem run_noInts (w : World) : (Instr.buildSlice 26 0 #[]).run Try.prog w = .ok (.slice (some ⟨w.heap.size, 0, none⟩) 0 0) (w.alloc (.cells #[] 2)) := by
  obtain ⟨i0, hi, _⟩ := info_parts Try.infoJ
  simp [Instr.buildSlice, run_underlying Try.underlying26, sizeOf, typeInfo, hi, newRow, Instr.fill]
  rw [show Array.range 0 = #[] from by simp [Array.range], Array.map_empty]

set_option maxRecDepth 4000 in
set_option maxHeartbeats 1000000 in
/-- slices.Clone: the same numbers, in memory of its own. -/
theorem jclone_any (A : Option Addr) (n c : Nat) (l : List Int) (w : World) (hn : n = l.length) (hm : n ≤ 65536) (hA : Ints w.heap.size w A l) (hc : A = none → n = 0 ∧ c = 0) :
    Calls Try.prog 22 #[.slice A n c] w fun e w' => ∃ v, e = .returned v ∧ w'.ownsRow w.heap.size 2 1 v n (l.map (Value.int .i64)) ∧ Below w.heap.size w w' := by
  have HN := Lib.hid hn; clear hn
  have HA := Lib.hid hA; clear hA
  obtain ⟨i0, hi, hz0, hz1, hz2⟩ := info_parts Try.infoJ
  have hnil := fun a n c w => Lib.run_eql_slice_nil (P := Try.prog) w 26 2 a n c 0 0 Try.underlying26
  cases A with
  | none =>
    obtain ⟨rfl, rfl⟩ := hc rfl
    clear hc
    go_enter Try.func22, Try.ntmps22
    go_wp2
    go_ret
    have : l = [] := List.eq_nil_of_length_eq_zero HN.out.symm
    subst this
    exact ⟨_, rfl, World.ownsRow_nil _ _ _ _, Below.refl _ _⟩
  | some a =>
    clear hc
    have hbs := run_noInts
    have hcs : (l.map (Value.int .i64)).length = n * 1 := by rw [List.length_map, HN.out]; omega
    have HCS := Lib.hid hcs; clear hcs
    go_enter Try.func22, Try.ntmps22
    go_wp2_with (at_builtin; refine wpList_append_own _ rfl _ _ 26 rfl w.heap.size 2 i0 (.int .i64 0) 1 8 Try.underlying26 hi hz0 hz1 hz2 rfl (by decide) _ 0 [] rfl (World.ownsRow_lit w #[] 0 (Nat.le_refl _) (by decide) rfl) a n c (l.map (Value.int .i64)) rfl HCS.out (fun j u hj => ints_cells (HA.out.below ((Below.refl _ _).alloc (Nat.le_refl _) _)) j u hj) (ints_one l) (by unfold maxLen; omega) (by omega) (by simp) ?_; intro v' w1 hown hgrow _)
    rw [List.nil_append, Nat.zero_add] at hown
    have hg2 : (w.alloc (.cells #[] 2)).grownBy w1 (some w.heap.size) := hgrow
    clear hnil hbs hgrow
    go_ret
    exact ⟨v', rfl, hown, ((Below.refl _ _).alloc (Nat.le_refl _) _).grown hg2 (by simp) (fun k e => by injection e with e; omega)⟩

theorem fold_snoc (f : Int → Int → Int) (l : List Int) (k : Nat) (a : Int) (h : k < l.length) : (l.take (k + 1)).foldl f a = f ((l.take k).foldl f a) (nth l k) := by
  rw [take_nth l k h, List.foldl_append]; rfl
theorem min_if (a b : Int) : (if b < a then b else a) = min a b := by
  rw [Int.min_def]; split <;> split <;> omega
theorem max_if (a b : Int) : (if a < b then b else a) = max a b := by
  rw [Int.max_def]; split <;> split <;> omega
set_option maxHeartbeats 1000000 in
theorem rleast_any (A : Option Addr) (n c : Nat) (l : List Int) (w : World) (hn : n = l.length) (hm : n ≤ maxLen) (h0 : 0 < n) (hA : Ints w.heap.size w A l) :
    Calls Try.prog 66 #[.slice A n c] w fun e w' => e = .returned (.int .i64 (nth (sortI l) 0)) ∧ w' = w := by
  unfold maxLen at hm
  have hR : l.foldl min (nth l 0) = (nth (sortI l) 0) := least_is l (by omega)
  generalize (nth (sortI l) 0) = R at hR ⊢
  obtain ⟨b, off, rfl, hbl, hc0⟩ := hA.nAt (k := 0) (by omega)
  rw [Nat.add_zero] at hc0
  have HN := Lib.hid hn; have HA := Lib.hid hA; have HR := Lib.hid hR; clear hn hA hR
  generalize hs : nth l 0 = s at *
  have HS := Lib.hid hs; clear hs
  go_enter Try.func66, Try.ntmps66
  go_wp2
  go_loopw [3, 4] (fun m i wr => ∃ k : Nat, k ≤ n ∧ m = .int .i64 ((l.take k).foldl min s) ∧ i = .int .i64 k ∧ wr = w) (fun _ i _ => n - (intOf i).toNat)
  case atStart => exact ⟨0, by omega, rfl, rfl, rfl⟩
  case round =>
    obtain ⟨k, hk, rfl, rfl, rfl⟩ := hrel
    by_cases hlt : k < n
    · have hkl : k < l.length := by have := HN.out; omega
      have hsn := fold_snoc min l k s hkl
      obtain ⟨b', off', e', hbl', hc1⟩ := HA.out.nAt hkl
      injection e' with e'; injection e' with e1 e2 _; subst e1; subst e2
      generalize (l.take k).foldl min s = u at *
      generalize nth l k = v at *
      have hif := min_if u v
      have HSN := Lib.hid hsn; have HIF := Lib.hid hif; clear hsn hif hc0 hkl
      go_wp2
      go_roundw
      case rel => exact ⟨k + 1, by omega, by rw [HSN.out, ← HIF.out], by go_num, by trivial⟩
      case measure => simp [intOf]; omega
    · have : l.take k = l := List.take_of_length_le (by have := HN.out; omega)
      rw [this, HR.out]
      clear hc0
      go_wp2
      go_ret
      exact ⟨rfl, rfl⟩
set_option maxHeartbeats 1000000 in
theorem rmost_any (A : Option Addr) (n c : Nat) (l : List Int) (w : World) (hn : n = l.length) (hm : n ≤ maxLen) (h0 : 0 < n) (hA : Ints w.heap.size w A l) :
    Calls Try.prog 67 #[.slice A n c] w fun e w' => e = .returned (.int .i64 (nth (sortI l) (l.length - 1))) ∧ w' = w := by
  unfold maxLen at hm
  have hR : l.foldl max (nth l 0) = (nth (sortI l) (l.length - 1)) := most_is l (by omega)
  generalize (nth (sortI l) (l.length - 1)) = R at hR ⊢
  obtain ⟨b, off, rfl, hbl, hc0⟩ := hA.nAt (k := 0) (by omega)
  rw [Nat.add_zero] at hc0
  have HN := Lib.hid hn; have HA := Lib.hid hA; have HR := Lib.hid hR; clear hn hA hR
  generalize hs : nth l 0 = s at *
  have HS := Lib.hid hs; clear hs
  go_enter Try.func67, Try.ntmps67
  go_wp2
  go_loopw [3, 4] (fun m i wr => ∃ k : Nat, k ≤ n ∧ m = .int .i64 ((l.take k).foldl max s) ∧ i = .int .i64 k ∧ wr = w) (fun _ i _ => n - (intOf i).toNat)
  case atStart => exact ⟨0, by omega, rfl, rfl, rfl⟩
  case round =>
    obtain ⟨k, hk, rfl, rfl, rfl⟩ := hrel
    by_cases hlt : k < n
    · have hkl : k < l.length := by have := HN.out; omega
      have hsn := fold_snoc max l k s hkl
      obtain ⟨b', off', e', hbl', hc1⟩ := HA.out.nAt hkl
      injection e' with e'; injection e' with e1 e2 _; subst e1; subst e2
      generalize (l.take k).foldl max s = u at *
      generalize nth l k = v at *
      have hif := max_if u v
      have HSN := Lib.hid hsn; have HIF := Lib.hid hif; clear hsn hif hc0 hkl
      go_wp2
      go_roundw
      case rel => exact ⟨k + 1, by omega, by rw [HSN.out, ← HIF.out], by go_num, by trivial⟩
      case measure => simp [intOf]; omega
    · have : l.take k = l := List.take_of_length_le (by have := HN.out; omega)
      rw [this, HR.out]
      clear hc0
      go_wp2
      go_ret
      exact ⟨rfl, rfl⟩
end Go.Proofs.Ytlkmipcenlhacaa

namespace Go.Proofs.Ytlkmipcenlhacaa
open Go.RowKit

theorem own_slice {W : World} {b : Nat} {e : TypeId} {sz : Nat} {v : Value} {n : Nat} {xs : List Value} (h : W.ownsRow b e sz v n xs) : ∃ A c, v = .slice A n c := by
  rcases h.2 with ⟨rfl, rfl⟩ | ⟨g, cap, cur, rfl, _⟩
  · exact ⟨none, 0, rfl⟩
  · exact ⟨_, _, rfl⟩
theorem cell_one_new (w : World) (x : Value) (t : TypeId) : ∀ j u, [x][j]? = some u → (w.alloc (.cells #[x] t)).cell? ((⟨w.heap.size, 0, none⟩ : Addr).add j) = some u := by
  intro j u hj
  match j, hj with
  | 0, hj => simp at hj; subst hj; simp [Addr.add]
  | j + 1, hj => simp at hj
theorem same_snoc {α : Type} {l m : List α} {k : Nat} (h : l.take k = m.take k) (hk : l[k]? = m[k]?) : l.take (k + 1) = m.take (k + 1) := by
  rw [List.take_add_one, List.take_add_one, h, hk]
theorem same_whole {α : Type} {l m : List α} {k : Nat} (h : l.take k = m.take k) (h1 : k = l.length) (h2 : k = m.length) : l = m := by
  have e1 : l.take k = l := List.take_of_length_le (by omega)
  have e2 : m.take k = m := List.take_of_length_le (by omega)
  rw [e1, e2] at h; exact h
theorem at_same {α : Type} {l m : List α} {k : Nat} {d : α} (h1 : k < l.length) (h2 : k < m.length) (h : l[k]?.getD d = m[k]?.getD d) : l[k]? = m[k]? := by
  rw [List.getElem?_eq_getElem h1, List.getElem?_eq_getElem h2] at *
  simpa using h
set_option maxHeartbeats 1000000 in
theorem jsame_any (A B : Option Addr) (n m c d : Nat) (x y : List Int) (w : World) (hn : n = x.length) (hm : m = y.length) (hx : n ≤ maxLen) (hy : m ≤ maxLen) (hA : Ints w.heap.size w A x) (hB : Ints w.heap.size w B y) :
    Calls Try.prog 29 #[.slice A n c, .slice B m d] w fun e w' => e = .returned (.bool (decide (x = y))) ∧ Below w.heap.size w w' := by
  unfold maxLen at hx hy
  by_cases hl : n = m
  rotate_left
  · have hne : decide (x = y) = false := by simp; rintro rfl; exact hl (hn.trans hm.symm)
    have d0 : decide ((n : Int) = (m : Int)) = false := by simp; omega
    have d1 : ((n : Int) != (m : Int)) = true := by simp; omega
    have d2 : ((n : Int) == (m : Int)) = false := by simp; omega
    rw [hne]
    clear hn hm hA hB hl hne
    go_enter Try.func29, Try.ntmps29
    go_wp2
    go_ret
    exact ⟨rfl, Below.refl _ _⟩
  subst hl
  obtain ⟨R, hR⟩ : ∃ R, R = decide (x = y) := ⟨_, rfl⟩
  rw [← hR]
  have HN := Lib.hid hn; have HM := Lib.hid hm; have HA := Lib.hid hA; have HB := Lib.hid hB; have HR := Lib.hid hR; clear hn hm hA hB hR hy
  go_enter Try.func29, Try.ntmps29
  go_wp2
  go_loopw [13] (fun i wr => ∃ k : Nat, k ≤ n ∧ i = .int .i64 k ∧ x.take k = y.take k ∧ Below w.heap.size w wr) (fun i _ => n - (intOf i).toNat)
  case atStart => exact ⟨0, by omega, rfl, rfl, Below.refl _ _⟩
  case round =>
    obtain ⟨k, hk, rfl, hs, hBr⟩ := hrel
    have HS := Lib.hid hs; clear hs
    by_cases hlt : k < n
    · have hkl : k < x.length := by have := HN.out; omega
      have hkm : k < y.length := by have := HM.out; omega
      obtain ⟨b, off, rfl, hbl, hc0⟩ := (HA.out.below hBr).at_ hkl
      obtain ⟨b', off', rfl, hbl', hc1⟩ := (HB.out.below hBr).at_ hkm
      have hbs : b < wr.heap.size := Nat.lt_of_lt_of_le hbl hBr.size
      have hbs' : b' < wr.heap.size := Nat.lt_of_lt_of_le hbl' hBr.size
      by_cases he : x[k]?.getD 0 = y[k]?.getD 0
      · have hs2 := same_snoc HS.out (at_same hkl hkm he)
        have HS2 := Lib.hid hs2; clear hs2
        rw [he] at hc0
        clear he
        generalize y[k]?.getD 0 = v at *
        clear hkl hkm
        go_wp2
        go_quiet (fail)
        go_wp2
        go_roundw
        case rel => exact ⟨k + 1, by omega, by go_num, HS2.out, below_drewN hBr _⟩
        case measure => simp [intOf]; omega
      · obtain rfl : R = false := by rw [HR.out]; simp; rintro rfl; exact he rfl
        generalize x[k]?.getD 0 = u at *
        generalize y[k]?.getD 0 = v at *
        have d1 : (u != v) = true := by simpa using he
        have d2 : (u == v) = false := by simpa using he
        all_goals
          clear he hkl hkm
          go_wp2
          go_quiet (fail)
          go_wp2
          go_ret
          exact ⟨rfl, below_drewN hBr _⟩
    · obtain rfl : R = true := by rw [HR.out]; exact decide_eq_true (same_whole HS.out (by have := HN.out; omega) (by have := HM.out; omega))
      go_wp2
      go_ret
      exact ⟨rfl, hBr⟩

set_option maxRecDepth 4000 in
set_option maxHeartbeats 2000000 in
/-- The numbers without one of them. -/
theorem without_any (A : Option Addr) (n c : Nat) (l : List Int) (v : Int) (w : World) (hn : n = l.length) (hm : n ≤ 65536) (hA : Ints w.heap.size w A l) :
    Calls Try.prog 68 #[.slice A n c, .int .i64 v] w fun e w' => ∃ B d, e = .returned (.slice B (l.erase v).length d) ∧ w'.ownsRow w.heap.size 2 1 (.slice B (l.erase v).length d) (l.erase v).length ((l.erase v).map (Value.int .i64)) ∧ Below w.heap.size w w' := by
  obtain ⟨i0, hi, hz0, hz1, hz2⟩ := info_parts Try.infoJ
  have HN := Lib.hid hn; have HA := Lib.hid hA; clear hn hA
  go_enter Try.func68, Try.ntmps68
  go_wp2
  go_loopw [5, 6, 7] (fun x d i wr => ∃ (k m : Nat) (B : Option Addr) (cb : Nat), k ≤ n ∧ i = .int .i64 k ∧ x = .slice B m cb ∧ m = ((l.take k).erase v).length ∧ m ≤ k ∧ d = .bool (decide (v ∈ l.take k)) ∧ wr.ownsRow w.heap.size 2 1 (.slice B m cb) m (((l.take k).erase v).map (Value.int .i64)) ∧ Below w.heap.size w wr) (fun _ _ i _ => n - (intOf i).toNat)
  case atStart => exact ⟨0, 0, none, 0, by omega, rfl, rfl, rfl, by omega, by simp, World.ownsRow_nil _ _ _ _, Below.refl _ _⟩
  case round =>
    obtain ⟨k, m, B, cb, hk, rfl, rfl, hml, hmk, rfl, ho, hB⟩ := hrel
    by_cases hlt : k < n
    · have hkl : k < l.length := by have := HN.out; omega
      obtain ⟨b, off, rfl, hbl, hc1⟩ := (HA.out.below hB).nAt hkl
      have hbs : b < wr.heap.size := Nat.lt_of_lt_of_le hbl hB.size
      have hsn := erase_snoc (l.take k) (nth l k) v
      have htk := take_nth l k hkl
      have hmem : decide (v ∈ l.take (k + 1)) = (decide (v ∈ l.take k) || decide (nth l k = v)) := by
        rw [htk]; simp only [List.mem_append, List.mem_singleton]
        by_cases h1 : v ∈ l.take k <;> by_cases h2 : nth l k = v <;> simp [h1, h2]; exact fun h => h2 h.symm
      rw [← htk] at hsn
      generalize nth l k = y at *
      by_cases hd : v ∈ l.take k
      · rw [if_pos hd] at hsn
        have d1 : decide (v ∈ l.take k) = true := decide_eq_true hd
        rw [d1, Bool.true_or] at hmem
        have hlen : (((l.take (k + 1)).erase v)).length = m + 1 := by rw [hsn]; simp; omega
        have hmap : ((l.take (k + 1)).erase v).map (Value.int .i64) = ((l.take k).erase v).map (Value.int .i64) ++ [.int .i64 y] := by rw [hsn]; simp
        rw [d1]
        have HL := Lib.hid hlen; have HM := Lib.hid hmap; have HD := Lib.hid hmem
        clear hlen hmap hmem hsn htk hd d1 hml hkl
        generalize List.map (Value.int .i64) (List.erase (List.take k l) v) = xs at *
        by_cases hy : y = v
        · subst hy
          go_wp2_with (at_builtin; refine wpList_append_own _ rfl _ _ 26 rfl w.heap.size 2 i0 (.int .i64 0) 1 8 Try.underlying26 hi hz0 hz1 hz2 rfl (by decide) (.slice B m cb) m _ rfl (ho.alloc _) ⟨wr.heap.size, 0, none⟩ 1 1 [.int .i64 y] rfl rfl (cell_one_new _ _ _) (by simp [Value.oneCell']) (by unfold maxLen; omega) (by omega) (by have := hB.size; simp; omega) ?_; intro v' w2 hown hgrow _; obtain ⟨A2, c2, rfl⟩ := own_slice hown; have hb2 := own_below ho hgrow hB (Nat.le_refl _) hB.size)
          go_roundw
          case rel => exact ⟨k + 1, m + 1, A2, c2, by omega, by go_num, rfl, HL.out.symm, by omega, by rw [HD.out], by rw [HM.out]; exact hown, hb2⟩
          case measure => simp [intOf]; omega
        · have d2 : decide (y = v) = false := decide_eq_false hy
          have d3 : (y == v) = false := by simpa using hy
          go_wp2_with (at_builtin; refine wpList_append_own _ rfl _ _ 26 rfl w.heap.size 2 i0 (.int .i64 0) 1 8 Try.underlying26 hi hz0 hz1 hz2 rfl (by decide) (.slice B m cb) m _ rfl (ho.alloc _) ⟨wr.heap.size, 0, none⟩ 1 1 [.int .i64 y] rfl rfl (cell_one_new _ _ _) (by simp [Value.oneCell']) (by unfold maxLen; omega) (by omega) (by have := hB.size; simp; omega) ?_; intro v' w2 hown hgrow _; obtain ⟨A2, c2, rfl⟩ := own_slice hown; have hb2 := own_below ho hgrow hB (Nat.le_refl _) hB.size)
          go_roundw
          case rel => exact ⟨k + 1, m + 1, A2, c2, by omega, by go_num, rfl, HL.out.symm, by omega, by rw [HD.out], by rw [HM.out]; exact hown, hb2⟩
          case measure => simp [intOf]; omega
      · rw [if_neg hd] at hsn
        have d1 : decide (v ∈ l.take k) = false := decide_eq_false hd
        have her : (l.take k).erase v = l.take k := List.erase_of_not_mem hd
        rw [d1, Bool.false_or] at hmem
        rw [d1]
        rw [her] at hml ho
        by_cases hy : y = v
        · rw [if_pos hy] at hsn
          subst hy
          have d4 : decide (y ∈ l.take (k + 1)) = true := by rw [hmem]; simp
          have HL := Lib.hid hsn; have HD := Lib.hid d4; have HM := Lib.hid hml
          clear hmem hsn htk hd d1 d4 her hml hkl
          go_wp2
          go_roundw
          case rel => exact ⟨k + 1, m, B, cb, by omega, by go_num, rfl, by rw [HL.out]; exact HM.out, by omega, by rw [HD.out], by rw [HL.out]; exact ho, hB⟩
          case measure => simp [intOf]; omega
        · rw [if_neg hy] at hsn
          have d2 : decide (y = v) = false := decide_eq_false hy
          have d3 : (y == v) = false := by simpa using hy
          rw [d2] at hmem
          have hlen : (((l.take (k + 1)).erase v)).length = m + 1 := by rw [hsn, htk, hml]; simp
          have hmap : ((l.take (k + 1)).erase v).map (Value.int .i64) = (l.take k).map (Value.int .i64) ++ [.int .i64 y] := by rw [hsn, htk]; simp
          have HL := Lib.hid hlen; have HM := Lib.hid hmap; have HD := Lib.hid hmem
          clear hlen hmap hmem hsn htk hd d1 hml hkl her hy
          generalize List.map (Value.int .i64) (List.take k l) = xs at *
          go_wp2_with (at_builtin; refine wpList_append_own _ rfl _ _ 26 rfl w.heap.size 2 i0 (.int .i64 0) 1 8 Try.underlying26 hi hz0 hz1 hz2 rfl (by decide) (.slice B m cb) m _ rfl (ho.alloc _) ⟨wr.heap.size, 0, none⟩ 1 1 [.int .i64 y] rfl rfl (cell_one_new _ _ _) (by simp [Value.oneCell']) (by unfold maxLen; omega) (by omega) (by have := hB.size; simp; omega) ?_; intro v' w2 hown hgrow _; obtain ⟨A2, c2, rfl⟩ := own_slice hown; have hb2 := own_below ho hgrow hB (Nat.le_refl _) hB.size)
          go_roundw
          case rel => exact ⟨k + 1, m + 1, A2, c2, by omega, by go_num, rfl, HL.out.symm, by omega, by rw [HD.out], by rw [HM.out]; exact hown, hb2⟩
          case measure => simp [intOf]; omega
    · have htk : l.take k = l := List.take_of_length_le (by have := HN.out; omega)
      rw [htk] at hml ho
      subst hml
      go_wp2
      go_ret
      exact ⟨B, cb, rfl, ho, hB⟩
end Go.Proofs.Ytlkmipcenlhacaa

namespace Go.Proofs.Ytlkmipcenlhacaa
open Go.RowKit

theorem keptS_none {l : List Int} (h : l.length = 0) : keptS l = (0, 0, 4) := by unfold keptS; rw [if_pos h]
theorem keptS_off {l : List Int} (h : ¬ l.length = 0) (h1 : nth (sortI l) 0 < -mOff ∨ mOff < nth (sortI l) (l.length - 1)) : keptS l = (0, 0, 80) := by unfold keptS; rw [if_neg h, if_pos h1]
theorem keptS_fit {l : List Int} (h : ¬ l.length = 0) (h1 : ¬ (nth (sortI l) 0 < -mOff ∨ mOff < nth (sortI l) (l.length - 1))) : keptS l = (keptLo l, keptHi l, 0) := by unfold keptS; rw [if_neg h, if_neg h1]
theorem keptS_bound (l : List Int) : -mOff ≤ (keptS l).1 ∧ (keptS l).1 ≤ (keptS l).2.1 ∧ (keptS l).2.1 ≤ mOff := by
  unfold keptS
  split
  · unfold mOff; decide
  · split
    · unfold mOff; decide
    · rename_i h0 h1
      have h3 := sort_rises l (Nat.zero_le (loAt l.length)) (loAt_lt (by omega))
      have h4 := sort_rises l (loAt_hiAt (n := l.length)) (hiAt_lt (by omega))
      have h5 := sort_rises l (i := hiAt l.length) (j := l.length - 1) (by have := hiAt_lt (n := l.length) (by omega); omega) (by omega)
      show -mOff ≤ keptLo l ∧ keptLo l ≤ keptHi l ∧ keptHi l ≤ mOff
      unfold keptLo keptHi; omega

/-- What Kept answers. -/
def keptV (r : Int × Int × Int) : Value := .tuple #[.int .i64 r.1, .int .i64 r.2.1, .int .i64 r.2.2]

set_option maxRecDepth 4000 in
set_option maxHeartbeats 2000000 in
theorem rkept_any (A : Option Addr) (n c : Nat) (l : List Int) (w : World) (hn : n = l.length) (hm : n ≤ 65536) (hA : Ints w.heap.size w A l) :
    Calls Try.prog 57 #[.slice A n c] w fun e w' => e = .returned (keptV (keptS l)) ∧ Below w.heap.size w w' := by
  by_cases h0 : n = 0
  · subst h0
    rw [keptS_none hn.symm]
    clear hA hn
    go_enter Try.func57, Try.ntmps57
    go_wp2
    go_ret3
    exact ⟨rfl, Below.refl _ _⟩
  have d0 : decide ((n : Int) = 0) = false := by simp; omega
  have d0' : ((n : Int) == 0) = false := by simp; omega
  have hlo := rleast_any A n c l w hn (by unfold maxLen; omega) (by omega) hA
  have hhi := rmost_any A n c l w hn (by unfold maxLen; omega) (by omega) hA
  by_cases h1 : nth (sortI l) 0 < -mOff
  · rw [keptS_off (by omega) (.inl h1)]
    generalize nth (sortI l) 0 = lo at *
    unfold mOff at h1
    have HLO := Lib.hid hlo; clear hlo hhi hA hn
    go_enter Try.func57, Try.ntmps57
    go_wp2_with (go_at_call 66; refine HLO.out.mono ?_; rintro e w1 ⟨rfl, rfl⟩)
    go_ret3
    exact ⟨rfl, Below.refl _ _⟩
  have d1 : decide (nth (sortI l) 0 < -1099511627776) = false := by unfold mOff at h1; simp; omega
  by_cases h2 : mOff < nth (sortI l) (l.length - 1)
  · rw [keptS_off (by omega) (.inr h2)]
    generalize nth (sortI l) 0 = lo at *
    generalize nth (sortI l) (l.length - 1) = hi at *
    unfold mOff at h2
    have HLO := Lib.hid hlo; have HHI := Lib.hid hhi; clear hlo hhi hA hn h1
    go_enter Try.func57, Try.ntmps57
    go_wp2_with (first | (go_at_call 66; refine HLO.out.mono ?_; rintro e w1 ⟨rfl, rfl⟩) | (go_at_call 67; refine HHI.out.mono ?_; rintro e w1 ⟨rfl, rfl⟩))
    go_ret3
    exact ⟨rfl, Below.refl _ _⟩
  have d2 : decide (nth (sortI l) (l.length - 1) ≤ 1099511627776) = true := by unfold mOff at h2; simp; omega
  have d2' : decide (1099511627776 < nth (sortI l) (l.length - 1)) = false := by unfold mOff at h2; simp; omega
  rw [keptS_fit (by omega) (by omega)]
  by_cases h4 : 4 ≤ n
  · have hw := without_any A n c l (nth (sortI l) 0) w hn hm hA
    have hml := fun w1 (h : Below w.heap.size w w1) => rmost_any A n c l w1 hn (by unfold maxLen; omega) (by omega) ((hA.below h).mono h.size)
    have hmi : 0 < l.length := by omega
    have hk := kept_ref l (by omega)
    have hle : (l.erase (nth (sortI l) 0)).length ≤ n := by rw [hn]; exact List.length_erase_le
    have hw2 := fun B d w1 (h : Ints w1.heap.size w1 B (l.erase (nth (sortI l) 0))) => without_any B _ d (l.erase (nth (sortI l) 0)) (nth (sortI l) (l.length - 1)) w1 rfl (by omega) h
    generalize nth (sortI l) 0 = lo at *
    generalize nth (sortI l) (l.length - 1) = hi at *
    generalize hl1 : l.erase lo = l1 at *
    generalize hl2 : l1.erase hi = l2 at *
    obtain ⟨hk0, hk1, hk2⟩ := hk
    rw [← hk1, ← hk2]
    have HN2 : l2.length = n - 2 := by omega
    have hlo2 := fun B d w2 (h : Ints w2.heap.size w2 B l2) => rleast_any B _ d l2 w2 rfl (by unfold maxLen; omega) (by omega) h
    have hhi2 := fun B d w2 (h : Ints w2.heap.size w2 B l2) => rmost_any B _ d l2 w2 rfl (by unfold maxLen; omega) (by omega) h
    have HLO := Lib.hid hlo; have HW := Lib.hid hw; have HW2 := Lib.hid hw2; have HML := Lib.hid hml; have HLO2 := Lib.hid hlo2; have HHI2 := Lib.hid hhi2
    have d4 : decide (4 ≤ (n : Int)) = true := by simp; omega
    have d5 : decide (hi ≤ 1099511627776) = true := d2
    have d6 : decide (1099511627776 < hi) = false := d2'
    clear hlo hhi hw hw2 hml hlo2 hhi2 hA hn h1 h2 hk0 hk1 hk2 hl1 hl2 hle HN2 d2 d2' hmi
    generalize nth (sortI l2) 0 = a at *
    generalize nth (sortI l2) (l2.length - 1) = b at *
    go_enter Try.func57, Try.ntmps57
    go_wp2_with (first
      | (have _ := hI2; go_at_call 67; refine (HHI2.out _ _ _ hI2).mono ?_; rintro e w6 ⟨rfl, rfl⟩)
      | (have _ := hI2; go_at_call 66; refine (HLO2.out _ _ _ hI2).mono ?_; rintro e w5 ⟨rfl, rfl⟩)
      | (have _ := hI; go_at_call 68; refine (HW2.out _ _ _ hI).mono ?_; rintro e w4 ⟨B2, d2, rfl, ho2, hB2⟩; obtain ⟨B3, d3, e3, -, -, hI2⟩ := ints_own ho2; injection e3 with e3 e4 e5; subst e3; subst e5)
      | (have _ := hI; go_at_call 67; refine (HML.out _ hB).mono ?_; rintro e w3 ⟨rfl, rfl⟩)
      | (go_at_call 68; refine HW.out.mono ?_; rintro e w2 ⟨B, d, rfl, ho, hB⟩; obtain ⟨B', d', e1, -, -, hI⟩ := ints_own ho; injection e1 with e1 e2 e3; subst e1; subst e3)
      | (go_at_call 67; refine (HML.out _ (Below.refl _ _)).mono ?_; rintro e w3 ⟨rfl, rfl⟩)
      | (go_at_call 66; refine HLO.out.mono ?_; rintro e w1 ⟨rfl, rfl⟩))
    go_ret3
    exact ⟨rfl, hB.trans (hB2.mono hB.size)⟩
  · have hk := kept_few l (by omega)
    rw [hk.1, hk.2]
    generalize nth (sortI l) 0 = lo at *
    generalize nth (sortI l) (l.length - 1) = hi at *
    have d4 : decide (4 ≤ (n : Int)) = false := by simp; omega
    have HLO := Lib.hid hlo; have HHI := Lib.hid hhi; clear hlo hhi hA hn h1 h2 hk
    go_enter Try.func57, Try.ntmps57
    go_wp2_with (first | (go_at_call 66; refine HLO.out.mono ?_; rintro e w1 ⟨rfl, rfl⟩) | (go_at_call 67; refine HHI.out.mono ?_; rintro e w1 ⟨rfl, rfl⟩))
    go_ret3
    exact ⟨rfl, Below.refl _ _⟩
end Go.Proofs.Ytlkmipcenlhacaa

namespace Go.Proofs.Ytlkmipcenlhacaa
open Go.RowKit

theorem keptS_err {l : List Int} (h : ¬ (keptS l).2.2 = 0) : (keptS l).1 = 0 ∧ (keptS l).2.1 = 0 := by
  unfold keptS at *
  split
  · exact ⟨rfl, rfl⟩
  · split
    · exact ⟨rfl, rfl⟩
    · rename_i h0 h1; rw [if_neg h0, if_neg h1] at h; exact absurd rfl h
theorem half_up (s : Int) (h : 0 ≤ s) : s.tdiv 2 = s / 2 := Int.tdiv_eq_ediv_of_nonneg h
theorem half_even (s : Int) (h : s.tmod 2 = 0) : s.tdiv 2 = s / 2 := by
  have := Int.mul_tdiv_add_tmod s 2; omega
theorem half_odd (s : Int) (h0 : s < 0) (h : ¬ s.tmod 2 = 0) : s.tdiv 2 - 1 = s / 2 := by
  have h1 := Int.mul_tdiv_add_tmod s 2
  have h2 := Int.neg_tmod (-s) 2
  rw [Int.neg_neg] at h2
  have h3 := Int.tmod_nonneg (a := -s) 2 (by omega)
  have h4 := Int.tmod_lt_of_pos (-s) (b := 2) (by decide)
  omega
/-- What Midpoint answers. -/
def midV (r : Int × Int) : Value := .tuple #[.int .i64 r.1, .int .i64 r.2]

set_option maxRecDepth 4000 in
set_option maxHeartbeats 1000000 in
theorem rmid_any (A : Option Addr) (n c : Nat) (l : List Int) (w : World) (hn : n = l.length) (hm : n ≤ 65536) (hA : Ints w.heap.size w A l) :
    Calls Try.prog 38 #[.slice A n c] w fun e w' => e = .returned (midV (midS l)) ∧ Below w.heap.size w w' := by
  have hk := rkept_any A n c l w hn hm hA
  have hb := keptS_bound l
  have he := keptS_err (l := l)
  unfold midV midS
  unfold keptV at hk
  generalize keptS l = r at *
  obtain ⟨a, b, e⟩ := r
  dsimp only at *
  unfold mOff at hb
  have HK := Lib.hid hk; clear hk hA hn
  have e1 : IntKind.i64.wrap (a + b) = a + b := IntWalk.i64_in _ (by omega)
  by_cases h0 : e = 0
  · subst h0
    clear he
    generalize hs : a + b = s at *
    by_cases h1 : s < 0
    · have d1 : decide (s < 0) = true := by simpa using h1
      by_cases h2 : s.tmod 2 = 0
      · have hq := half_even s h2
        have d2 : (s.tmod 2 == 0) = true := by simpa using h2
        have d3 : (s.tmod 2 != 0) = false := by simpa using h2
        obtain ⟨q, hs2⟩ : ∃ q, s / 2 = q := ⟨_, rfl⟩
        rw [hs2] at hq ⊢
        have e2 : IntKind.i64.wrap q = q := IntWalk.i64_in _ (by omega)
        clear h2 hs2
        go_enter Try.func38, Try.ntmps38
        go_wp2_with (go_at_call 57; refine HK.out.mono ?_; rintro e w1 ⟨rfl, hB⟩)
        go_ret2
        exact ⟨rfl, hB⟩
      · have hq := half_odd s h1 h2
        have d2 : (s.tmod 2 == 0) = false := by simpa using h2
        have d3 : (s.tmod 2 != 0) = true := by simpa using h2
        rw [← hq]
        obtain ⟨q, hq2⟩ : ∃ q, s.tdiv 2 = q := ⟨_, rfl⟩
        rw [hq2] at hq ⊢
        have e2 : IntKind.i64.wrap (q - 1) = q - 1 := IntWalk.i64_in _ (by omega)
        have e3 : IntKind.i64.wrap q = q := IntWalk.i64_in _ (by omega)
        have HQ := Lib.hid hq
        clear h2 hq
        go_enter Try.func38, Try.ntmps38
        go_wp2_with (go_at_call 57; refine HK.out.mono ?_; rintro e w1 ⟨rfl, hB⟩)
        go_ret2
        exact ⟨rfl, hB⟩
    · have d1 : decide (s < 0) = false := by simpa using h1
      have hq := half_up s (by omega)
      clear hq
      go_enter Try.func38, Try.ntmps38
      go_wp2_with (go_at_call 57; refine HK.out.mono ?_; rintro e w1 ⟨rfl, hB⟩)
      go_ret2
      exact ⟨rfl, hB⟩
  · obtain ⟨rfl, rfl⟩ := he h0
    have d0 : decide (e = 0) = false := by simpa using h0
    have d1 : (e == 0) = false := by simpa using h0
    have d2 : (e != 0) = true := by simpa using h0
    clear hb e1 he
    go_enter Try.func38, Try.ntmps38
    go_wp2_with (go_at_call 57; refine HK.out.mono ?_; rintro e w1 ⟨rfl, hB⟩)
    go_ret2
    exact ⟨rfl, hB⟩

end Go.Proofs.Ytlkmipcenlhacaa
