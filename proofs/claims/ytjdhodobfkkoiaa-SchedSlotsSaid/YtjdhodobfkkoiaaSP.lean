/-
  Plain facts of spans, over no program: spans put together by putting one in behind the other, or by going through them sorted, are the one list of spans that rise, do not touch, and have just those moments. No condition but those that each theorem names.
-/
import Derived.Test.YtjdhodobfkkoiaaSD
namespace Go.Proofs.Ytjdhodobfkkoiaa
open Go.RowKit

/-- Has a span a moment? -/
abbrev hasS (s : Sp) (t : Int) : Prop := s.1 ≤ t ∧ t < s.2
def inS (l : List Sp) (t : Int) : Prop := ∃ s ∈ l, hasS s t
/-- Spans that rise, none empty, none that meets or touches another one. -/
def Normal (l : List Sp) : Prop := l.Pairwise (fun x y => x.2 < y.1) ∧ ∀ x ∈ l, x.1 < x.2
/-- A span put into spans that rise. -/
def insS : List Sp → Sp → List Sp
  | [], s => [s]
  | x :: l, s => if x.2 < s.1 then x :: insS l s else if s.2 < x.1 then s :: x :: l else insS l (min s.1 x.1, max s.2 x.2)
/-- Those that are not empty. -/
def fullS (l : List Sp) : List Sp := l.filter fun s => decide (s.1 < s.2)
def normS (l : List Sp) : List Sp := (fullS l).foldl insS []
/-- One more behind spans that rise. -/
def addS (l : List Sp) (s : Sp) : List Sp :=
  match l.getLast? with
  | some z => if s.1 ≤ z.2 then l.dropLast ++ [(z.1, max z.2 s.2)] else l ++ [s]
  | none => [s]

theorem inS_nil (t : Int) : ¬ inS [] t := fun ⟨_, h, _⟩ => by cases h
theorem inS_cons {x : Sp} {l : List Sp} {t : Int} : inS (x :: l) t ↔ hasS x t ∨ inS l t := by
  constructor
  · rintro ⟨s, hs, h⟩
    rcases List.mem_cons.1 hs with rfl | hs
    · exact .inl h
    · exact .inr ⟨s, hs, h⟩
  · rintro (h | ⟨s, hs, h⟩)
    · exact ⟨x, List.mem_cons_self, h⟩
    · exact ⟨s, List.mem_cons_of_mem _ hs, h⟩
theorem inS_append {l m : List Sp} {t : Int} : inS (l ++ m) t ↔ inS l t ∨ inS m t := by
  constructor
  · rintro ⟨s, hs, h⟩
    rcases List.mem_append.1 hs with hs | hs
    · exact .inl ⟨s, hs, h⟩
    · exact .inr ⟨s, hs, h⟩
  · rintro (⟨s, hs, h⟩ | ⟨s, hs, h⟩)
    · exact ⟨s, List.mem_append.2 (.inl hs), h⟩
    · exact ⟨s, List.mem_append.2 (.inr hs), h⟩
theorem inS_one {x : Sp} {t : Int} : inS [x] t ↔ hasS x t := by
  rw [inS_cons]; exact ⟨fun h => h.elim id fun h => absurd h (inS_nil t), .inl⟩
theorem normal_nil : Normal [] := ⟨List.Pairwise.nil, fun _ h => by cases h⟩
theorem normal_cons {x : Sp} {l : List Sp} : Normal (x :: l) ↔ (∀ y ∈ l, x.2 < y.1) ∧ x.1 < x.2 ∧ Normal l := by
  unfold Normal
  rw [List.pairwise_cons]
  constructor
  · rintro ⟨⟨h1, h2⟩, h3⟩
    exact ⟨h1, h3 x List.mem_cons_self, h2, fun y hy => h3 y (List.mem_cons_of_mem _ hy)⟩
  · rintro ⟨h1, h2, h3, h4⟩
    refine ⟨⟨h1, h3⟩, fun y hy => ?_⟩
    rcases List.mem_cons.1 hy with rfl | hy
    · exact h2
    · exact h4 y hy

theorem insS_low (b : Int) : ∀ (l : List Sp) (s : Sp), (∀ y ∈ l, b < y.1) → b < s.1 → ∀ y ∈ insS l s, b < y.1 := by
  intro l
  induction l with
  | nil => intro s _ hs y hy; simp [insS] at hy; rw [hy]; exact hs
  | cons x l ih =>
    intro s hl hs y hy
    have hx := hl x List.mem_cons_self
    have hl' := fun y hy => hl y (List.mem_cons_of_mem _ hy)
    unfold insS at hy
    split at hy
    · rcases List.mem_cons.1 hy with rfl | hy
      · exact hx
      · exact ih s hl' hs y hy
    · split at hy
      · rcases List.mem_cons.1 hy with rfl | hy
        · exact hs
        · exact hl y hy
      · exact ih _ hl' (by dsimp only; omega) y hy
theorem insS_normal : ∀ (l : List Sp) (s : Sp), Normal l → s.1 < s.2 → Normal (insS l s) := by
  intro l
  induction l with
  | nil => intro s _ hs; simp only [insS]; exact normal_cons.2 ⟨fun _ h => (by cases h), hs, normal_nil⟩
  | cons x l ih =>
    intro s hn hs
    obtain ⟨h1, h2, h3⟩ := normal_cons.1 hn
    unfold insS
    split
    · rename_i hc
      exact normal_cons.2 ⟨insS_low _ l s h1 hc, h2, ih s h3 hs⟩
    · split
      · rename_i hc
        refine normal_cons.2 ⟨fun y hy => ?_, hs, hn⟩
        rcases List.mem_cons.1 hy with rfl | hy
        · exact hc
        · have := h1 y hy; omega
      · exact ih _ h3 (by dsimp only; omega)
theorem insS_in (t : Int) : ∀ (l : List Sp) (s : Sp), Normal l → s.1 < s.2 → (inS (insS l s) t ↔ inS l t ∨ hasS s t) := by
  intro l
  induction l with
  | nil => intro s _ _; simp only [insS]; rw [inS_one]; exact ⟨.inr, fun h => h.elim (fun h => absurd h (inS_nil t)) id⟩
  | cons x l ih =>
    intro s hn hs
    obtain ⟨h1, h2, h3⟩ := normal_cons.1 hn
    unfold insS
    split
    · rw [inS_cons, inS_cons, ih s h3 hs, or_assoc]
    · split
      · rw [inS_cons, inS_cons]; exact or_comm
      · rename_i c1 c2
        rw [ih _ h3 (by dsimp only; omega), inS_cons]
        have : hasS (min s.1 x.1, max s.2 x.2) t ↔ hasS x t ∨ hasS s t := by
          unfold hasS; dsimp only; omega
        rw [this]
        constructor
        · rintro (h | h | h)
          · exact .inl (.inr h)
          · exact .inl (.inl h)
          · exact .inr h
        · rintro ((h | h) | h)
          · exact .inr (.inl h)
          · exact .inl h
          · exact .inr (.inr h)
theorem insS_length : ∀ (l : List Sp) (s : Sp), (insS l s).length ≤ l.length + 1 := by
  intro l
  induction l with
  | nil => intro s; simp [insS]
  | cons x l ih =>
    intro s
    unfold insS
    split
    · simp only [List.length_cons]; have := ih s; omega
    · split
      · simp
      · simp only [List.length_cons]; have := ih (min s.1 x.1, max s.2 x.2); omega
theorem insS_ok : ∀ (l : List Sp) (s : Sp), (∀ y ∈ l, okS y) → okS s → ∀ y ∈ insS l s, okS y := by
  intro l
  induction l with
  | nil => intro s _ hs y hy; simp [insS] at hy; rw [hy]; exact hs
  | cons x l ih =>
    intro s hl hs y hy
    have hx := hl x List.mem_cons_self
    have hl' := fun y hy => hl y (List.mem_cons_of_mem _ hy)
    unfold insS at hy
    split at hy
    · rcases List.mem_cons.1 hy with rfl | hy
      · exact hx
      · exact ih s hl' hs y hy
    · split at hy
      · rcases List.mem_cons.1 hy with rfl | hy
        · exact hs
        · exact hl y hy
      · refine ih _ hl' ?_ y hy
        unfold okS at *; dsimp only; omega

/-- What comes of putting one in behind the other. -/
theorem puts_all : ∀ (m l : List Sp), Normal l → (∀ s ∈ m, s.1 < s.2) → Normal (m.foldl insS l) ∧ (∀ t, inS (m.foldl insS l) t ↔ inS l t ∨ inS m t) ∧ (m.foldl insS l).length ≤ l.length + m.length := by
  intro m
  induction m with
  | nil => intro l hl _; exact ⟨hl, fun t => ⟨.inl, fun h => h.elim id fun h => absurd h (inS_nil t)⟩, by simp⟩
  | cons s m ih =>
    intro l hl hm
    have hs := hm s List.mem_cons_self
    obtain ⟨h1, h2, h3⟩ := ih (insS l s) (insS_normal l s hl hs) fun x hx => hm x (List.mem_cons_of_mem _ hx)
    refine ⟨h1, fun t => ?_, ?_⟩
    · rw [List.foldl_cons, h2, insS_in t l s hl hs, inS_cons, or_assoc]
    · have := insS_length l s
      rw [List.foldl_cons, List.length_cons]; omega
theorem full_mem {l : List Sp} {s : Sp} : s ∈ fullS l ↔ s ∈ l ∧ s.1 < s.2 := by simp [fullS]
theorem full_in (l : List Sp) (t : Int) : inS (fullS l) t ↔ inS l t := by
  constructor
  · rintro ⟨s, hs, h⟩; exact ⟨s, (full_mem.1 hs).1, h⟩
  · rintro ⟨s, hs, h⟩; exact ⟨s, full_mem.2 ⟨hs, by unfold hasS at h; omega⟩, h⟩
theorem norm_normal (l : List Sp) : Normal (normS l) := (puts_all _ _ normal_nil fun _ hs => (full_mem.1 hs).2).1
theorem norm_in (l : List Sp) (t : Int) : inS (normS l) t ↔ inS l t := by
  have := (puts_all (fullS l) [] normal_nil fun s hs => (full_mem.1 hs).2).2.1 t
  unfold normS
  rw [this, full_in]
  exact ⟨fun h => h.elim (fun h => absurd h (inS_nil t)) id, .inr⟩
theorem norm_length (l : List Sp) : (normS l).length ≤ l.length := by
  have := (puts_all (fullS l) [] normal_nil fun s hs => (full_mem.1 hs).2).2.2
  have h2 : (fullS l).length ≤ l.length := List.length_filter_le _ _
  unfold normS
  simp at this; omega
theorem norm_ok {l : List Sp} (h : ∀ s ∈ l, okS s) : ∀ s ∈ normS l, okS s := by
  have key : ∀ (m k : List Sp), (∀ s ∈ m, okS s) → (∀ s ∈ k, okS s) → ∀ s ∈ m.foldl insS k, okS s := by
    intro m
    induction m with
    | nil => intro k _ hk; exact hk
    | cons x m ih => intro k hm hk; exact ih _ (fun s hs => hm s (List.mem_cons_of_mem _ hs)) (insS_ok k x hk (hm x List.mem_cons_self))
  exact key _ _ (fun s hs => h s (full_mem.1 hs).1) (fun _ h => by cases h)

/-- Spans that rise and do not touch are fixed by their moments. -/
theorem normal_unique : ∀ (l m : List Sp), Normal l → Normal m → (∀ t, inS l t ↔ inS m t) → l = m := by
  intro l
  induction l with
  | nil =>
    intro m _ hm h
    cases m with
    | nil => rfl
    | cons y m =>
      obtain ⟨_, h2, _⟩ := normal_cons.1 hm
      exact absurd ((h y.1).2 (inS_cons.2 (.inl ⟨by omega, h2⟩))) (inS_nil _)
  | cons x l ih =>
    intro m hl hm h
    obtain ⟨a1, a2, a3⟩ := normal_cons.1 hl
    cases m with
    | nil => exact absurd ((h x.1).1 (inS_cons.2 (.inl ⟨by omega, a2⟩))) (inS_nil _)
    | cons y m =>
      obtain ⟨b1, b2, b3⟩ := normal_cons.1 hm
      have low : ∀ {z : Sp} {k : List Sp} {t : Int}, (∀ u ∈ k, z.2 < u.1) → z.1 < z.2 → inS (z :: k) t → z.1 ≤ t := by
        intro z k t hk hz hi
        rcases inS_cons.1 hi with hi | ⟨u, hu, hi⟩
        · exact hi.1
        · have := hk u hu; unfold hasS at hi; omega
      have off : ∀ {z : Sp} {k : List Sp}, (∀ u ∈ k, z.2 < u.1) → ¬ inS (z :: k) z.2 := by
        intro z k hk hi
        rcases inS_cons.1 hi with hi | ⟨u, hu, hi⟩
        · unfold hasS at hi; omega
        · have := hk u hu; unfold hasS at hi; omega
      have e1 : x.1 = y.1 := by
        have p := low b1 b2 ((h x.1).1 (inS_cons.2 (.inl ⟨by omega, a2⟩)))
        have q := low a1 a2 ((h y.1).2 (inS_cons.2 (.inl ⟨by omega, b2⟩)))
        omega
      have e2 : x.2 = y.2 := by
        rcases Int.lt_trichotomy x.2 y.2 with c | c | c
        · exact absurd ((h x.2).2 (inS_cons.2 (.inl ⟨by omega, c⟩))) (off a1)
        · exact c
        · exact absurd ((h y.2).1 (inS_cons.2 (.inl ⟨by omega, c⟩))) (off b1)
      have e : x = y := Prod.ext e1 e2
      subst e
      rw [ih m a3 b3]
      intro t
      constructor
      · intro hi
        have h1 := (h t).1 (inS_cons.2 (.inr hi))
        rcases inS_cons.1 h1 with h1 | h1
        · obtain ⟨u, hu, hi⟩ := hi
          have := a1 u hu; unfold hasS at hi h1; omega
        · exact h1
      · intro hi
        have h1 := (h t).2 (inS_cons.2 (.inr hi))
        rcases inS_cons.1 h1 with h1 | h1
        · obtain ⟨u, hu, hi⟩ := hi
          have := b1 u hu; unfold hasS at hi h1; omega
        · exact h1

theorem addS_snoc (l : List Sp) (z s : Sp) : addS (l ++ [z]) s = if s.1 ≤ z.2 then l ++ [(z.1, max z.2 s.2)] else l ++ [z] ++ [s] := by
  unfold addS; simp
theorem normal_snoc {l : List Sp} {z : Sp} : Normal (l ++ [z]) ↔ Normal l ∧ (∀ x ∈ l, x.2 < z.1) ∧ z.1 < z.2 := by
  unfold Normal
  rw [List.pairwise_append]
  constructor
  · rintro ⟨⟨h1, _, h2⟩, h3⟩
    exact ⟨⟨h1, fun x hx => h3 x (List.mem_append.2 (.inl hx))⟩, fun x hx => h2 x hx z (by simp), h3 z (by simp)⟩
  · rintro ⟨⟨h1, h2⟩, h3, h4⟩
    refine ⟨⟨h1, by simp, fun x hx y hy => ?_⟩, fun x hx => ?_⟩
    · have : y = z := by simpa using hy
      subst this; exact h3 x hx
    · rcases List.mem_append.1 hx with hx | hx
      · exact h2 x hx
      · have : x = z := by simpa using hx
        subst this; exact h4
theorem snoc_cases (l : List Sp) : l = [] ∨ ∃ k z, l = k ++ [z] := by
  rcases List.eq_nil_or_concat l with h | ⟨k, z, h⟩
  · exact .inl h
  · exact .inr ⟨k, z, by simpa using h⟩
theorem addS_all {l : List Sp} {s : Sp} (hl : Normal l) (hb : ∀ x ∈ l, x.1 ≤ s.1) (hs : s.1 < s.2) :
    Normal (addS l s) ∧ (∀ x ∈ addS l s, x.1 ≤ s.1) ∧ (∀ t, inS (addS l s) t ↔ inS l t ∨ hasS s t) ∧ (addS l s).length ≤ l.length + 1 := by
  rcases snoc_cases l with rfl | ⟨k, z, rfl⟩
  · have e : addS [] s = [s] := rfl
    rw [e]
    refine ⟨normal_cons.2 ⟨fun _ h => (by cases h), hs, normal_nil⟩, fun x hx => ?_, fun t => ?_, by simp⟩
    · have : x = s := by simpa using hx
      subst this; exact Int.le_refl _
    · rw [inS_one]; exact ⟨.inr, fun h => h.elim (fun h => absurd h (inS_nil t)) id⟩
  · rw [addS_snoc]
    obtain ⟨h1, h2, h3⟩ := normal_snoc.1 hl
    have hz := hb z (by simp)
    split
    · rename_i hc
      refine ⟨normal_snoc.2 ⟨h1, h2, by dsimp only; omega⟩, fun x hx => ?_, fun t => ?_, by simp⟩
      · rcases List.mem_append.1 hx with hx | hx
        · exact hb x (List.mem_append.2 (.inl hx))
        · have : x = (z.1, max z.2 s.2) := by simpa using hx
          subst this; exact hz
      · rw [inS_append, inS_append, inS_one, inS_one, or_assoc]
        have : hasS (z.1, max z.2 s.2) t ↔ hasS z t ∨ hasS s t := by unfold hasS; dsimp only; omega
        rw [this]
    · rename_i hc
      refine ⟨normal_snoc.2 ⟨hl, fun x hx => ?_, hs⟩, fun x hx => ?_, fun t => ?_, by simp⟩
      · rcases List.mem_append.1 hx with hx | hx
        · have := h2 x hx; omega
        · have : x = z := by simpa using hx
          subst this; omega
      · rcases List.mem_append.1 hx with hx | hx
        · exact hb x hx
        · have : x = s := by simpa using hx
          subst this; exact Int.le_refl _
      · rw [inS_append, inS_one]
/-- Going through spans that are sorted by where they begin. -/
theorem adds_all : ∀ (m l : List Sp), Normal l → (∀ x ∈ l, ∀ s ∈ m, x.1 ≤ s.1) → m.Pairwise (fun a b => a.1 ≤ b.1) → (∀ s ∈ m, s.1 < s.2) →
    Normal (m.foldl addS l) ∧ (∀ t, inS (m.foldl addS l) t ↔ inS l t ∨ inS m t) := by
  intro m
  induction m with
  | nil => intro l hl _ _ _; exact ⟨hl, fun t => ⟨.inl, fun h => h.elim id fun h => absurd h (inS_nil t)⟩⟩
  | cons s m ih =>
    intro l hl hb hp hm
    rw [List.pairwise_cons] at hp
    obtain ⟨h1, h2, h3, _⟩ := addS_all hl (fun x hx => hb x hx s List.mem_cons_self) (hm s List.mem_cons_self)
    obtain ⟨q1, q2⟩ := ih (addS l s) h1 (fun x hx y hy => Int.le_trans (h2 x hx) (hp.1 y hy)) hp.2 fun x hx => hm x (List.mem_cons_of_mem _ hx)
    refine ⟨q1, fun t => ?_⟩
    rw [List.foldl_cons, q2, h3, inS_cons, or_assoc]
theorem norm_sorted {l m : List Sp} (hm : ∀ s, s ∈ m ↔ s ∈ fullS l) (hp : m.Pairwise (fun a b => a.1 ≤ b.1)) : m.foldl addS [] = normS l := by
  obtain ⟨h1, h2⟩ := adds_all m [] normal_nil (fun _ h => by cases h) hp fun s hs => (full_mem.1 ((hm s).1 hs)).2
  refine normal_unique _ _ h1 (norm_normal l) fun t => ?_
  rw [h2, norm_in, ← full_in l]
  constructor
  · rintro (h | ⟨s, hs, h⟩)
    · exact absurd h (inS_nil t)
    · exact ⟨s, (hm s).1 hs, h⟩
  · rintro ⟨s, hs, h⟩
    exact .inr ⟨s, (hm s).2 hs, h⟩
theorem adds_length : ∀ (m l : List Sp), (m.foldl addS l).length ≤ l.length + m.length := by
  intro m
  induction m with
  | nil => intro l; simp
  | cons s m ih =>
    intro l
    have h1 : (addS l s).length ≤ l.length + 1 := by
      rcases snoc_cases l with rfl | ⟨k, z, rfl⟩
      · simp [addS]
      · rw [addS_snoc]; split <;> simp
    have := ih (addS l s)
    rw [List.foldl_cons, List.length_cons]; omega

/-! ### Put together again, in any order -/
theorem norm_of_norm (l : List Sp) : normS (normS l) = normS l := normal_unique _ _ (norm_normal _) (norm_normal _) fun t => norm_in _ t
theorem norm_perm {l m : List Sp} (h : ∀ s, s ∈ m ↔ s ∈ l) : normS m = normS l := normal_unique _ _ (norm_normal _) (norm_normal _) fun t => by
  rw [norm_in, norm_in]
  exact ⟨fun ⟨s, hs, k⟩ => ⟨s, (h s).1 hs, k⟩, fun ⟨s, hs, k⟩ => ⟨s, (h s).2 hs, k⟩⟩
/-- How many spans have a moment. -/
def cntS (l : List Sp) (t : Int) : Nat := l.countP fun s => decide (hasS s t)
theorem cntS_pos (l : List Sp) (t : Int) : 0 < cntS l t ↔ inS l t := by
  unfold cntS inS
  rw [List.countP_pos_iff]
  simp
theorem cntS_normal : ∀ (l : List Sp) (t : Int), Normal l → cntS l t ≤ 1 := by
  intro l
  induction l with
  | nil => intro t _; simp [cntS]
  | cons x l ih =>
    intro t h
    obtain ⟨h1, h2, h3⟩ := normal_cons.1 h
    have hi := ih t h3
    by_cases hx : hasS x t
    · have h0 : ¬ 0 < cntS l t := by
        rw [cntS_pos]
        rintro ⟨u, hu, k⟩
        have := h1 u hu
        obtain ⟨k1, k2⟩ := k
        obtain ⟨x1, x2⟩ := hx
        omega
      have e : decide (hasS x t) = true := decide_eq_true hx
      unfold cntS at h0 ⊢
      rw [List.countP_cons, if_pos e]; omega
    · have e : ¬ decide (hasS x t) = true := fun h => hx (of_decide_eq_true h)
      unfold cntS at hi ⊢
      rw [List.countP_cons, if_neg e]; omega
theorem cntS_norm (l : List Sp) (t : Int) : cntS (normS l) t ≤ 1 ∧ (cntS (normS l) t = 1 ↔ 0 < cntS l t) := by
  have h1 := cntS_normal _ t (norm_normal l)
  have h2 := cntS_pos (normS l) t
  rw [norm_in, ← cntS_pos] at h2
  refine ⟨h1, ?_⟩
  rw [← h2]; omega
end Go.Proofs.Ytjdhodobfkkoiaa
