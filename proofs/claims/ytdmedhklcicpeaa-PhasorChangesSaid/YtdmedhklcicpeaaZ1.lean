/-
  Sums of rows of samples (over no program), and how rows lie in memory. No condition.
-/
import Derived.Test.YtdmedhklcicpeaaW6
namespace Go.Proofs.Ytdmedhklcicpeaa
open Go.RowKit

/-- The sum of all rows at a place (what is not there counts as 0). -/
def addAt (i : Nat) (a : Sp) (r : List Sp) : Sp := (a.1 + (r[i]?.getD (0, 0)).1, a.2 + (r[i]?.getD (0, 0)).2)
def sumAt (rows : List (List Sp)) (i : Nat) : Sp := rows.foldl (addAt i) (0, 0)
/-- How long the longest is. -/
def longest (rows : List (List Sp)) : Nat := rows.foldl (fun a r => max a r.length) 0
/-- Add, by the document. -/
def addS (rows : List (List Sp)) : Int × List Sp :=
  if rows.all (·.all mayS) = true then
    if ((List.range (longest rows)).map (sumAt rows)).all mayS = true then (0, (List.range (longest rows)).map (sumAt rows)) else (31, [])
  else (31, [])
theorem sumAt_snoc (rows : List (List Sp)) (k i : Nat) (h : k < rows.length) : sumAt (rows.take (k + 1)) i = addAt i (sumAt (rows.take k) i) (rows[k]?.getD []) := by
  unfold sumAt
  rw [List.take_add_one, List.getElem?_eq_getElem h, List.foldl_append]
  rfl
theorem longest_snoc (rows : List (List Sp)) (k : Nat) (h : k < rows.length) : longest (rows.take (k + 1)) = max (longest (rows.take k)) (rows[k]?.getD []).length := by
  unfold longest
  rw [List.take_add_one, List.getElem?_eq_getElem h, List.foldl_append]
  rfl
theorem longest_from (rows : List (List Sp)) : ∀ a : Nat, a ≤ rows.foldl (fun a r => max a r.length) a ∧ ∀ r ∈ rows, r.length ≤ rows.foldl (fun a r => max a r.length) a := by
  induction rows with
  | nil => intro a; exact ⟨Nat.le_refl _, fun r h => by cases h⟩
  | cons x rows ih =>
    intro a
    obtain ⟨h1, h2⟩ := ih (max a x.length)
    rw [List.foldl_cons]
    refine ⟨by omega, fun r hr => ?_⟩
    rcases List.mem_cons.1 hr with rfl | hr
    · omega
    · exact h2 r hr
theorem longest_ge (rows : List (List Sp)) (k : Nat) (h : k < rows.length) : (rows[k]?.getD []).length ≤ longest rows := by
  have := (longest_from rows 0).2 (rows[k]) (List.getElem_mem h)
  rw [List.getElem?_eq_getElem h]
  exact this
theorem longest_le (rows : List (List Sp)) (B : Nat) (h : ∀ r ∈ rows, r.length ≤ B) : longest rows ≤ B := by
  have key : ∀ (rows : List (List Sp)) (a : Nat), a ≤ B → (∀ r ∈ rows, r.length ≤ B) → rows.foldl (fun a r => max a r.length) a ≤ B := by
    intro rows
    induction rows with
    | nil => intro a ha _; exact ha
    | cons x rows ih =>
      intro a ha hr
      have hx := hr x List.mem_cons_self
      exact ih (max a x.length) (by omega) (fun r h => hr r (List.mem_cons_of_mem _ h))
  exact key rows 0 (Nat.zero_le _) h
theorem get_may {r : List Sp} (h : r.all mayS = true) (i : Nat) : ((r[i]?.getD (0, 0)).1.natAbs ≤ 262144) ∧ (r[i]?.getD (0, 0)).2.natAbs ≤ 262144 := by
  by_cases hi : i < r.length
  · have := (mayS_iff _).1 (may_at h hi)
    omega
  · rw [List.getElem?_eq_none (by omega)]; decide
theorem sumAt_small (rows : List (List Sp)) (h : rows.all (·.all mayS) = true) (i : Nat) : ∀ k, k ≤ rows.length → (sumAt (rows.take k) i).1.natAbs ≤ 262144 * k ∧ (sumAt (rows.take k) i).2.natAbs ≤ 262144 * k
  | 0, _ => by simp [sumAt]
  | k + 1, hk => by
    have ih := sumAt_small rows h i k (by omega)
    rw [sumAt_snoc rows k i (by omega)]
    have hr : (rows[k]?.getD []).all mayS = true := by
      rw [List.getElem?_eq_getElem (by omega)]
      exact List.all_eq_true.1 h _ (List.getElem_mem (by omega))
    have := get_may hr i
    unfold addAt
    dsimp only
    omega
theorem all_rows_snoc (rows : List (List Sp)) (k : Nat) (h : k < rows.length) : (rows.take (k + 1)).all (·.all mayS) = ((rows.take k).all (·.all mayS) && (rows[k]?.getD []).all mayS) := by
  rw [List.take_add_one, List.getElem?_eq_getElem h, List.all_append]; simp
theorem not_all_rows (rows : List (List Sp)) (k : Nat) (h : k < rows.length) (hm : (rows[k]?.getD []).all mayS = false) : rows.all (·.all mayS) = false := by
  rw [List.all_eq_false]
  refine ⟨rows[k], List.getElem_mem h, ?_⟩
  rw [List.getElem?_eq_getElem h] at hm
  simpa using hm
theorem rows_at {rows : List (List Sp)} (h : rows.all (·.all mayS) = true) {k : Nat} (hk : k < rows.length) : (rows[k]?.getD []).all mayS = true := by
  rw [List.getElem?_eq_getElem hk]
  exact List.all_eq_true.1 h _ (List.getElem_mem hk)

/-- A row as it lies in memory. -/
structure RW where
  A : Option Addr
  n : Nat
  c : Nat
  l : List Sp
instance : Inhabited RW := ⟨⟨none, 0, 0, []⟩⟩
/-- It can be read. -/
def RWok (w : World) (r : RW) : Prop := r.n = r.l.length ∧ r.n ≤ r.c ∧ Smps w.heap.size w r.A r.l
/-- Rows, and the slice that holds them. -/
structure Rws (w : World) (X : Option Addr) (rs : List RW) : Prop where
  svs : SVs w.heap.size w X (rs.map fun r => (r.A, r.n, r.c))
  ok : ∀ r ∈ rs, RWok w r
theorem RWok.on {w w' : World} {r : RW} (h : RWok w r) (hb : Below w.heap.size w w') : RWok w' r := ⟨h.1, h.2.1, h.2.2.on hb⟩
theorem Rws.on {w w' : World} {X : Option Addr} {rs : List RW} (h : Rws w X rs) (hb : Below w.heap.size w w') : Rws w' X rs := ⟨h.svs.on hb, fun r hr => (h.ok r hr).on hb⟩
theorem Rws.at_ {w : World} {X : Option Addr} {rs : List RW} (h : Rws w X rs) {k : Nat} (hk : k < rs.length) :
    ∃ (b off : Nat) (r : RW), X = some ⟨b, off, none⟩ ∧ b < w.heap.size ∧ w.cell? ⟨b, off + k, none⟩ = some (.slice r.A r.n r.c) ∧ RWok w r ∧ (rs.map (·.l))[k]?.getD [] = r.l ∧ rs[k]? = some r := by
  obtain ⟨b, off, e, hlt, hc⟩ := h.svs.at_ (k := k) (by simpa using hk)
  refine ⟨b, off, rs[k], e, hlt, ?_, h.ok _ (List.getElem_mem hk), ?_, List.getElem?_eq_getElem hk⟩
  · rw [List.getElem?_map, List.getElem?_eq_getElem hk] at hc; exact hc
  · rw [List.getElem?_map, List.getElem?_eq_getElem hk]; rfl
end Go.Proofs.Ytdmedhklcicpeaa
