/-
  Samples in memory, and the document's small functions of package phasor: the preamble, how long a signal is, two bits as a sample, which samples may be, one turned by quarters. Conditions: those that each theorem names.
-/
import Derived.Test.YtnlmpemfpkmodaaG4
import Derived.Laws.AppendOwn
namespace Go.Proofs.Ytnlmpemfpkmodaa
open Go.RowKit

abbrev Sp := Int × Int
/-- Samples as cells. -/
def cellsS (l : List Sp) : List Value := l.flatMap fun s => [Value.int .i64 s.1, .int .i64 s.2]
theorem cellsS_nil : cellsS [] = [] := rfl
theorem cellsS_append (l m : List Sp) : cellsS (l ++ m) = cellsS l ++ cellsS m := by simp [cellsS]
theorem cellsS_length (l : List Sp) : (cellsS l).length = l.length * 2 := by
  induction l with
  | nil => rfl
  | cons s l ih =>
    have : cellsS (s :: l) = [.int .i64 s.1, .int .i64 s.2] ++ cellsS l := rfl
    rw [this, List.length_append, ih, List.length_cons]; simp; omega
theorem cellsS_get (l : List Sp) (j : Nat) (h : j < l.length) : (cellsS l)[j * 2]? = some (.int .i64 (l[j]?.getD (0, 0)).1) ∧ (cellsS l)[j * 2 + 1]? = some (.int .i64 (l[j]?.getD (0, 0)).2) := by
  induction l generalizing j with
  | nil => simp at h
  | cons s l ih =>
    have e : cellsS (s :: l) = [.int .i64 s.1, .int .i64 s.2] ++ cellsS l := rfl
    cases j with
    | zero => rw [e]; exact ⟨rfl, rfl⟩
    | succ j =>
      have := ih j (by simpa using h)
      rw [e, show (j + 1) * 2 = j * 2 + 2 by omega]
      exact this
theorem cellsS_one (l : List Sp) : ∀ u ∈ cellsS l, u.oneCell' = true := by
  intro u hu
  obtain ⟨s, _, hs⟩ := List.mem_flatMap.1 hu
  simp at hs
  rcases hs with rfl | rfl <;> rfl
/-- The slice at A holds the samples l, in a block below n₀ (nil or empty where there are none). -/
def Smps (n₀ : Nat) (W : World) (A : Option Addr) (l : List Sp) : Prop :=
  l ≠ [] → ∃ b off, A = some ⟨b, off, none⟩ ∧ b < n₀ ∧ ∀ j, j < l.length → W.cell? ⟨b, off + j * 2, none⟩ = some (.int .i64 (l[j]?.getD (0, 0)).1) ∧ W.cell? ⟨b, off + j * 2 + 1, none⟩ = some (.int .i64 (l[j]?.getD (0, 0)).2)
theorem Smps.below {n₀ : Nat} {W W' : World} {A : Option Addr} {l : List Sp} (h : Smps n₀ W A l) (hb : Below n₀ W W') : Smps n₀ W' A l := fun hn => by
  obtain ⟨b, off, e, hlt, hc⟩ := h hn
  exact ⟨b, off, e, hlt, fun j hj => ⟨(hb.cell (p := ⟨b, off + j * 2, none⟩) hlt).trans (hc j hj).1, (hb.cell (p := ⟨b, off + j * 2 + 1, none⟩) hlt).trans (hc j hj).2⟩⟩
theorem Smps.mono {n₀ n₁ : Nat} {W : World} {A : Option Addr} {l : List Sp} (h : Smps n₀ W A l) (hn : n₀ ≤ n₁) : Smps n₁ W A l := fun hb => by
  obtain ⟨b, off, e, hlt, hc⟩ := h hb
  exact ⟨b, off, e, Nat.lt_of_lt_of_le hlt hn, hc⟩
theorem Smps.on {w w' : World} {A : Option Addr} {l : List Sp} (h : Smps w.heap.size w A l) (hb : Below w.heap.size w w') : Smps w'.heap.size w' A l := (h.below hb).mono hb.size
theorem Smps.at_ {n₀ : Nat} {W : World} {A : Option Addr} {l : List Sp} (h : Smps n₀ W A l) {k : Nat} (hk : k < l.length) :
    ∃ b off, A = some ⟨b, off, none⟩ ∧ b < n₀ ∧ W.cell? ⟨b, off + k * 2, none⟩ = some (.int .i64 (l[k]?.getD (0, 0)).1) ∧ W.cell? ⟨b, off + k * 2 + 1, none⟩ = some (.int .i64 (l[k]?.getD (0, 0)).2) := by
  obtain ⟨b, off, e, hlt, hc⟩ := h (by rintro rfl; simp at hk)
  exact ⟨b, off, e, hlt, (hc k hk).1, (hc k hk).2⟩
theorem cell_two_new (w : World) (x y : Value) (t : TypeId) : ∀ j u, [x, y][j]? = some u → (w.alloc (.cells #[x, y] t)).cell? ((⟨w.heap.size, 0, none⟩ : Addr).add j) = some u := by
  intro j u hj
  match j, hj with
  | 0, hj => simp at hj; subst hj; simp [Addr.add]
  | 1, hj => simp at hj; subst hj; simp [Addr.add]
  | j + 2, hj => simp at hj
/-- The preamble. -/
def pre : List Sp := [(1, 1), (1, 1), (-1, -1), (1, -1), (-1, 1), (1, 1), (-1, 1), (1, -1)]
/-- May a sample be? -/
def mayS (s : Sp) : Bool := decide (-262144 ≤ s.1) && decide (s.1 ≤ 262144) && (decide (-262144 ≤ s.2) && decide (s.2 ≤ 262144))
theorem mayS_iff (s : Sp) : mayS s = true ↔ (-262144 ≤ s.1 ∧ s.1 ≤ 262144) ∧ -262144 ≤ s.2 ∧ s.2 ≤ 262144 := by simp [mayS]
/-- One sample turned by quarters. -/
def turn1 (s : Sp) (q : Int) : Sp := if q % 4 = 1 then (-s.2, s.1) else if q % 4 = 2 then (-s.1, -s.2) else if q % 4 = 3 then (s.2, -s.1) else s
/-- How long a signal is. -/
def airS (n : Int) : Int := if n < 0 ∨ 4095 < n then 0 else 14 + (n + 1) / 2
/-- Two bits as a sample. -/
def twoS (a b : Bool) (amp : Int) : Sp := (if b then -amp else amp, if a then -amp else amp)

/-- The preamble's cells. -/
def preCells : Array Value := #[.int .i64 1, .int .i64 1, .int .i64 1, .int .i64 1, .int .i64 (-1), .int .i64 (-1), .int .i64 1, .int .i64 (-1), .int .i64 (-1), .int .i64 1, .int .i64 1, .int .i64 1, .int .i64 (-1), .int .i64 1, .int .i64 1, .int .i64 (-1)]
end Go.Proofs.Ytnlmpemfpkmodaa
