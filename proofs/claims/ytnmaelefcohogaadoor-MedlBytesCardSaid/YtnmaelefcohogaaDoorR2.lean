/-
  How bits with their size, and a list of bits, that came in are read. No condition.
-/
import Derived.Test.YtnmaelefcohogaaDoorR1
import Derived.Test.YtnmaelefcohogaaDoorQC
import Derived.SizedLaws
namespace Go.Proofs.YtnmaelefcohogaaDoor
open Go.ChangeShapes Go.WideShapes Go.ChangeAt Go.RowKit Go.Joins

instance : Inhabited BV := ⟨⟨0, none, 0, 0, []⟩⟩
set_option maxRecDepth 8000 in
theorem Tryd.bytes5 : Tryd.prog.bytesOf 5 = 1 := by kernel_rfl

section
variable {H : Type} {enc : TypeId × Value → H} {W : World} {base : Nat} {spare : Nat → Bool} {held : Bool}
set_option maxRecDepth 8000 in
/-- What a slice of bytes that came in is as data. -/
theorem bytes_data {fuel : Nat} {A : Option Addr} {n c : Nat} {x : DataW H × List MemPlace} (h : DataW.trod enc Tryd.prog W base spare held fuel 26 [.slice A n c] = some x) :
    (A = none → n = 0 ∧ c = 0) ∧ ∀ m, (∀ u ∈ x.1.weights Tryd.prog 26, u ≤ m) → n ≤ m := by
  rcases open_ints Tryd.underlying26 Tryd.underlying5 (by kernel_rfl) h with ⟨hcs, hx⟩ | ⟨a, len, cap, zs, hcs, _, hl, hm, hz, hx, hcell, hwz⟩
  · simp at hcs
    obtain ⟨rfl, rfl, rfl⟩ := hcs
    exact ⟨fun _ => ⟨rfl, rfl⟩, fun m _ => Nat.zero_le _⟩
  · simp at hcs
    obtain ⟨rfl, rfl, rfl⟩ := hcs
    refine ⟨fun (h : some a = none) => (nomatch h), fun m hw => ?_⟩
    have hzl : n ≤ zs.length := by rw [hz]; split <;> omega
    subst hx
    have := hw (((lits (H := H) .u8 (zs.take n)).length + (lits (H := H) .u8 (zs.drop n)).length) * Tryd.prog.bytesOf 5) (by simp [DataW.weights, Tryd.underlying26])
    rw [Tryd.bytes5] at this
    simp [lits] at this
    omega
set_option maxRecDepth 8000 in
/-- Bits by value that came in, with their size. -/
theorem bits_data {r : Reach} {b0 : Nat} {N : Int} {A : Option Addr} {n c : Nat} {d : DataW H} {p : List MemPlace} (hv : Value.okWide Tryd.prog W r b0 68 (.agg #[.int .i64 N, .slice A n c])) (h : DataW.Trod enc Tryd.prog W base spare held 68 (.agg #[.int .i64 N, .slice A n c]) d p) :
    (A = none → n = 0 ∧ c = 0) ∧ ∀ m, (∀ u ∈ d.weights Tryd.prog 68, u ≤ m) → n ≤ m := by
  obtain ⟨c0, c1, y0, y1, q, e, rfl, _, hy0, hy1⟩ := open_agg2 Tryd.underlying68 (by kernel_rfl) Tryd.cells68 hv h
  simp at e
  obtain ⟨rfl, rfl⟩ := e
  obtain ⟨h1, h2⟩ := bytes_data hy1
  refine ⟨h1, fun m hw => h2 m fun u hu => hw u ?_⟩
  simp [DataW.weights, DataW.weightsEach, Tryd.underlying68]
  exact .inr hu
set_option maxRecDepth 8000 in
/-- A list of bits that came in. -/
theorem open_bitsL {fuel : Nat} {v : Value} {x : DataW H × List MemPlace} (h : DataW.trod enc Tryd.prog W base spare held fuel 72 [v] = some x) :
    ∃ (X : Option Addr) (xn xc : Nat) (xs : List BV), v = .slice X xn xc ∧ xn = xs.length ∧ xn ≤ maxLen ∧ BVs W.heap.size W X xs ∧ ∀ x ∈ xs, BVok W.heap.size W x := by
  rcases Go.Deep.open_slice Tryd.underlying72 h with ⟨hcs, _⟩ | ⟨a, len, cap, m, n, D, Pl, hcs, _, hl, hm, hmm, _, hi⟩
  · simp at hcs
    exact ⟨none, 0, 0, [], hcs, rfl, Nat.zero_le _, fun h => absurd rfl h, fun _ h => by cases h⟩
  · simp at hcs
    have hml : len ≤ m := by rw [hmm]; split <;> omega
    have key : ∀ i, i < len → ∃ y : BV, W.cell? (a.add (i * 2)) = some (.int .i64 y.N) ∧ W.cell? (a.add (i * 2 + 1)) = some (.slice y.A y.n y.c) ∧ BVok W.heap.size W y := fun i hi' => by
      obtain ⟨cs', hc, ht⟩ := hi i (by omega)
      rw [Tryd.cells68] at hc
      obtain ⟨_, hlen, hat⟩ := World.cells?_some hc
      match cs', hlen with
      | [u0, u1], _ =>
        obtain ⟨y0, y1, q, _, _, t0, t1⟩ := trod_struct2 Tryd.underlying68 ht
        have t0' : DataW.trod enc Tryd.prog W base spare held q 3 [u0] = some y0 := t0
        have t1' : DataW.trod enc Tryd.prog W base spare held q 26 [u1] = some y1 := t1
        obtain ⟨N, e0, _, _⟩ := DataW.trod_int Tryd.underlying3 t0'
        obtain ⟨A, n, c, bs, rfl, h1, h2, h3⟩ := open_bytes t1'
        simp at e0
        subst e0
        have g0 := hat 0 (by omega)
        have g1 := hat 1 (by omega)
        rw [Go.Deep.add_add] at g0 g1
        exact ⟨⟨N, A, n, c, bs⟩, by simpa using g0, by simpa using g1, h1, h2, h3⟩
    obtain ⟨Y, hY⟩ := Go.Deep.choose_lt (α := BV) (p := fun i y => W.cell? (a.add (i * 2)) = some (.int .i64 y.N) ∧ W.cell? (a.add (i * 2 + 1)) = some (.slice y.A y.n y.c) ∧ BVok W.heap.size W y) key
    refine ⟨some a, len, cap, (List.range len).map Y, hcs, by simp, by omega, fun hne => ?_, fun y hy => ?_⟩
    · have h0 : 0 < len := by
        rcases Nat.eq_zero_or_pos len with h | h
        · subst h; simp at hne
        · exact h
      obtain ⟨b, off, spot⟩ := a
      obtain ⟨hc0, _, _⟩ := hY 0 h0
      have hspot : spot = none := by simpa [Addr.add] using World.cell?_spot hc0
      subst hspot
      refine ⟨b, off, rfl, ?_, fun j y hj => ?_⟩
      · have := cell_lt hc0
        rwa [addr_add] at this
      · have hj' : j < len := by
          rcases Nat.lt_or_ge j len with h | h
          · exact h
          · rw [List.getElem?_eq_none (by simpa using h)] at hj; cases hj
        obtain rfl : Y j = y := by simpa [hj'] using hj
        obtain ⟨g0, g1, _⟩ := hY j hj'
        rw [addr_add] at g0 g1
        exact ⟨g0, g1⟩
    · obtain ⟨i, hi2, rfl⟩ := List.mem_map.1 hy
      exact (hY i (List.mem_range.1 hi2)).2.2
end
end Go.Proofs.YtnmaelefcohogaaDoor
