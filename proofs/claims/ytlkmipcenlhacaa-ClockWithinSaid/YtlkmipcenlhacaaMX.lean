/-
  How a list of layer 7 that came in is read. No condition.
-/
import Derived.Test.YtlkmipcenlhacaaR1
import Derived.Test.YtlkmipcenlhacaaMA
namespace Go.Proofs.Ytlkmipcenlhacaa
open Go.ChangeShapes Go.WideShapes Go.ChangeAt Go.RowKit Go.Joins

theorem Try.cellsMode : Try.prog.cellsOf 71 = 3 := by kernel_rfl
theorem Try.cellsMedl : Try.prog.cellsOf 25 = 8 := by kernel_rfl
instance : Inhabited (Md × MdV) := ⟨⟨⟨[], [], []⟩, ⟨⟨none, 0, 0⟩, ⟨none, 0, 0⟩, ⟨none, 0, 0⟩⟩⟩⟩
theorem array8 {α : Type} {a : Array α} (h : a.size = 8) : ∃ x0 x1 x2 x3 x4 x5 x6 x7, a = #[x0, x1, x2, x3, x4, x5, x6, x7] := by
  obtain ⟨l⟩ := a
  match l, h with
  | [x0, x1, x2, x3, x4, x5, x6, x7], _ => exact ⟨x0, x1, x2, x3, x4, x5, x6, x7, rfl⟩
section
variable {H : Type} {enc : TypeId × Value → H} {W : World} {base : Nat} {spare : Nat → Bool} {held : Bool}
set_option maxRecDepth 100000 in
/-- A mode's three slices that came in. -/
theorem open_mode {fuel : Nat} {c0 c1 c2 : Value} {x : DataW H × List MemPlace} (h : DataW.trod enc Try.prog W base spare held fuel 71 [c0, c1, c2] = some x) :
    ∃ (o : Md) (v : MdV), c0 = .slice v.d.A v.d.n v.d.c ∧ c1 = .slice v.x.A v.x.n v.x.c ∧ c2 = .slice v.n.A v.n.n v.n.c ∧ MdOk W.heap.size W o v := by
  obtain ⟨xs, n, _, _, hl, hlen, hf⟩ := DataW.trod_struct Try.underlying71 h
  have h47 : Try.prog.cellsOf 69 = 1 := by kernel_rfl
  have h22 : Try.prog.cellsOf 22 = 1 := by kernel_rfl
  obtain ⟨y0, y1, y2, rfl⟩ : ∃ y0 y1 y2, xs = [y0, y1, y2] := by
    match xs, hlen with
    | [y0, y1, y2], _ => exact ⟨y0, y1, y2, rfl⟩
  obtain ⟨A0, n0, k0, d, e0, a1, a2, a3⟩ := open_places (v := c0) (x := y0) (by simpa [h47, h22, Value.cells] using hf 0 _ rfl)
  obtain ⟨A1, n1, k1, ex, e1, b1, b2, b3⟩ := open_truths (v := c1) (x := y1) (by simpa [h47, h22, Value.cells] using hf 1 _ rfl)
  obtain ⟨A2, n2, k2, nx, e2, d1, d2, d3⟩ := open_truths (v := c2) (x := y2) (by simpa [h47, h22, Value.cells] using hf 2 _ rfl)
  exact ⟨⟨d, ex, nx⟩, ⟨⟨A0, n0, k0⟩, ⟨A1, n1, k1⟩, ⟨A2, n2, k2⟩⟩, e0, e1, e2, a3, a1, a2, b3, b1, b2, d3, d1, d2⟩
set_option maxRecDepth 100000 in
/-- Modes that came in. -/
theorem open_modes {fuel : Nat} {v : Value} {x : DataW H × List MemPlace} (h : DataW.trod enc Try.prog W base spare held fuel 23 [v] = some x) :
    ∃ (A : Option Addr) (n c : Nat) (ms : List Md), v = .slice A n c ∧ n = ms.length ∧ n ≤ maxLen ∧ Mds W.heap.size W A ms := by
  rcases Go.Deep.open_slice Try.underlying23 h with ⟨hcs, _⟩ | ⟨a, len, cap, m, n, D, Pl, hcs, _, hl, hm, hmm, _, hi⟩
  · simp at hcs
    exact ⟨none, 0, 0, [], hcs, rfl, Nat.zero_le _, fun h => absurd rfl h⟩
  · simp at hcs
    have hml : len ≤ m := by rw [hmm]; split <;> omega
    have key : ∀ i, i < len → ∃ y : Md × MdV, W.cell? (a.add (i * 3)) = some (.slice y.2.d.A y.2.d.n y.2.d.c) ∧ W.cell? (a.add (i * 3 + 1)) = some (.slice y.2.x.A y.2.x.n y.2.x.c) ∧ W.cell? (a.add (i * 3 + 2)) = some (.slice y.2.n.A y.2.n.n y.2.n.c) ∧ MdOk W.heap.size W y.1 y.2 := fun i hi' => by
      obtain ⟨cs', hc, ht⟩ := hi i (by omega)
      rw [Try.cellsMode] at hc
      obtain ⟨_, hlen, hat⟩ := World.cells?_some hc
      match cs', hlen with
      | [u0, u1, u2], _ =>
        obtain ⟨o, y, rfl, rfl, rfl, hok⟩ := open_mode ht
        have g0 := hat 0 (by omega)
        have g1 := hat 1 (by omega)
        have g2 := hat 2 (by omega)
        rw [Go.Deep.add_add] at g0 g1 g2
        exact ⟨(o, y), by simpa using g0, by simpa using g1, by simpa using g2, hok⟩
    obtain ⟨Y, hY⟩ := Go.Deep.choose_lt (α := Md × MdV) (p := fun i y => W.cell? (a.add (i * 3)) = some (.slice y.2.d.A y.2.d.n y.2.d.c) ∧ W.cell? (a.add (i * 3 + 1)) = some (.slice y.2.x.A y.2.x.n y.2.x.c) ∧ W.cell? (a.add (i * 3 + 2)) = some (.slice y.2.n.A y.2.n.n y.2.n.c) ∧ MdOk W.heap.size W y.1 y.2) key
    refine ⟨some a, len, cap, (List.range len).map fun i => (Y i).1, hcs, by simp, by omega, fun hne => ?_⟩
    have h0 : 0 < len := by
      rcases Nat.eq_zero_or_pos len with h | h
      · subst h; simp at hne
      · exact h
    obtain ⟨b, off, spot⟩ := a
    obtain ⟨hc0, _⟩ := hY 0 h0
    have hspot : spot = none := by simpa [Addr.add] using World.cell?_spot hc0
    subst hspot
    refine ⟨b, off, rfl, ?_, fun j o hj => ?_⟩
    · have := cell_lt hc0
      rwa [addr_add] at this
    · have hj' : j < len := by
        rcases Nat.lt_or_ge j len with h | h
        · exact h
        · rw [List.getElem?_eq_none (by simpa using h)] at hj; cases hj
      obtain rfl : (Y j).1 = o := by simpa [hj'] using hj
      obtain ⟨g0, g1, g2, g3⟩ := hY j hj'
      rw [addr_add] at g0 g1 g2
      exact ⟨(Y j).2, g0, g1, g2, g3⟩
set_option maxRecDepth 100000 in
/-- A list by value that came in. -/
theorem open_medl {r : Reach} {b0 : Nat} {v : Value} {d : DataW H} {p : List MemPlace} (hv : Value.okWide Try.prog W r b0 25 v) (h : DataW.Trod enc Try.prog W base spare held 25 v d p) :
    ∃ (m : ML) (c s : Slc), v = vM m c s ∧ Med W m c s := by
  obtain ⟨cs, rfl, hsz⟩ := okWide_struct Try.underlying25 hv
  obtain ⟨c0, c1, c2, c3, c4, c5, c6, c7, rfl⟩ := array8 (hsz.trans Try.cellsMedl)
  obtain ⟨fuel, hf⟩ := h
  obtain ⟨xs, n, _, _, hl, hlen, hf⟩ := DataW.trod_struct Try.underlying25 hf
  have h3 : Try.prog.cellsOf 3 = 1 := by kernel_rfl
  have h22 : Try.prog.cellsOf 22 = 1 := by kernel_rfl
  have h23 : Try.prog.cellsOf 23 = 1 := by kernel_rfl
  obtain ⟨y0, y1, y2, y3, y4, y5, y6, y7, rfl⟩ : ∃ y0 y1 y2 y3 y4 y5 y6 y7, xs = [y0, y1, y2, y3, y4, y5, y6, y7] := by
    match xs, hlen with
    | [y0, y1, y2, y3, y4, y5, y6, y7], _ => exact ⟨y0, y1, y2, y3, y4, y5, y6, y7, rfl⟩
  obtain ⟨N0, e0, _⟩ := DataW.trod_int Try.underlying3 (by simpa [h3, h22, h23, Value.cells] using hf 0 _ rfl)
  obtain ⟨N1, e1, _⟩ := DataW.trod_int Try.underlying3 (by simpa [h3, h22, h23, Value.cells] using hf 1 _ rfl)
  obtain ⟨N2, e2, _⟩ := DataW.trod_int Try.underlying3 (by simpa [h3, h22, h23, Value.cells] using hf 2 _ rfl)
  obtain ⟨N3, e3, _⟩ := DataW.trod_int Try.underlying3 (by simpa [h3, h22, h23, Value.cells] using hf 3 _ rfl)
  obtain ⟨N4, e4, _⟩ := DataW.trod_int Try.underlying3 (by simpa [h3, h22, h23, Value.cells] using hf 4 _ rfl)
  obtain ⟨N5, e5, _⟩ := DataW.trod_int Try.underlying3 (by simpa [h3, h22, h23, Value.cells] using hf 5 _ rfl)
  obtain ⟨A6, n6, k6, cold, e6, a1, a2, a3⟩ := open_truths (v := c6) (x := y6) (by simpa [h3, h22, h23, Value.cells] using hf 6 _ rfl)
  obtain ⟨A7, n7, k7, ms, e7, b1, b2, b3⟩ := open_modes (v := c7) (x := y7) (by simpa [h3, h22, h23, Value.cells] using hf 7 _ rfl)
  simp at e0 e1 e2 e3 e4 e5
  subst e0 e1 e2 e3 e4 e5 e6 e7
  exact ⟨⟨N0, N1, N2, N3, N4, N5, cold, ms⟩, ⟨A6, n6, k6⟩, ⟨A7, n7, k7⟩, rfl, a3, a1, a2, b3, b1, b2⟩
end
end Go.Proofs.Ytlkmipcenlhacaa
