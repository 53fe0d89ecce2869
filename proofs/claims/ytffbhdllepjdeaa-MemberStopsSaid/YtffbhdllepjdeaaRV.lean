/-
  How a view that came in is read. No condition.
-/
import Derived.Test.YtffbhdllepjdeaaR0
import Derived.Test.YtffbhdllepjdeaaVA
import Derived.ProofKit
import Derived.Stop.Joined
namespace Go.Proofs.Ytffbhdllepjdeaa
open Go.ChangeShapes Go.WideShapes Go.ChangeAt Go.RowKit Go.Joins

theorem Try.cells23 : Try.prog.cellsOf 23 = 7 := by kernel_rfl
theorem array7 {α : Type} {a : Array α} (h : a.size = 7) : ∃ x0 x1 x2 x3 x4 x5 x6, a = #[x0, x1, x2, x3, x4, x5, x6] := by
  obtain ⟨l⟩ := a
  match l, h with
  | [x0, x1, x2, x3, x4, x5, x6], _ => exact ⟨x0, x1, x2, x3, x4, x5, x6, rfl⟩
section
variable {H : Type} {enc : TypeId × Value → H} {W : World} {base : Nat} {spare : Nat → Bool} {held : Bool}
set_option maxRecDepth 8000 in
theorem open_member {r : Reach} {b0 : Nat} {v : Value} {d : DataW H} {p : List MemPlace} (hv : Value.okWide Try.prog W r b0 23 v) (h : DataW.Trod enc Try.prog W base spare held 23 v d p) :
    ∃ m : MV, v = .agg m.cells := by
  obtain ⟨cs, rfl, hsz⟩ := okWide_struct Try.underlying23 hv
  obtain ⟨c0, c1, c2, c3, c4, c5, c6, rfl⟩ := array7 (hsz.trans Try.cells23)
  obtain ⟨fuel, hf⟩ := h
  obtain ⟨xs, n, _, _, hl, hlen, hf⟩ := DataW.trod_struct Try.underlying23 hf
  have h3 : Try.prog.cellsOf 3 = 1 := by kernel_rfl
  obtain ⟨y0, y1, y2, y3, y4, y5, y6, rfl⟩ : ∃ y0 y1 y2 y3 y4 y5 y6, xs = [y0, y1, y2, y3, y4, y5, y6] := by
    match xs, hlen with
    | [y0, y1, y2, y3, y4, y5, y6], _ => exact ⟨y0, y1, y2, y3, y4, y5, y6, rfl⟩
  obtain ⟨N0, e0, _⟩ := DataW.trod_int Try.underlying3 (by simpa [h3, Value.cells] using hf 0 _ rfl)
  obtain ⟨N1, e1, _⟩ := DataW.trod_int Try.underlying3 (by simpa [h3, Value.cells] using hf 1 _ rfl)
  obtain ⟨N2, e2, _⟩ := DataW.trod_int Try.underlying3 (by simpa [h3, Value.cells] using hf 2 _ rfl)
  obtain ⟨N3, e3, _⟩ := DataW.trod_int Try.underlying3 (by simpa [h3, Value.cells] using hf 3 _ rfl)
  obtain ⟨N4, e4, _⟩ := DataW.trod_int Try.underlying3 (by simpa [h3, Value.cells] using hf 4 _ rfl)
  obtain ⟨N5, e5, _⟩ := DataW.trod_int Try.underlying3 (by simpa [h3, Value.cells] using hf 5 _ rfl)
  obtain ⟨N6, e6, _⟩ := DataW.trod_int Try.underlying3 (by simpa [h3, Value.cells] using hf 6 _ rfl)
  simp at e0 e1 e2 e3 e4 e5 e6
  subst e0 e1 e2 e3 e4 e5 e6
  exact ⟨⟨N0, N1, N2, N3, N4, N5, N6⟩, rfl⟩
end
end Go.Proofs.Ytffbhdllepjdeaa
