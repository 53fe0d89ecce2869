/-
  How a state that came in is read, and what the rows of package cstate list of the array of widths: the program's own start meets it, and its cells hold it. No condition.
-/
import Derived.Test.YteigekhfamapmaaDoorR0
import Derived.Test.YteigekhfamapmaaDoorB5
import Derived.Test.YteigekhfamapmaaDoorTie
import Derived.Test.YteigekhfamapmaaDoorCards
import Derived.ProofKit
import Derived.LaidMore
import Derived.Lib.LaidTab
import Derived.Stop.Joined
namespace Go.Proofs.YteigekhfamapmaaDoor
open Go.ChangeShapes Go.WideShapes Go.ChangeAt Go.RowKit Go.Joins

theorem Tryd.cells23 : Tryd.prog.cellsOf 23 = 5 := by kernel_rfl
theorem array5 {α : Type} {a : Array α} (h : a.size = 5) : ∃ x0 x1 x2 x3 x4, a = #[x0, x1, x2, x3, x4] := by
  obtain ⟨l⟩ := a
  match l, h with
  | [x0, x1, x2, x3, x4], _ => exact ⟨x0, x1, x2, x3, x4, rfl⟩
section
variable {H : Type} {enc : TypeId × Value → H} {W : World} {base : Nat} {spare : Nat → Bool} {held : Bool}
theorem open_cstate {r : Reach} {b0 : Nat} {v : Value} {d : DataW H} {p : List MemPlace} (hv : Value.okWide Tryd.prog W r b0 23 v) (h : DataW.Trod enc Tryd.prog W base spare held 23 v d p) :
    ∃ c : CS, v = .agg c.cells := by
  obtain ⟨cs, rfl, hsz⟩ := okWide_struct Tryd.underlying23 hv
  obtain ⟨c0, c1, c2, c3, c4, rfl⟩ := array5 (hsz.trans Tryd.cells23)
  obtain ⟨fuel, hf⟩ := h
  obtain ⟨xs, n, _, _, hl, hlen, hf⟩ := DataW.trod_struct Tryd.underlying23 hf
  have h3 : Tryd.prog.cellsOf 3 = 1 := by kernel_rfl
  obtain ⟨y0, y1, y2, y3, y4, rfl⟩ : ∃ y0 y1 y2 y3 y4, xs = [y0, y1, y2, y3, y4] := by
    match xs, hlen with
    | [y0, y1, y2, y3, y4], _ => exact ⟨y0, y1, y2, y3, y4, rfl⟩
  obtain ⟨N0, e0, _⟩ := DataW.trod_int Tryd.underlying3 (by simpa [h3, Value.cells] using hf 0 _ rfl)
  obtain ⟨N1, e1, _⟩ := DataW.trod_int Tryd.underlying3 (by simpa [h3, Value.cells] using hf 1 _ rfl)
  obtain ⟨N2, e2, _⟩ := DataW.trod_int Tryd.underlying3 (by simpa [h3, Value.cells] using hf 2 _ rfl)
  obtain ⟨N3, e3, _⟩ := DataW.trod_int Tryd.underlying3 (by simpa [h3, Value.cells] using hf 3 _ rfl)
  obtain ⟨N4, e4, _⟩ := DataW.trod_int Tryd.underlying3 (by simpa [h3, Value.cells] using hf 4 _ rfl)
  simp at e0 e1 e2 e3 e4
  subst e0 e1 e2 e3 e4
  exact ⟨⟨N0, N1, N2, N3, N4⟩, rfl⟩
end
abbrev laidTab : List (String × DataW Unit) := [("metronome/cstate.widths", Rows.laid_metronome_cstate_widths)]
theorem Tryd.gTab : Tryd.prog.globalNamed "metronome/cstate.widths" = some 0 := by kernel_rfl
theorem Tryd.tTab : (Tryd.prog.globals[0]?).map (·.type) = some 52 := by kernel_rfl
theorem door_met (os : Os) (args : Array Value) : laidMetH Tryd.prog laidTab ((World.doorLaid Tryd.prog 400 os).forCall (fun _ _ => 0) ⟨#[], args, []⟩).memory :=
  laidMetH_of_parts3 (fuel := 8) (laidMet_of_run' 8 (by kernel_rfl) (by kernel_rfl)) (by kernel_rfl) (by kernel_rfl)
theorem tab_of_laid {W : World} (h : laidMetH Tryd.prog laidTab W) : WTab W := by
  rw [MakeChecks.laidMetH_plain _ _ _ (by kernel_rfl)] at h
  have hT := Lib.tabIs_of_head (k := .i64) (zs := widL) Tryd.gTab Tryd.tTab Tryd.underlying52 Tryd.underlying3 (by kernel_rfl) (by kernel_rfl) h
  have hc := fun (i : Nat) (hi : i < 5) => hT.cell Tryd.gTab i hi
  have h0 := cell_lt (hc 0 (by decide))
  dsimp only at h0
  exact ⟨by omega, h0, hc⟩
end Go.Proofs.YteigekhfamapmaaDoor
