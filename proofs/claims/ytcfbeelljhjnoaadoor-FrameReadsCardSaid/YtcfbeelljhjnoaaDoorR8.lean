/-
  How a frame that came in is read, and what the rows of package frame list of the tables: the program's own start meets it, and the tables' cells hold it. No condition.
-/
import Derived.Test.YtcfbeelljhjnoaaDoorR0
import Derived.Test.YtcfbeelljhjnoaaDoorNV
import Derived.Test.YtcfbeelljhjnoaaDoorTie
import Derived.Test.YtcfbeelljhjnoaaDoorCards
import Derived.ProofKit
import Derived.LaidMore
import Derived.Lib.LaidTab
import Derived.Stop.Joined
import Derived.Stop.LaidErr
namespace Go.Proofs.YtcfbeelljhjnoaaDoor
open Go.ChangeShapes Go.WideShapes Go.ChangeAt Go.RowKit Go.Joins

theorem Tryd.cells23 : Tryd.prog.cellsOf 23 = 5 := by kernel_rfl
theorem Tryd.cells26 : Tryd.prog.cellsOf 26 = 9 := by kernel_rfl
theorem array5 {α : Type} {a : Array α} (h : a.size = 5) : ∃ x0 x1 x2 x3 x4, a = #[x0, x1, x2, x3, x4] := by
  obtain ⟨l⟩ := a
  match l, h with
  | [x0, x1, x2, x3, x4], _ => exact ⟨x0, x1, x2, x3, x4, rfl⟩
theorem array9 {α : Type} {a : Array α} (h : a.size = 9) : ∃ x0 x1 x2 x3 x4 x5 x6 x7 x8, a = #[x0, x1, x2, x3, x4, x5, x6, x7, x8] := by
  obtain ⟨l⟩ := a
  match l, h with
  | [x0, x1, x2, x3, x4, x5, x6, x7, x8], _ => exact ⟨x0, x1, x2, x3, x4, x5, x6, x7, x8, rfl⟩
section
variable {H : Type} {enc : TypeId × Value → H} {W : World} {base : Nat} {spare : Nat → Bool} {held : Bool}
set_option maxRecDepth 8000 in
theorem open_five {fuel : Nat} {c0 c1 c2 c3 c4 : Value} {x : DataW H × List MemPlace} (h : DataW.trod enc Tryd.prog W base spare held fuel 23 [c0, c1, c2, c3, c4] = some x) :
    ∃ C : CS, [c0, c1, c2, c3, c4] = [.int .i64 C.T, .int .i64 C.P, .int .i64 C.Mo, .int .i64 C.Nx, .int .i64 C.Me] := by
  obtain ⟨xs, n, _, _, hl, hlen, hf⟩ := DataW.trod_struct Tryd.underlying23 h
  have h3 : Tryd.prog.cellsOf 3 = 1 := by kernel_rfl
  obtain ⟨y0, y1, y2, y3, y4, rfl⟩ : ∃ y0 y1 y2 y3 y4, xs = [y0, y1, y2, y3, y4] := by
    match xs, hlen with
    | [y0, y1, y2, y3, y4], _ => exact ⟨y0, y1, y2, y3, y4, rfl⟩
  obtain ⟨N0, e0, _⟩ := DataW.trod_int Tryd.underlying3 (by simpa [h3, Value.cells] using hf 0 _ rfl)
  obtain ⟨N1, e1, _⟩ := DataW.trod_int Tryd.underlying3 (by simpa [h3, Value.cells] using hf 1 _ rfl)
  obtain ⟨N2, e2, _⟩ := DataW.trod_int Tryd.underlying3 (by simpa [h3, Value.cells] using hf 2 _ rfl)
  obtain ⟨N3, e3, _⟩ := DataW.trod_int Tryd.underlying3 (by simpa [h3, Value.cells] using hf 3 _ rfl)
  obtain ⟨N4, e4, _⟩ := DataW.trod_int Tryd.underlying3 (by simpa [h3, Value.cells] using hf 4 _ rfl)
  simp at e0 e1 e2 e3 e4
  subst e0 e1 e2 e3 e4
  exact ⟨⟨N0, N1, N2, N3, N4⟩, rfl⟩
set_option maxRecDepth 8000 in
theorem open_cstate {r : Reach} {b0 : Nat} {v : Value} {d : DataW H} {p : List MemPlace} (hv : Value.okWide Tryd.prog W r b0 23 v) (h : DataW.Trod enc Tryd.prog W base spare held 23 v d p) :
    ∃ c : CS, v = .agg c.cells := by
  obtain ⟨cs, rfl, hsz⟩ := okWide_struct Tryd.underlying23 hv
  obtain ⟨c0, c1, c2, c3, c4, rfl⟩ := array5 (hsz.trans Tryd.cells23)
  obtain ⟨fuel, hf⟩ := h
  obtain ⟨C, hC⟩ := open_five (x := (d, p)) (by simpa [Value.cells] using hf)
  simp at hC
  obtain ⟨rfl, rfl, rfl, rfl, rfl⟩ := hC
  exact ⟨C, rfl⟩
set_option maxRecDepth 8000 in
theorem open_frame {r : Reach} {b0 : Nat} {v : Value} {d : DataW H} {p : List MemPlace} (hv : Value.okWide Tryd.prog W r b0 26 v) (h : DataW.Trod enc Tryd.prog W base spare held 26 v d p) :
    ∃ (f : FR) (A : Option Addr) (n c : Nat), v = .agg (f.cells A n c) ∧ n = f.ds.length ∧ n ≤ maxLen ∧ Byt W.heap.size W A f.ds := by
  obtain ⟨cs, rfl, hsz⟩ := okWide_struct Tryd.underlying26 hv
  obtain ⟨c0, c1, c2, c3, c4, c5, c6, c7, c8, rfl⟩ := array9 (hsz.trans Tryd.cells26)
  obtain ⟨fuel, hf⟩ := h
  obtain ⟨xs, n, _, _, hl, hlen, hf⟩ := DataW.trod_struct Tryd.underlying26 hf
  have h3 : Tryd.prog.cellsOf 3 = 1 := by kernel_rfl
  have h23 := Tryd.cells23
  have h24 : Tryd.prog.cellsOf 24 = 1 := by kernel_rfl
  obtain ⟨y0, y1, y2, y3, y4, rfl⟩ : ∃ y0 y1 y2 y3 y4, xs = [y0, y1, y2, y3, y4] := by
    match xs, hlen with
    | [y0, y1, y2, y3, y4], _ => exact ⟨y0, y1, y2, y3, y4, rfl⟩
  obtain ⟨N0, e0, _⟩ := DataW.trod_int Tryd.underlying3 (by simpa [h3, Value.cells] using hf 0 _ rfl)
  obtain ⟨N1, e1, _⟩ := DataW.trod_int Tryd.underlying3 (by simpa [h3, Value.cells] using hf 1 _ rfl)
  obtain ⟨C, hC⟩ := open_five (x := y2) (by simpa [h23, Value.cells] using hf 2 _ rfl)
  obtain ⟨N3, e3, _⟩ := DataW.trod_int Tryd.underlying3 (by simpa [h3, Value.cells] using hf 3 _ rfl)
  obtain ⟨A, m, c, bs, e4, k1, k2, k3⟩ := open_bytes (v := c8) (x := y4) (by simpa [h24, Value.cells] using hf 4 _ rfl)
  simp at e0 e1 e3 hC
  obtain ⟨rfl, rfl, rfl, rfl, rfl⟩ := hC
  subst e0 e1 e3 e4
  exact ⟨⟨N0, N1, C, N3, bs⟩, A, m, c, rfl, k1, k2, k3⟩
end
abbrev laidTab : List (String × DataW Unit) := [("metronome/crc.table", Rows.laid_metronome_crc_table), ("metronome/cstate.widths", Rows.laid_metronome_cstate_widths)]
theorem Tryd.gTab : Tryd.prog.globalNamed "metronome/crc.table" = some 1 := by kernel_rfl
theorem Tryd.tTab : (Tryd.prog.globals[1]?).map (·.type) = some 115 := by kernel_rfl
theorem Tryd.gWid : Tryd.prog.globalNamed "metronome/cstate.widths" = some 0 := by kernel_rfl
theorem Tryd.tWid : (Tryd.prog.globals[0]?).map (·.type) = some 83 := by kernel_rfl
theorem door_met (os : Os) (args : Array Value) : laidMetH Tryd.prog laidTab ((World.doorLaid Tryd.prog 400 os).forCall (fun _ _ => 0) ⟨#[], args, []⟩).memory :=
  laidMetH_of_parts3 (fuel := 8) (laidMet_of_run' 8 (by kernel_rfl) (by kernel_rfl)) (by kernel_rfl) (by kernel_rfl)
theorem tabs_of_laid {W : World} (h : laidMetH Tryd.prog laidTab W) : Tab W ∧ WTab W := by
  rw [MakeChecks.laidMetH_plain _ _ _ (by kernel_rfl)] at h
  have hT := Lib.tabIs_of_head (k := .u32) (zs := tabL) Tryd.gTab Tryd.tTab Tryd.underlying115 Tryd.underlying47 (by kernel_rfl) (by kernel_rfl) h
  have hc := fun (i : Nat) (hi : i < 16) => hT.cell Tryd.gTab i hi
  have h0 := cell_lt (hc 0 (by decide))
  dsimp only at h0
  refine ⟨⟨by omega, h0, hc⟩, ?_⟩
  have hU := Lib.tabIs_of_head (k := .i64) (zs := widL) Tryd.gWid Tryd.tWid Tryd.underlying83 Tryd.underlying3 (by kernel_rfl) (by kernel_rfl) (laidMet.tail h)
  have hd := fun (i : Nat) (hi : i < 5) => hU.cell Tryd.gWid i hi
  have h1 := cell_lt (hd 0 (by decide))
  dsimp only at h1
  exact ⟨by omega, h1, hd⟩
end Go.Proofs.YtcfbeelljhjnoaaDoor
