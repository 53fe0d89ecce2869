/-
  What the statements of package sched begin with: spans put together, and slots. No condition.
-/
import Derived.Test.YtjdhodobfkkoiaaSR
namespace Go.Proofs.Ytjdhodobfkkoiaa
open Go.RowKit

def lit3 : List Sp := [(5, 8), (1, 3), (3, 4)]
def lit2 : List Sp := [(1, 4), (5, 8)]
theorem lit_norm : normR lit3 = (0, lit2) := by decide
theorem lit_slotOf : slotOfS (100, 10, 4) 137 = (0, 3) := by decide
theorem lit_next : nextS (100, 10, 4) 101 0 = (0, 4) := by decide
theorem lit3_smps {w : World} {g : Nat} (h : Blk w g 23 #[.int .i64 5, .int .i64 8, .int .i64 1, .int .i64 3, .int .i64 3, .int .i64 4]) : Smps w.heap.size w (some ⟨g, 0, none⟩) lit3 := fun _ => ⟨g, 0, rfl, h.lt, fun j hj => by
  rw [Nat.zero_add]
  have hj' : j < 3 := hj
  have h1 := h.cell (j * 2)
  have h2 := h.cell (j * 2 + 1)
  match j, hj' with
  | 0, _ | 1, _ | 2, _ => exact ⟨h1, h2⟩⟩
theorem lit2_smps {w : World} {g : Nat} (h : Blk w g 23 #[.int .i64 1, .int .i64 4, .int .i64 5, .int .i64 8]) : Smps w.heap.size w (some ⟨g, 0, none⟩) lit2 := fun _ => ⟨g, 0, rfl, h.lt, fun j hj => by
  rw [Nat.zero_add]
  have hj' : j < 2 := hj
  have h1 := h.cell (j * 2)
  have h2 := h.cell (j * 2 + 1)
  match j, hj' with
  | 0, _ | 1, _ => exact ⟨h1, h2⟩⟩

set_option maxRecDepth 8000 in
set_option maxHeartbeats 2000000 in
theorem sbegun_any (w : World) : Calls Try.prog 11 #[] w fun e w' => e = .returned (.bool true) ∧ Below w.heap.size w w' := by
  have h1 := fun (W : World) (g : Nat) (h : Blk W g 23 #[.int .i64 5, .int .i64 8, .int .i64 1, .int .i64 3, .int .i64 3, .int .i64 4]) => norm_any (some ⟨g, 0, none⟩) 3 3 lit3 W rfl (by decide) (lit3_smps h)
  have h2 := fun W => sslotOf_any 100 10 4 137 W
  have h3 := fun W => next_any 100 10 4 101 0 W
  have h4 := fun (W : World) (g c : Nat) (A : Option Addr) (h : Blk W g 23 #[.int .i64 1, .int .i64 4, .int .i64 5, .int .i64 8]) (hA : Smps W.heap.size W A lit2) => sequal_yes A (some ⟨g, 0, none⟩) 2 c 2 lit2 W rfl (by decide) hA (lit2_smps h)
  rw [lit_norm] at h1
  rw [lit_slotOf] at h2
  rw [lit_next] at h3
  unfold ResN at h1
  dsimp only at h1 h2 h3
  have H1 := Lib.hid h1; have H2 := Lib.hid h2; have H3 := Lib.hid h3; have H4 := Lib.hid h4; clear h1 h2 h3 h4
  have k1 := Blk.new w 23 #[.int .i64 5, .int .i64 8, .int .i64 1, .int .i64 3, .int .i64 3, .int .i64 4]
  have bc := Below.al w (.cells #[.int .i64 5, .int .i64 8, .int .i64 1, .int .i64 3, .int .i64 3, .int .i64 4] 23)
  go_enter Try.func11, Try.ntmps11
  go_wp2_with fail
  refine (H1.out _ _ k1).mono ?_
  rintro e w1 ⟨v, rfl, hrow, hC⟩
  dsimp only
  replace bc := below_then bc hC; clear hC k1
  obtain ⟨XA, xc, rfl, -, -, hX⟩ := spans_of_own hrow
  have hl2 : lit2.length = 2 := rfl
  rw [hl2] at hrow
  clear hl2 hrow
  have kg := Blk.new w1 41 #[.int .i64 100, .int .i64 10, .int .i64 4]
  have al := Below.al w1 (.cells #[.int .i64 100, .int .i64 10, .int .i64 4] 41)
  replace hX := hX.on al
  replace bc := below_then bc al; clear al
  go_wp2_with fail
  generalize w1.alloc _ = u1 at *
  refine (H2.out _).mono ?_
  rintro e w2 ⟨rfl, hC⟩
  dsimp only
  replace kg := kg.on hC; replace hX := hX.on hC; replace bc := below_then bc hC; clear hC
  obtain ⟨p0, p1, p2, -, -, -⟩ := kg.three
  go_wp2_with fail
  clear p0 p1 p2
  refine (H3.out _).mono ?_
  rintro e w3 ⟨rfl, hC⟩
  dsimp only
  replace hX := hX.on hC; replace bc := below_then bc hC; clear hC
  have kl := Blk.new w3 23 #[.int .i64 1, .int .i64 4, .int .i64 5, .int .i64 8]
  have al := Below.al w3 (.cells #[.int .i64 1, .int .i64 4, .int .i64 5, .int .i64 8] 23)
  replace hX := hX.on al
  replace bc := below_then bc al; clear al
  go_wp2_with fail
  refine (H4.out _ _ _ _ kl hX).mono ?_
  rintro e w4 ⟨rfl, hC⟩
  dsimp only
  replace bc := below_then bc hC; clear hC
  go_wp2
  go_ret
  exact ⟨rfl, bc⟩
end Go.Proofs.Ytjdhodobfkkoiaa
