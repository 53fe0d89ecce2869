/-
  The law of sums: for all lists of bits the program's sum is the document's. Conditions: that the lists and the bytes can be read, and that the table holds what the program's text lays.
-/
import Derived.Test.YtlmlbpnjkkfiaaaDoorC6
namespace Go.Proofs.YtlmlbpnjkkfiaaaDoor
open Go.RowKit

set_option maxHeartbeats 1000000 in
theorem sums_law (X : Option Addr) (xn xc : Nat) (xs : List BV) (w : World) (hxn : xn = xs.length) (hxm : xn ≤ maxLen) (hX : BVs w.heap.size w X xs) (hok : ∀ x ∈ xs, BVok w.heap.size w x) (hT : Tab w) :
    Calls Tryd.prog 3 #[.slice X xn xc] w fun e w' => e = .returned (.bool true) ∧ Below w.heap.size w w' := by
  have hbv := fun (w1 : World) (h : Below w.heap.size w w1) => (fun hne => by
      obtain ⟨b, off, e, hlt, hc⟩ := hX hne
      exact ⟨b, off, e, Nat.lt_of_lt_of_le hlt h.size, fun j x hj => ⟨(h.cell (p := ⟨b, off + j * 2, none⟩) hlt).trans (hc j x hj).1, (h.cell (p := ⟨b, off + j * 2 + 1, none⟩) hlt).trans (hc j x hj).2⟩⟩ : BVs w1.heap.size w1 X xs)
  have h1 := fun (w1 : World) (h : Below w.heap.size w w1) => sum_any X xn xc xs w1 hxn hxm (hbv w1 h) (fun x hx => (hok x hx).below h h.size) (hT.below h (.inl (Nat.le_refl _)))
  have h2 := fun (w1 : World) (h : Below w.heap.size w w1) => rsum_any X xn xc xs w1 hxn hxm (hbv w1 h) (fun x hx => (hok x hx).below h h.size)
  have h3 := fun (w1 : World) (h : Below w.heap.size w w1) => begun_any w1 (hT.below h (.inl (Nat.le_refl _)))
  have h4 := fun (w1 : World) => few_any X xn xc w1 hxm
  have H1 := Lib.hid h1; have H2 := Lib.hid h2; have H3 := Lib.hid h3; have H4 := Lib.hid h4
  clear h1 h2 h3 h4 hbv hX hok hT hxn
  generalize sumS xs = R at *
  obtain ⟨R1, R2⟩ := R
  by_cases hf : xn ≤ 20
  · have hd : decide (xn ≤ 20) = true := by simpa using hf
    rw [hd] at H4
    clear hd hf
    unfold maxLen at hxm
    go_enter Tryd.func3, Tryd.ntmps3
    go_wp2_with (first
      | (go_at_call 9; refine (H3.out _ (Below.refl _ _)).mono ?_; rintro e w1 ⟨rfl, hB1⟩)
      | (go_at_call 10; refine (H4.out _).mono ?_; rintro e w2 ⟨rfl, rfl⟩)
      | (go_at_call 11; refine (H1.out _ hB1).mono ?_; rintro e w3 ⟨rfl, hB3⟩; dsimp only; have hB13 := hB1.trans (hB3.mono hB1.size))
      | (go_at_call 12; refine (H2.out _ hB13).mono ?_; rintro e w4 ⟨rfl, hB4⟩; dsimp only))
    go_ret
    exact ⟨rfl, hB13.trans (hB4.mono hB13.size)⟩
  · have hd : decide (xn ≤ 20) = false := by simpa using hf
    rw [hd] at H4
    clear hd hf
    unfold maxLen at hxm
    go_enter Tryd.func3, Tryd.ntmps3
    go_wp2_with fail
    refine (H3.out _ (Below.refl _ _)).mono ?_
    rintro e w1 ⟨rfl, hB1⟩
    go_wp2_with fail
    refine (H4.out _).mono ?_
    rintro e w2 ⟨rfl, rfl⟩
    go_wp2_with fail
    refine (H3.out _ hB1).mono ?_
    rintro e w3 ⟨rfl, hB3⟩
    go_wp2
    go_ret
    exact ⟨rfl, hB1.trans (hB3.mono hB1.size)⟩
end Go.Proofs.YtlmlbpnjkkfiaaaDoor
