/-
  The law of the rounds: what Round and Settle answer is the document's. Conditions: those that the theorem names.
-/
import Derived.Test.YtfncccjiiipfoaaFW
import Derived.Test.YtfncccjiiipfoaaFI
namespace Go.Proofs.Ytfncccjiiipfoaa
open Go.RowKit

theorem roundS_length (cs : List Int) (rows : List (List Int)) : (roundS cs rows).1.length ≤ 8 := by
  unfold roundS
  split
  · exact Nat.zero_le _
  · rename_i h
    split
    · exact Nat.zero_le _
    · show (roundL _ _).length ≤ 8
      rw [roundL_length]
      by_cases h2 : cs.length ≤ 8
      · exact h2
      · exact absurd (fun e => h2 e.2.1) h
theorem settleS_length (cs : List Int) (r : Int) : (settleS cs r).1.length ≤ 8 := by
  unfold settleS
  split
  · exact Nat.zero_le _
  · rename_i h
    split
    · exact Nat.zero_le _
    · refine stepsS_length _ _ ?_ _
      by_cases h2 : cs.length ≤ 8
      · exact h2
      · exact absurd (fun e => h2 e.2.2.2) h

set_option maxRecDepth 8000 in
set_option maxHeartbeats 4000000 in
theorem rounds_law (A X : Option Addr) (n c xn xc : Nat) (cs : List Int) (rs : List RJ) (r : Int) (w : World) (hn : n = cs.length) (hm : n ≤ maxLen) (hA : Ints w.heap.size w A cs) (hx : xn = rs.length) (hxm : xn ≤ maxLen) (hX : RowsJ w.heap.size w X rs) :
    Calls Try.prog 4 #[.slice A n c, .slice X xn xc, .int .i64 r] w fun e w' => e = .returned (.bool true) ∧ Below w.heap.size w w' := by
  have hin := fun w1 (h : Below w.heap.size w w1) => (hA.below h).mono h.size
  have hxn := fun w1 (h : Below w.heap.size w w1) => (hX.below h).mono h.size
  have h1 := fun w1 (h : Below w.heap.size w w1) => round_any A X n c xn xc cs rs w1 hn hm (hin w1 h) hx hxm (hxn w1 h)
  have h2 := fun w1 (h : Below w.heap.size w w1) => rround_any A X n c xn xc cs rs w1 hn hm (hin w1 h) hx hxm (hxn w1 h)
  have h3 := fun w1 (h : Below w.heap.size w w1) => settle_any A n c cs r w1 hn hm (hin w1 h)
  have h4 := fun w1 (h : Below w.heap.size w w1) => rsettle_any A n c cs r w1 hn hm (hin w1 h)
  have l1 := roundS_length cs (rs.map RJ.l)
  have l2 := settleS_length cs r
  unfold roundV at h1 h2 h3 h4
  clear hin hxn hA hX hn hm hx hxm
  generalize roundS cs (rs.map RJ.l) = p at *
  obtain ⟨p1, p2⟩ := p
  generalize settleS cs r = q at *
  obtain ⟨q1, q2⟩ := q
  dsimp only at *
  have e1 := fun (A B : Option Addr) (c d : Nat) w1 (ha : Ints w1.heap.size w1 A p1) (hb : Ints w1.heap.size w1 B p1) => jsame_any A B p1.length p1.length c d p1 p1 w1 rfl rfl (by unfold maxLen; omega) (by unfold maxLen; omega) ha hb
  have e2 := fun (A B : Option Addr) (c d : Nat) w1 (ha : Ints w1.heap.size w1 A q1) (hb : Ints w1.heap.size w1 B q1) => jsame_any A B q1.length q1.length c d q1 q1 w1 rfl rfl (by unfold maxLen; omega) (by unfold maxLen; omega) ha hb
  rw [show decide (p1 = p1) = true from by simp] at e1
  rw [show decide (q1 = q1) = true from by simp] at e2
  generalize p1.length = pn at *
  generalize q1.length = qn at *
  have H1 := Lib.hid h1; have H2 := Lib.hid h2; have H3 := Lib.hid h3; have H4 := Lib.hid h4; have HE1 := Lib.hid e1; have HE2 := Lib.hid e2
  clear h1 h2 h3 h4 e1 e2 l1 l2
  have hB := Below.refl w.heap.size w
  go_enter Try.func4, Try.ntmps4
  go_wp2_with (first
    | (go_at_call 19; refine (H1.out _ hB).mono ?_; rintro e w1 ⟨B1, d1, rfl, hI1, hC⟩; replace hB := hB.trans (hC.mono hB.size); clear hC)
    | (go_at_call 20; refine (H2.out _ hB).mono ?_; rintro e w1 ⟨B2, d2, rfl, hI2, hC⟩; replace hB := hB.trans (hC.mono hB.size); replace hI1 := (hI1.below hC).mono hC.size; clear hC)
    | (go_at_call 21; refine (H3.out _ hB).mono ?_; rintro e w1 ⟨B3, d3, rfl, hI3, hC⟩; replace hB := hB.trans (hC.mono hB.size); replace hI1 := (hI1.below hC).mono hC.size; replace hI2 := (hI2.below hC).mono hC.size; clear hC)
    | (go_at_call 22; refine (H4.out _ hB).mono ?_; rintro e w1 ⟨B4, d4, rfl, hI4, hC⟩; replace hB := hB.trans (hC.mono hB.size); replace hI1 := (hI1.below hC).mono hC.size; replace hI2 := (hI2.below hC).mono hC.size; replace hI3 := (hI3.below hC).mono hC.size; clear hC)
    | (go_at_call 15; refine (begun_any _).mono ?_; rintro e w1 ⟨rfl, hC⟩; replace hB := hB.trans (hC.mono hB.size); replace hI1 := (hI1.below hC).mono hC.size; replace hI2 := (hI2.below hC).mono hC.size; replace hI3 := (hI3.below hC).mono hC.size; replace hI4 := (hI4.below hC).mono hC.size; clear hC)
    | (go_at_call 18; refine (HE1.out _ _ _ _ _ hI1 hI2).mono ?_; rintro e w1 ⟨rfl, hC⟩; replace hB := hB.trans (hC.mono hB.size); replace hI3 := (hI3.below hC).mono hC.size; replace hI4 := (hI4.below hC).mono hC.size; clear hC hI1 hI2)
    | (go_at_call 18; refine (HE2.out _ _ _ _ _ hI3 hI4).mono ?_; rintro e w1 ⟨rfl, hC⟩; replace hB := hB.trans (hC.mono hB.size); clear hC hI3 hI4))
  go_ret
  exact ⟨rfl, hB⟩
end Go.Proofs.Ytfncccjiiipfoaa
