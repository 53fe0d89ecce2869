/-
  The statement of what follows of a list, of layer 7. Condition: a list that can be read. (Printed by tools/gen07t.py.)
-/
import Derived.Test.YtnmaelefcohogaaMM
import Derived.Test.YtnmaelefcohogaaMS
namespace Go.Proofs.Ytnmaelefcohogaa
open Go.RowKit

set_option maxRecDepth 100000 in
set_option maxHeartbeats 4000000 in
theorem tells_law (m : ML) (c s : Slc) (mo n : Int) (w : World) (hM : Med w m c s) : Calls Try.prog 4 #[vM m c s, .int .i64 mo, .int .i64 n] w fun e w' => e = .returned (.bool true) ∧ Below w.heap.size w w' := by
  have h0 := fun W (h : Below w.heap.size w W) => mkind_any m c s mo n W (hM.on h)
  have h1 := fun W (h : Below w.heap.size w W) => rkindM_any m c s mo n W (hM.on h)
  have h2 := fun W (h : Below w.heap.size w W) => mair_any m c s mo n W (hM.on h)
  have h3 := fun W (h : Below w.heap.size w W) => rairM_any m c s mo n W (hM.on h)
  have h4 := fun W (h : Below w.heap.size w W) => precision_any m c s  W (hM.on h)
  have h5 := fun W (h : Below w.heap.size w W) => rprecision_any m c s  W (hM.on h)
  have h6 := fun W (h : Below w.heap.size w W) => listen_any m c s n W (hM.on h)
  have h7 := fun W (h : Below w.heap.size w W) => rlisten_any m c s n W (hM.on h)
  have h8 := fun W (h : Below w.heap.size w W) => retry_any m c s n W (hM.on h)
  have h9 := fun W (h : Below w.heap.size w W) => rretry_any m c s n W (hM.on h)
  have h10 := fun W (h : Below w.heap.size w W) => bound_any m c s  W (hM.on h)
  have h11 := fun W (h : Below w.heap.size w W) => rbound_any m c s  W (hM.on h)
  unfold Pr at h0 h1 h2 h3 h4 h5 h6 h7 h8 h9 h10 h11
  generalize kindM m mo n = ka at *
  obtain ⟨ka0, ka1⟩ := ka
  generalize airM m mo n = aa at *
  obtain ⟨aa0, aa1⟩ := aa
  generalize precM m = pa at *
  obtain ⟨pa0, pa1⟩ := pa
  generalize listenM m n = la at *
  obtain ⟨la0, la1⟩ := la
  generalize retryM m n = ra at *
  obtain ⟨ra0, ra1⟩ := ra
  generalize boundM m = ba at *
  obtain ⟨ba0, ba1⟩ := ba
  dsimp only at h0 h1 h2 h3 h4 h5 h6 h7 h8 h9 h10 h11
  clear hM
  obtain ⟨N, S, G, W, D, L, cold, ms⟩ := m
  obtain ⟨Ac, nc, cc⟩ := c
  obtain ⟨As, ns, cs⟩ := s
  dsimp only [vM] at *
  have H0 := Lib.hid h0; have H1 := Lib.hid h1; have H2 := Lib.hid h2; have H3 := Lib.hid h3; have H4 := Lib.hid h4; have H5 := Lib.hid h5; have H6 := Lib.hid h6; have H7 := Lib.hid h7; have H8 := Lib.hid h8; have H9 := Lib.hid h9; have H10 := Lib.hid h10; have H11 := Lib.hid h11; clear h0 h1 h2 h3 h4 h5 h6 h7 h8 h9 h10 h11
  obtain ⟨kb, bc⟩ := bx1 w #[.int .i64 N, .int .i64 S, .int .i64 G, .int .i64 W, .int .i64 D, .int .i64 L, .slice Ac nc cc, .slice As ns cs] 25
  go_enter Try.func4, Try.ntmps4
  go_wp2_with (first
    | (go_at_call 17; with_reducible refine (H0.out _ bc).mono ?_; rintro e w1 ⟨rfl, hC⟩; dsimp only; replace kb := kb.on hC; replace bc := bc.trans (hC.mono bc.size); clear hC; (try clear p0 p1 p2 p3 p4 p5 p6 p7); obtain ⟨p0, p1, p2, p3, p4, p5, p6, p7⟩ := kb.eight)
    | (go_at_call 18; with_reducible refine (H1.out _ bc).mono ?_; rintro e w1 ⟨rfl, hC⟩; dsimp only; replace kb := kb.on hC; replace bc := bc.trans (hC.mono bc.size); clear hC; (try clear p0 p1 p2 p3 p4 p5 p6 p7); obtain ⟨p0, p1, p2, p3, p4, p5, p6, p7⟩ := kb.eight)
    | (go_at_call 19; with_reducible refine (H2.out _ bc).mono ?_; rintro e w1 ⟨rfl, hC⟩; dsimp only; replace kb := kb.on hC; replace bc := bc.trans (hC.mono bc.size); clear hC; (try clear p0 p1 p2 p3 p4 p5 p6 p7); obtain ⟨p0, p1, p2, p3, p4, p5, p6, p7⟩ := kb.eight)
    | (go_at_call 20; with_reducible refine (H3.out _ bc).mono ?_; rintro e w1 ⟨rfl, hC⟩; dsimp only; replace kb := kb.on hC; replace bc := bc.trans (hC.mono bc.size); clear hC; (try clear p0 p1 p2 p3 p4 p5 p6 p7); obtain ⟨p0, p1, p2, p3, p4, p5, p6, p7⟩ := kb.eight)
    | (go_at_call 21; with_reducible refine (H4.out _ bc).mono ?_; rintro e w1 ⟨rfl, hC⟩; dsimp only; replace kb := kb.on hC; replace bc := bc.trans (hC.mono bc.size); clear hC; (try clear p0 p1 p2 p3 p4 p5 p6 p7); obtain ⟨p0, p1, p2, p3, p4, p5, p6, p7⟩ := kb.eight)
    | (go_at_call 22; with_reducible refine (H5.out _ bc).mono ?_; rintro e w1 ⟨rfl, hC⟩; dsimp only; replace kb := kb.on hC; replace bc := bc.trans (hC.mono bc.size); clear hC; (try clear p0 p1 p2 p3 p4 p5 p6 p7); obtain ⟨p0, p1, p2, p3, p4, p5, p6, p7⟩ := kb.eight)
    | (go_at_call 23; with_reducible refine (H6.out _ bc).mono ?_; rintro e w1 ⟨rfl, hC⟩; dsimp only; replace kb := kb.on hC; replace bc := bc.trans (hC.mono bc.size); clear hC; (try clear p0 p1 p2 p3 p4 p5 p6 p7); obtain ⟨p0, p1, p2, p3, p4, p5, p6, p7⟩ := kb.eight)
    | (go_at_call 24; with_reducible refine (H7.out _ bc).mono ?_; rintro e w1 ⟨rfl, hC⟩; dsimp only; replace kb := kb.on hC; replace bc := bc.trans (hC.mono bc.size); clear hC; (try clear p0 p1 p2 p3 p4 p5 p6 p7); obtain ⟨p0, p1, p2, p3, p4, p5, p6, p7⟩ := kb.eight)
    | (go_at_call 25; with_reducible refine (H8.out _ bc).mono ?_; rintro e w1 ⟨rfl, hC⟩; dsimp only; replace kb := kb.on hC; replace bc := bc.trans (hC.mono bc.size); clear hC; (try clear p0 p1 p2 p3 p4 p5 p6 p7); obtain ⟨p0, p1, p2, p3, p4, p5, p6, p7⟩ := kb.eight)
    | (go_at_call 26; with_reducible refine (H9.out _ bc).mono ?_; rintro e w1 ⟨rfl, hC⟩; dsimp only; replace kb := kb.on hC; replace bc := bc.trans (hC.mono bc.size); clear hC; (try clear p0 p1 p2 p3 p4 p5 p6 p7); obtain ⟨p0, p1, p2, p3, p4, p5, p6, p7⟩ := kb.eight)
    | (go_at_call 27; with_reducible refine (H10.out _ bc).mono ?_; rintro e w1 ⟨rfl, hC⟩; dsimp only; replace kb := kb.on hC; replace bc := bc.trans (hC.mono bc.size); clear hC; (try clear p0 p1 p2 p3 p4 p5 p6 p7); obtain ⟨p0, p1, p2, p3, p4, p5, p6, p7⟩ := kb.eight)
    | (go_at_call 28; with_reducible refine (H11.out _ bc).mono ?_; rintro e w1 ⟨rfl, hC⟩; dsimp only; replace kb := kb.on hC; replace bc := bc.trans (hC.mono bc.size); clear hC; (try clear p0 p1 p2 p3 p4 p5 p6 p7); obtain ⟨p0, p1, p2, p3, p4, p5, p6, p7⟩ := kb.eight)
    | (go_at_call 10; refine (begun_any _).mono ?_; rintro e w1 ⟨rfl, hC⟩; dsimp only; replace kb := kb.on hC; replace bc := bc.trans (hC.mono bc.size); clear hC; (try clear p0 p1 p2 p3 p4 p5 p6 p7); obtain ⟨p0, p1, p2, p3, p4, p5, p6, p7⟩ := kb.eight))
  go_ret
  exact ⟨rfl, bc⟩
end Go.Proofs.Ytnmaelefcohogaa
