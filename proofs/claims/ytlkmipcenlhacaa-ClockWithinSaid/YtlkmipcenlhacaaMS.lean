/-
  The document's own Kind, Air, Precision, Listen, Retry and Bound of layer 7. Condition: a list that can be read. (Printed by tools/gen07s.py.)
-/
import Derived.Test.YtlkmipcenlhacaaMR
import Derived.Test.YtlkmipcenlhacaaMJ
namespace Go.Proofs.Ytlkmipcenlhacaa
open Go.RowKit

set_option maxRecDepth 8000 in
set_option maxHeartbeats 2000000 in
theorem rprecision_any (m : ML) (c s : Slc) (w : World) (hM : Med w m c s) : Calls Try.prog 30 #[vM m c s] w (Pr w (precM m)) := by
  have hck := fun W (h : Below w.heap.size w W) => rmcheck_any m c s W (hM.on h)
  unfold precM
  rcases checkM_two m with h | h
  · obtain ⟨c1, -, -, -, c5, -⟩ := checkM_ok h
    rw [if_pos h]
    rw [h] at hck
    have HCK := Lib.hid hck; clear hck hM h
    obtain ⟨N, S, G, W, D, L, cold, ms⟩ := m
    obtain ⟨Ac, nc, cc⟩ := c
    obtain ⟨As, ns, cs⟩ := s
    dsimp only [vM] at *
    obtain ⟨hp0, hp1⟩ := mul_small (N := N) (D := D) (by omega) c1.2 c5.1 c5.2
    have e1 : 14 * N * D = 14 * (N * D) := Int.mul_assoc _ _ _
    have w1 : IntKind.i64.wrap (14 * N) = 14 * N := IntWalk.i64_in _ (by omega)
    have w2 : IntKind.i64.wrap (14 * N * D) = 14 * N * D := IntWalk.i64_in _ (by rw [e1]; omega)
    have w3 : IntKind.i64.wrap (14 * N * D + 8) = 14 * N * D + 8 := IntWalk.i64_in _ (by rw [e1]; omega)
    clear e1 hp0 hp1
    obtain ⟨kb, bc⟩ := bx1 w #[.int .i64 N, .int .i64 S, .int .i64 G, .int .i64 W, .int .i64 D, .int .i64 L, .slice Ac nc cc, .slice As ns cs] 25
    have hc := HCK.out _ bc
    have HC := Lib.hid hc; clear hc
    go_enter Try.func30, Try.ntmps30
    go_wp2_with (first | (go_at_call 35; refine HC.out.mono ?_; rintro e w1 ⟨rfl, hC⟩; dsimp only; replace kb := kb.on hC; replace bc := bc.trans (hC.mono bc.size); clear hC; obtain ⟨p0, p1, p2, p3, p4, p5, p6, p7⟩ := kb.eight))
    go_ret2
    exact ⟨rfl, bc⟩
  · rw [if_neg (by rw [h]; decide)]
    rw [h] at hck
    have HCK := Lib.hid hck; clear hck hM h
    obtain ⟨N, S, G, W, D, L, cold, ms⟩ := m
    obtain ⟨Ac, nc, cc⟩ := c
    obtain ⟨As, ns, cs⟩ := s
    dsimp only [vM] at *
    obtain ⟨kb, bc⟩ := bx1 w #[.int .i64 N, .int .i64 S, .int .i64 G, .int .i64 W, .int .i64 D, .int .i64 L, .slice Ac nc cc, .slice As ns cs] 25
    have hc := HCK.out _ bc
    have HC := Lib.hid hc; clear hc
    go_enter Try.func30, Try.ntmps30
    go_wp2_with (first | (go_at_call 35; refine HC.out.mono ?_; rintro e w1 ⟨rfl, hC⟩; dsimp only; replace kb := kb.on hC; replace bc := bc.trans (hC.mono bc.size); clear hC; obtain ⟨p0, p1, p2, p3, p4, p5, p6, p7⟩ := kb.eight))
    go_ret2
    exact ⟨rfl, bc⟩
end Go.Proofs.Ytlkmipcenlhacaa
