/-
  The document's own Kind, Air, Precision, Listen, Retry and Bound of layer 7. Condition: a list that can be read. (Printed by tools/gen07s.py.)
-/
import Derived.Test.YtnmaelefcohogaaMR
import Derived.Test.YtnmaelefcohogaaMJ
namespace Go.Proofs.Ytnmaelefcohogaa
open Go.RowKit

set_option maxRecDepth 8000 in
set_option maxHeartbeats 2000000 in
theorem rprecision_any (m : ML) (c s : Slc) (w : World) (hM : Med w m c s) : Calls Try.prog 22 #[vM m c s] w (Pr w (precM m)) := by
  have hck := fun W (h : Below w.heap.size w W) => rcheck_any m c s W (hM.on h)
  unfold precM
  rcases checkM_two m with h | h
  · obtain ⟨c1, -, -, -, c5, -⟩ := checkM_ok h
    rw [if_pos h]
    rw [h] at hck
    have HCK := Lib.hid hck; clear hck hM h
    obtain ⟨N, S, G, W, D, L, cold, ms⟩ := m
    obtain ⟨Ac, nc, cc⟩ := c
    obtain ⟨As, ns, cs⟩ := s
    dsimp only [vM] at *
    obtain ⟨hp0, hp1⟩ := mul_small (N := N) (D := D) (by omega) c1.2 c5.1 c5.2
    have e1 : 14 * N * D = 14 * (N * D) := Int.mul_assoc _ _ _
    have w1 : IntKind.i64.wrap (14 * N) = 14 * N := IntWalk.i64_in _ (by omega)
    have w2 : IntKind.i64.wrap (14 * N * D) = 14 * N * D := IntWalk.i64_in _ (by rw [e1]; omega)
    have w3 : IntKind.i64.wrap (14 * N * D + 8) = 14 * N * D + 8 := IntWalk.i64_in _ (by rw [e1]; omega)
    clear e1 hp0 hp1
    obtain ⟨kb, bc⟩ := bx1 w #[.int .i64 N, .int .i64 S, .int .i64 G, .int .i64 W, .int .i64 D, .int .i64 L, .slice Ac nc cc, .slice As ns cs] 25
    have hc := HCK.out _ bc
    have HC := Lib.hid hc; clear hc
    go_enter Try.func22, Try.ntmps22
    go_wp2_with (first | (go_at_call 12; refine HC.out.mono ?_; rintro e w1 ⟨rfl, hC⟩; dsimp only; replace kb := kb.on hC; replace bc := bc.trans (hC.mono bc.size); clear hC; obtain ⟨p0, p1, p2, p3, p4, p5, p6, p7⟩ := kb.eight))
    go_ret2
    exact ⟨rfl, bc⟩
  · rw [if_neg (by rw [h]; decide)]
    rw [h] at hck
    have HCK := Lib.hid hck; clear hck hM h
    obtain ⟨N, S, G, W, D, L, cold, ms⟩ := m
    obtain ⟨Ac, nc, cc⟩ := c
    obtain ⟨As, ns, cs⟩ := s
    dsimp only [vM] at *
    obtain ⟨kb, bc⟩ := bx1 w #[.int .i64 N, .int .i64 S, .int .i64 G, .int .i64 W, .int .i64 D, .int .i64 L, .slice Ac nc cc, .slice As ns cs] 25
    have hc := HCK.out _ bc
    have HC := Lib.hid hc; clear hc
    go_enter Try.func22, Try.ntmps22
    go_wp2_with (first | (go_at_call 12; refine HC.out.mono ?_; rintro e w1 ⟨rfl, hC⟩; dsimp only; replace kb := kb.on hC; replace bc := bc.trans (hC.mono bc.size); clear hC; obtain ⟨p0, p1, p2, p3, p4, p5, p6, p7⟩ := kb.eight))
    go_ret2
    exact ⟨rfl, bc⟩
set_option maxRecDepth 8000 in
set_option maxHeartbeats 2000000 in
theorem rbound_any (m : ML) (c s : Slc) (w : World) (hM : Med w m c s) : Calls Try.prog 28 #[vM m c s] w (Pr w (boundM m)) := by
  have hck := fun W (h : Below w.heap.size w W) => rcheck_any m c s W (hM.on h)
  unfold boundM
  rcases checkM_two m with h | h
  · obtain ⟨c1, -, -, -, c5, -⟩ := checkM_ok h
    rw [if_pos h]
    rw [h] at hck
    have HCK := Lib.hid hck; clear hck hM h
    obtain ⟨N, S, G, W, D, L, cold, ms⟩ := m
    obtain ⟨Ac, nc, cc⟩ := c
    obtain ⟨As, ns, cs⟩ := s
    dsimp only [vM] at *
    have w1 : IntKind.i64.wrap (40 * N) = 40 * N := IntWalk.i64_in _ (by omega)
    obtain ⟨kb, bc⟩ := bx1 w #[.int .i64 N, .int .i64 S, .int .i64 G, .int .i64 W, .int .i64 D, .int .i64 L, .slice Ac nc cc, .slice As ns cs] 25
    have hc := HCK.out _ bc
    have HC := Lib.hid hc; clear hc
    go_enter Try.func28, Try.ntmps28
    go_wp2_with (first | (go_at_call 12; refine HC.out.mono ?_; rintro e w1 ⟨rfl, hC⟩; dsimp only; replace kb := kb.on hC; replace bc := bc.trans (hC.mono bc.size); clear hC; obtain ⟨p0, p1, p2, p3, p4, p5, p6, p7⟩ := kb.eight))
    go_ret2
    exact ⟨rfl, bc⟩
  · rw [if_neg (by rw [h]; decide)]
    rw [h] at hck
    have HCK := Lib.hid hck; clear hck hM h
    obtain ⟨N, S, G, W, D, L, cold, ms⟩ := m
    obtain ⟨Ac, nc, cc⟩ := c
    obtain ⟨As, ns, cs⟩ := s
    dsimp only [vM] at *
    obtain ⟨kb, bc⟩ := bx1 w #[.int .i64 N, .int .i64 S, .int .i64 G, .int .i64 W, .int .i64 D, .int .i64 L, .slice Ac nc cc, .slice As ns cs] 25
    have hc := HCK.out _ bc
    have HC := Lib.hid hc; clear hc
    go_enter Try.func28, Try.ntmps28
    go_wp2_with (first | (go_at_call 12; refine HC.out.mono ?_; rintro e w1 ⟨rfl, hC⟩; dsimp only; replace kb := kb.on hC; replace bc := bc.trans (hC.mono bc.size); clear hC; obtain ⟨p0, p1, p2, p3, p4, p5, p6, p7⟩ := kb.eight))
    go_ret2
    exact ⟨rfl, bc⟩
set_option maxRecDepth 8000 in
set_option maxHeartbeats 2000000 in
theorem rnode_any (m : ML) (c s : Slc) (n : Int) (w : World) (hM : Med w m c s) : Calls Try.prog 54 #[vM m c s, .int .i64 n] w fun e w' => e = .returned (.int .i64 (nodeM m n)) ∧ Below w.heap.size w w' := by
  have hck := fun W (h : Below w.heap.size w W) => rcheck_any m c s W (hM.on h)
  unfold nodeM
  rcases checkM_two m with h | h
  · rw [if_pos h]
    rw [h] at hck
    have HCK := Lib.hid hck; clear hck hM h
    obtain ⟨N, S, G, W, D, L, cold, ms⟩ := m
    obtain ⟨Ac, nc, cc⟩ := c
    obtain ⟨As, ns, cs⟩ := s
    dsimp only [vM] at *
    obtain ⟨kb, bc⟩ := bx1 w #[.int .i64 N, .int .i64 S, .int .i64 G, .int .i64 W, .int .i64 D, .int .i64 L, .slice Ac nc cc, .slice As ns cs] 25
    have hc := HCK.out _ bc
    have HC := Lib.hid hc; clear hc
    by_cases n0 : n < 0
    · have d0 : decide (n < 0) = true := by simpa using n0
      rw [if_neg (by omega)]
      go_enter Try.func54, Try.ntmps54
      go_wp2_with (first | (go_at_call 12; refine HC.out.mono ?_; rintro e w1 ⟨rfl, hC⟩; dsimp only; replace kb := kb.on hC; replace bc := bc.trans (hC.mono bc.size); clear hC; obtain ⟨p0, p1, p2, p3, p4, p5, p6, p7⟩ := kb.eight))
      go_ret
      exact ⟨rfl, bc⟩
    have d0 : decide (n < 0) = false := by simpa using n0
    by_cases n1 : N ≤ n
    · have d1 : decide (N ≤ n) = true := by simpa using n1
      rw [if_neg (by omega)]
      go_enter Try.func54, Try.ntmps54
      go_wp2_with (first | (go_at_call 12; refine HC.out.mono ?_; rintro e w1 ⟨rfl, hC⟩; dsimp only; replace kb := kb.on hC; replace bc := bc.trans (hC.mono bc.size); clear hC; obtain ⟨p0, p1, p2, p3, p4, p5, p6, p7⟩ := kb.eight))
      go_ret
      exact ⟨rfl, bc⟩
    have d1 : decide (N ≤ n) = false := by simp; omega
    rw [if_pos (by omega)]
    go_enter Try.func54, Try.ntmps54
    go_wp2_with (first | (go_at_call 12; refine HC.out.mono ?_; rintro e w1 ⟨rfl, hC⟩; dsimp only; replace kb := kb.on hC; replace bc := bc.trans (hC.mono bc.size); clear hC; obtain ⟨p0, p1, p2, p3, p4, p5, p6, p7⟩ := kb.eight))
    go_ret
    exact ⟨rfl, bc⟩
  · rw [if_neg (by rw [h]; decide)]
    rw [h] at hck
    have HCK := Lib.hid hck; clear hck hM h
    obtain ⟨N, S, G, W, D, L, cold, ms⟩ := m
    obtain ⟨Ac, nc, cc⟩ := c
    obtain ⟨As, ns, cs⟩ := s
    dsimp only [vM] at *
    obtain ⟨kb, bc⟩ := bx1 w #[.int .i64 N, .int .i64 S, .int .i64 G, .int .i64 W, .int .i64 D, .int .i64 L, .slice Ac nc cc, .slice As ns cs] 25
    have hc := HCK.out _ bc
    have HC := Lib.hid hc; clear hc
    go_enter Try.func54, Try.ntmps54
    go_wp2_with (first | (go_at_call 12; refine HC.out.mono ?_; rintro e w1 ⟨rfl, hC⟩; dsimp only; replace kb := kb.on hC; replace bc := bc.trans (hC.mono bc.size); clear hC; obtain ⟨p0, p1, p2, p3, p4, p5, p6, p7⟩ := kb.eight))
    go_ret
    exact ⟨rfl, bc⟩
set_option maxRecDepth 8000 in
set_option maxHeartbeats 2000000 in
theorem rlisten_any (m : ML) (c s : Slc) (n : Int) (w : World) (hM : Med w m c s) : Calls Try.prog 24 #[vM m c s, .int .i64 n] w (Pr w (listenM m n)) := by
  have hck := fun W (h : Below w.heap.size w W) => rnode_any m c s n W (hM.on h)
  unfold listenM
  by_cases h : nodeM m n = 0
  · obtain ⟨⟨c1, -⟩, c2, c3⟩ := nodeM_ok h
    rw [if_pos h]
    rw [h] at hck
    have HCK := Lib.hid hck; clear hck hM h
    obtain ⟨N, S, G, W, D, L, cold, ms⟩ := m
    obtain ⟨Ac, nc, cc⟩ := c
    obtain ⟨As, ns, cs⟩ := s
    dsimp only [vM] at *
    have w1 : IntKind.i64.wrap (n + 1) = n + 1 := IntWalk.i64_in _ (by omega)
    have w2 : IntKind.i64.wrap (2 * (n + 1)) = 2 * (n + 1) := IntWalk.i64_in _ (by omega)
    have w3 : IntKind.i64.wrap (4 * N) = 4 * N := IntWalk.i64_in _ (by omega)
    have w4 : IntKind.i64.wrap (4 * N + 2 * (n + 1)) = 4 * N + 2 * (n + 1) := IntWalk.i64_in _ (by omega)
    obtain ⟨kb, bc⟩ := bx1 w #[.int .i64 N, .int .i64 S, .int .i64 G, .int .i64 W, .int .i64 D, .int .i64 L, .slice Ac nc cc, .slice As ns cs] 25
    have hc := HCK.out _ bc
    have HC := Lib.hid hc; clear hc
    go_enter Try.func24, Try.ntmps24
    go_wp2_with (first | (go_at_call 54; refine HC.out.mono ?_; rintro e w1 ⟨rfl, hC⟩; dsimp only; replace kb := kb.on hC; replace bc := bc.trans (hC.mono bc.size); clear hC; obtain ⟨p0, p1, p2, p3, p4, p5, p6, p7⟩ := kb.eight))
    go_ret2
    exact ⟨rfl, bc⟩
  · rw [if_neg h]
    have hne := neq_of h
    clear h
    generalize nodeM m n = er at *
    have HCK := Lib.hid hck; clear hck hM
    obtain ⟨N, S, G, W, D, L, cold, ms⟩ := m
    obtain ⟨Ac, nc, cc⟩ := c
    obtain ⟨As, ns, cs⟩ := s
    dsimp only [vM] at *
    obtain ⟨kb, bc⟩ := bx1 w #[.int .i64 N, .int .i64 S, .int .i64 G, .int .i64 W, .int .i64 D, .int .i64 L, .slice Ac nc cc, .slice As ns cs] 25
    have hc := HCK.out _ bc
    have HC := Lib.hid hc; clear hc
    go_enter Try.func24, Try.ntmps24
    go_wp2_with (first | (go_at_call 54; refine HC.out.mono ?_; rintro e w1 ⟨rfl, hC⟩; dsimp only; replace kb := kb.on hC; replace bc := bc.trans (hC.mono bc.size); clear hC; obtain ⟨p0, p1, p2, p3, p4, p5, p6, p7⟩ := kb.eight))
    go_ret2
    exact ⟨rfl, bc⟩
set_option maxRecDepth 8000 in
set_option maxHeartbeats 2000000 in
theorem rretry_any (m : ML) (c s : Slc) (n : Int) (w : World) (hM : Med w m c s) : Calls Try.prog 26 #[vM m c s, .int .i64 n] w (Pr w (retryM m n)) := by
  have hck := fun W (h : Below w.heap.size w W) => rnode_any m c s n W (hM.on h)
  unfold retryM
  by_cases h : nodeM m n = 0
  · obtain ⟨⟨c1, -⟩, c2, c3⟩ := nodeM_ok h
    rw [if_pos h]
    rw [h] at hck
    have HCK := Lib.hid hck; clear hck hM h
    obtain ⟨N, S, G, W, D, L, cold, ms⟩ := m
    obtain ⟨Ac, nc, cc⟩ := c
    obtain ⟨As, ns, cs⟩ := s
    dsimp only [vM] at *
    have w1 : IntKind.i64.wrap (n + 1) = n + 1 := IntWalk.i64_in _ (by omega)
    have w2 : IntKind.i64.wrap (2 * (n + 1)) = 2 * (n + 1) := IntWalk.i64_in _ (by omega)
    obtain ⟨kb, bc⟩ := bx1 w #[.int .i64 N, .int .i64 S, .int .i64 G, .int .i64 W, .int .i64 D, .int .i64 L, .slice Ac nc cc, .slice As ns cs] 25
    have hc := HCK.out _ bc
    have HC := Lib.hid hc; clear hc
    go_enter Try.func26, Try.ntmps26
    go_wp2_with (first | (go_at_call 54; refine HC.out.mono ?_; rintro e w1 ⟨rfl, hC⟩; dsimp only; replace kb := kb.on hC; replace bc := bc.trans (hC.mono bc.size); clear hC; obtain ⟨p0, p1, p2, p3, p4, p5, p6, p7⟩ := kb.eight))
    go_ret2
    exact ⟨rfl, bc⟩
  · rw [if_neg h]
    have hne := neq_of h
    clear h
    generalize nodeM m n = er at *
    have HCK := Lib.hid hck; clear hck hM
    obtain ⟨N, S, G, W, D, L, cold, ms⟩ := m
    obtain ⟨Ac, nc, cc⟩ := c
    obtain ⟨As, ns, cs⟩ := s
    dsimp only [vM] at *
    obtain ⟨kb, bc⟩ := bx1 w #[.int .i64 N, .int .i64 S, .int .i64 G, .int .i64 W, .int .i64 D, .int .i64 L, .slice Ac nc cc, .slice As ns cs] 25
    have hc := HCK.out _ bc
    have HC := Lib.hid hc; clear hc
    go_enter Try.func26, Try.ntmps26
    go_wp2_with (first | (go_at_call 54; refine HC.out.mono ?_; rintro e w1 ⟨rfl, hC⟩; dsimp only; replace kb := kb.on hC; replace bc := bc.trans (hC.mono bc.size); clear hC; obtain ⟨p0, p1, p2, p3, p4, p5, p6, p7⟩ := kb.eight))
    go_ret2
    exact ⟨rfl, bc⟩
set_option maxRecDepth 8000 in
set_option maxHeartbeats 2000000 in
theorem rkindM_any (m : ML) (c s : Slc) (mo n : Int) (w : World) (hM : Med w m c s) : Calls Try.prog 18 #[vM m c s, .int .i64 mo, .int .i64 n] w (Pr w (kindM m mo n)) := by
  have hck := fun W (h : Below w.heap.size w W) => rnode_any m c s n W (hM.on h)
  by_cases hn : nodeM m n = 0
  rotate_left
  · have hp : placeM m mo n = nodeM m n := if_neg hn
    have hr : kindM m mo n = (nodeM m n, 0) := by unfold kindM; rw [if_neg (by rw [hp]; exact hn), hp]
    rw [hr]
    have hne := neq_of hn
    clear hr hp hn
    generalize nodeM m n = er at *
    have HCK := Lib.hid hck; clear hck hM
    obtain ⟨N, S, G, W, D, L, cold, ms⟩ := m
    obtain ⟨Ac, nc, cc⟩ := c
    obtain ⟨As, ns, cs⟩ := s
    dsimp only [vM] at *
    obtain ⟨kb, bc⟩ := bx1 w #[.int .i64 N, .int .i64 S, .int .i64 G, .int .i64 W, .int .i64 D, .int .i64 L, .slice Ac nc cc, .slice As ns cs] 25
    have hc := HCK.out _ bc
    have HC := Lib.hid hc; clear hc
    go_enter Try.func18, Try.ntmps18
    go_wp2_with (first | (go_at_call 54; refine HC.out.mono ?_; rintro e w1 ⟨rfl, hC⟩; dsimp only; replace kb := kb.on hC; replace bc := bc.trans (hC.mono bc.size); clear hC; obtain ⟨p0, p1, p2, p3, p4, p5, p6, p7⟩ := kb.eight))
    go_ret2
    exact ⟨rfl, bc⟩
  rw [hn] at hck
  have HCK := Lib.hid hck; clear hck
  have hsn := hM.sn
  by_cases a0 : mo < 0
  · have hp : placeM m mo n = 2 := by unfold placeM; rw [if_pos hn, if_neg (by omega)]
    have hr : kindM m mo n = (2, 0) := by unfold kindM; rw [if_neg (by rw [hp]; decide), hp]
    rw [hr]
    clear hr hp hM hn hsn
    obtain ⟨N, S, G, W, D, L, cold, ms⟩ := m
    obtain ⟨Ac, nc, cc⟩ := c
    obtain ⟨As, ns, cs⟩ := s
    dsimp only [vM] at *
    have d_a0 : decide (mo < 0) = true := by simpa using a0
    obtain ⟨kb, bc⟩ := bx1 w #[.int .i64 N, .int .i64 S, .int .i64 G, .int .i64 W, .int .i64 D, .int .i64 L, .slice Ac nc cc, .slice As ns cs] 25
    have hc := HCK.out _ bc
    have HC := Lib.hid hc; clear hc
    go_enter Try.func18, Try.ntmps18
    go_wp2_with (first | (go_at_call 54; refine HC.out.mono ?_; rintro e w1 ⟨rfl, hC⟩; dsimp only; replace kb := kb.on hC; replace bc := bc.trans (hC.mono bc.size); clear hC; obtain ⟨p0, p1, p2, p3, p4, p5, p6, p7⟩ := kb.eight))
    go_ret2
    exact ⟨rfl, bc⟩
  have d_a0 : decide (mo < 0) = false := by simpa using a0
  by_cases a1 : (s.n : Int) ≤ mo
  · have hp : placeM m mo n = 2 := by unfold placeM; rw [if_pos hn, if_neg (by omega)]
    have hr : kindM m mo n = (2, 0) := by unfold kindM; rw [if_neg (by rw [hp]; decide), hp]
    rw [hr]
    clear hr hp hM hn hsn
    obtain ⟨N, S, G, W, D, L, cold, ms⟩ := m
    obtain ⟨Ac, nc, cc⟩ := c
    obtain ⟨As, ns, cs⟩ := s
    dsimp only [vM] at *
    have d_a1 : decide ((ns : Int) ≤ mo) = true := by simpa using a1
    obtain ⟨kb, bc⟩ := bx1 w #[.int .i64 N, .int .i64 S, .int .i64 G, .int .i64 W, .int .i64 D, .int .i64 L, .slice Ac nc cc, .slice As ns cs] 25
    have hc := HCK.out _ bc
    have HC := Lib.hid hc; clear hc
    go_enter Try.func18, Try.ntmps18
    go_wp2_with (first | (go_at_call 54; refine HC.out.mono ?_; rintro e w1 ⟨rfl, hC⟩; dsimp only; replace kb := kb.on hC; replace bc := bc.trans (hC.mono bc.size); clear hC; obtain ⟨p0, p1, p2, p3, p4, p5, p6, p7⟩ := kb.eight))
    go_ret2
    exact ⟨rfl, bc⟩
  have d_a1 : decide ((s.n : Int) ≤ mo) = false := by simpa using a1
  have hpl : placeM m mo n = 0 := by unfold placeM; rw [if_pos hn, if_pos (by omega)]
  unfold kindM
  rw [if_pos hpl]
  obtain ⟨hok, ⟨n0, n1⟩, m0, m1⟩ := placeM_ok hpl
  have hmd := fun o (ho : o ∈ m.ms) => okM_mode hok ho
  obtain ⟨j, rfl⟩ := Int.eq_ofNat_of_zero_le m0
  obtain ⟨k, rfl⟩ := Int.eq_ofNat_of_zero_le n0
  have hjm : j < m.ms.length := by omega
  obtain ⟨o, ho⟩ : ∃ o, m.ms[j]? = some o := ⟨m.ms[j], List.getElem?_eq_getElem hjm⟩
  have hma : modeAt m (j : Int) = o := by unfold modeAt; rw [Int.toNat_natCast, ho]; rfl
  rw [hma, Int.toNat_natCast]
  obtain ⟨b, off, e1, hb, v, h0, h1, h2, hv⟩ := hM.sb.at_ ho
  obtain ⟨q1, q2, -, q4, -⟩ := hmd o (List.mem_of_getElem? ho)
  have hkd : k < o.d.length := by omega
  have hkx : k < o.x.length := by omega
  have hjs : j < s.n := by omega
  have hsm : s.n ≤ maxLen := hM.sm
  have hknd : k < v.d.n := by have := hv.dn; omega
  have hknx : k < v.x.n := by have := hv.xn; omega
  have hdm : v.d.n ≤ maxLen := hv.dm
  have hxm : v.x.n ≤ maxLen := hv.xm
  unfold maxLen at hsm hdm hxm
  obtain ⟨b2, off2, e2, hb2, hc1⟩ := hv.d.at_ (k := k) hkd
  obtain ⟨b3, off3, e3, hb3, hc2⟩ := hv.x.at_ (k := k) hkx
  clear hv hM hmd hma ho hjm hok q1 q2 q4 hkd hkx n1 m1 n0 m0 hpl
  clear hsn hn a0 a1
  generalize o.d[k]?.getD 0 = d at *
  generalize o.x[k]?.getD false = x at *
  obtain ⟨N, S, G, W, D, L, cold, ms⟩ := m
  obtain ⟨Ac, nc, cc⟩ := c
  obtain ⟨As, ns, cs⟩ := s
  dsimp only [vM] at *
  obtain ⟨⟨Ad, nd, cd⟩, ⟨Ax, nx, cx⟩, ⟨An, nn, cn⟩⟩ := v
  dsimp only at *
  subst e1; subst e2; subst e3
  obtain ⟨kb, bc⟩ := bx1 w #[.int .i64 N, .int .i64 S, .int .i64 G, .int .i64 W, .int .i64 D, .int .i64 L, .slice Ac nc cc, .slice (some ⟨b, off, none⟩) ns cs] 25
  have hc := HCK.out _ bc
  have HC := Lib.hid hc; clear hc
  replace h0 := (bc.cell (p := ⟨b, off + j * 3, none⟩) hb).trans h0; replace h1 := (bc.cell (p := ⟨b, off + j * 3 + 1, none⟩) hb).trans h1; replace h2 := (bc.cell (p := ⟨b, off + j * 3 + 2, none⟩) hb).trans h2; replace hc1 := (bc.cell (p := ⟨b2, off2 + k, none⟩) hb2).trans hc1; replace hc2 := (bc.cell (p := ⟨b3, off3 + k, none⟩) hb3).trans hc2; replace hb := Nat.lt_of_lt_of_le hb bc.size; replace hb2 := Nat.lt_of_lt_of_le hb2 bc.size; replace hb3 := Nat.lt_of_lt_of_le hb3 bc.size
  go_enter Try.func18, Try.ntmps18
  go_wp2_with (first | (go_at_call 54; refine HC.out.mono ?_; rintro e w1 ⟨rfl, hC⟩; dsimp only; replace kb := kb.on hC; replace bc := bc.trans (hC.mono bc.size); replace h0 := (hC.cell (p := ⟨b, off + j * 3, none⟩) hb).trans h0; replace h1 := (hC.cell (p := ⟨b, off + j * 3 + 1, none⟩) hb).trans h1; replace h2 := (hC.cell (p := ⟨b, off + j * 3 + 2, none⟩) hb).trans h2; replace hc1 := (hC.cell (p := ⟨b2, off2 + k, none⟩) hb2).trans hc1; replace hc2 := (hC.cell (p := ⟨b3, off3 + k, none⟩) hb3).trans hc2; replace hb := Nat.lt_of_lt_of_le hb hC.size; replace hb2 := Nat.lt_of_lt_of_le hb2 hC.size; replace hb3 := Nat.lt_of_lt_of_le hb3 hC.size; clear hC; obtain ⟨p0, p1, p2, p3, p4, p5, p6, p7⟩ := kb.eight; have hlw := kb.lt))
  have ko := Blk.new w1 50 #[.slice (some ⟨b2, off2, none⟩) nd cd, .slice (some ⟨b3, off3, none⟩) nx cx, .slice An nn cn]
  have al := Below.al w1 (.cells #[.slice (some ⟨b2, off2, none⟩) nd cd, .slice (some ⟨b3, off3, none⟩) nx cx, .slice An nn cn] 50)
  replace bc := bc.trans (al.mono bc.size); replace h0 := (al.cell (p := ⟨b, off + j * 3, none⟩) hb).trans h0; replace h1 := (al.cell (p := ⟨b, off + j * 3 + 1, none⟩) hb).trans h1; replace h2 := (al.cell (p := ⟨b, off + j * 3 + 2, none⟩) hb).trans h2; replace hc1 := (al.cell (p := ⟨b2, off2 + k, none⟩) hb2).trans hc1; replace hc2 := (al.cell (p := ⟨b3, off3 + k, none⟩) hb3).trans hc2; replace hb := Nat.lt_of_lt_of_le hb al.size; replace hb2 := Nat.lt_of_lt_of_le hb2 al.size; replace hb3 := Nat.lt_of_lt_of_le hb3 al.size; clear al hlw p0 p1 p2 p3 p4 p5 p6 p7 kb
  generalize w1.alloc (.cells #[.slice (some ⟨b2, off2, none⟩) nd cd, .slice (some ⟨b3, off3, none⟩) nx cx, .slice An nn cn] 50) = u2 at *
  generalize w1.heap.size = go at *
  obtain ⟨near0, near1, near2⟩ := near_three ko
  have nc1 := near_cell hb2 hc1
  have nc2 := near_cell hb3 hc2
  clear hc1 hc2 h0 h1 h2 ko
  have hki := fun W => rkind_any x d W
  generalize kindS x d = kk at *
  have HKI := Lib.hid hki; clear hki
  refine wp_region_near (by kernel_rfl) (by kernel_rfl) ?_
  repeat (go_big_quiet_step (first | (go_at_call 46; exact near_call ((HKI.out _).mono fun e w' h => ⟨h.1, h.2 ▸ Below.refl _ _⟩))))
  refine wpQuiet_nil ?_
  rintro _ ⟨nw, rfl⟩
  go_wp2
  go_ret2
  exact ⟨rfl, bc.trans (nw.h.mono bc.size)⟩
set_option maxRecDepth 8000 in
set_option maxHeartbeats 2000000 in
theorem rairM_any (m : ML) (c s : Slc) (mo n : Int) (w : World) (hM : Med w m c s) : Calls Try.prog 20 #[vM m c s, .int .i64 mo, .int .i64 n] w (Pr w (airM m mo n)) := by
  have hck := fun W (h : Below w.heap.size w W) => rkindM_any m c s mo n W (hM.on h)
  unfold Pr at hck
  by_cases hpl : placeM m mo n = 0
  rotate_left
  · rw [show kindM m mo n = (placeM m mo n, 0) from if_neg hpl] at hck
    rw [show airM m mo n = (placeM m mo n, 0) from if_neg hpl]
    have hne := neq_of hpl
    clear hpl
    generalize placeM m mo n = er at *
    have HCK := Lib.hid hck; clear hck hM
    obtain ⟨N, S, G, W, D, L, cold, ms⟩ := m
    obtain ⟨Ac, nc, cc⟩ := c
    obtain ⟨As, ns, cs⟩ := s
    dsimp only [vM] at *
    obtain ⟨kb, bc⟩ := bx1 w #[.int .i64 N, .int .i64 S, .int .i64 G, .int .i64 W, .int .i64 D, .int .i64 L, .slice Ac nc cc, .slice As ns cs] 25
    have hc := HCK.out _ bc
    have HC := Lib.hid hc; clear hc
    go_enter Try.func20, Try.ntmps20
    go_wp2_with (first | (go_at_call 18; refine HC.out.mono ?_; rintro e w1 ⟨rfl, hC⟩; dsimp only; replace kb := kb.on hC; replace bc := bc.trans (hC.mono bc.size); clear hC; obtain ⟨p0, p1, p2, p3, p4, p5, p6, p7⟩ := kb.eight))
    go_ret2
    exact ⟨rfl, bc⟩
  rw [show kindM m mo n = (0, kindS ((modeAt m mo).x[n.toNat]?.getD false) ((modeAt m mo).d[n.toNat]?.getD 0)) from if_pos hpl] at hck
  rw [show airM m mo n = (0, airAt ((modeAt m mo).x[n.toNat]?.getD false) ((modeAt m mo).d[n.toNat]?.getD 0)) from if_pos hpl]
  have hsn := hM.sn
  obtain ⟨hok, ⟨n0, n1⟩, m0, m1⟩ := placeM_ok hpl
  have hmd := fun o (ho : o ∈ m.ms) => okM_mode hok ho
  obtain ⟨j, rfl⟩ := Int.eq_ofNat_of_zero_le m0
  obtain ⟨k, rfl⟩ := Int.eq_ofNat_of_zero_le n0
  have hjm : j < m.ms.length := by omega
  obtain ⟨o, ho⟩ : ∃ o, m.ms[j]? = some o := ⟨m.ms[j], List.getElem?_eq_getElem hjm⟩
  have hma : modeAt m (j : Int) = o := by unfold modeAt; rw [Int.toNat_natCast, ho]; rfl
  rw [hma, Int.toNat_natCast] at hck ⊢
  obtain ⟨b, off, e1, hb, v, h0, h1, h2, hv⟩ := hM.sb.at_ ho
  obtain ⟨q1, q2, -, q4, -⟩ := hmd o (List.mem_of_getElem? ho)
  have hkd : k < o.d.length := by omega
  have hkx : k < o.x.length := by omega
  have hjs : j < s.n := by omega
  have hsm : s.n ≤ maxLen := hM.sm
  have hknd : k < v.d.n := by have := hv.dn; omega
  have hknx : k < v.x.n := by have := hv.xn; omega
  have hdm : v.d.n ≤ maxLen := hv.dm
  have hxm : v.x.n ≤ maxLen := hv.xm
  unfold maxLen at hsm hdm hxm
  obtain ⟨b2, off2, e2, hb2, hc1⟩ := hv.d.at_ (k := k) hkd
  obtain ⟨b3, off3, e3, hb3, hc2⟩ := hv.x.at_ (k := k) hkx
  clear hv hM hmd hma ho hjm hok q1 q2 q4 hkd hkx n1 m1 n0 m0 hpl
  clear hsn
  generalize o.d[k]?.getD 0 = d at *
  generalize o.x[k]?.getD false = x at *
  have hair : airAt x d = airS (sizeF (kindS x d) d) := rfl
  rw [hair]
  generalize kindS x d = kk at *
  have hsz := fun W => rsize_any kk d W
  generalize sizeF kk d = sz at *
  have hai := fun W => rair_any sz W
  generalize airS sz = air at *
  have HSZ := Lib.hid hsz; have HAI := Lib.hid hai; have HCK := Lib.hid hck; clear hsz hai hck hair
  obtain ⟨N, S, G, W, D, L, cold, ms⟩ := m
  obtain ⟨Ac, nc, cc⟩ := c
  obtain ⟨As, ns, cs⟩ := s
  dsimp only [vM] at *
  obtain ⟨⟨Ad, nd, cd⟩, ⟨Ax, nx, cx⟩, ⟨An, nn, cn⟩⟩ := v
  dsimp only at *
  subst e1; subst e2; subst e3
  obtain ⟨kb, bc⟩ := bx1 w #[.int .i64 N, .int .i64 S, .int .i64 G, .int .i64 W, .int .i64 D, .int .i64 L, .slice Ac nc cc, .slice (some ⟨b, off, none⟩) ns cs] 25
  have hc := HCK.out _ bc
  have HC := Lib.hid hc; clear hc
  replace h0 := (bc.cell (p := ⟨b, off + j * 3, none⟩) hb).trans h0; replace h1 := (bc.cell (p := ⟨b, off + j * 3 + 1, none⟩) hb).trans h1; replace h2 := (bc.cell (p := ⟨b, off + j * 3 + 2, none⟩) hb).trans h2; replace hc1 := (bc.cell (p := ⟨b2, off2 + k, none⟩) hb2).trans hc1; replace hc2 := (bc.cell (p := ⟨b3, off3 + k, none⟩) hb3).trans hc2; replace hb := Nat.lt_of_lt_of_le hb bc.size; replace hb2 := Nat.lt_of_lt_of_le hb2 bc.size; replace hb3 := Nat.lt_of_lt_of_le hb3 bc.size
  go_enter Try.func20, Try.ntmps20
  go_wp2_with (first
  | (go_at_call 18; refine HC.out.mono ?_; rintro e w1 ⟨rfl, hC⟩; dsimp only; replace kb := kb.on hC; replace bc := bc.trans (hC.mono bc.size); replace h0 := (hC.cell (p := ⟨b, off + j * 3, none⟩) hb).trans h0; replace h1 := (hC.cell (p := ⟨b, off + j * 3 + 1, none⟩) hb).trans h1; replace h2 := (hC.cell (p := ⟨b, off + j * 3 + 2, none⟩) hb).trans h2; replace hc1 := (hC.cell (p := ⟨b2, off2 + k, none⟩) hb2).trans hc1; replace hc2 := (hC.cell (p := ⟨b3, off3 + k, none⟩) hb3).trans hc2; replace hb := Nat.lt_of_lt_of_le hb hC.size; replace hb2 := Nat.lt_of_lt_of_le hb2 hC.size; replace hb3 := Nat.lt_of_lt_of_le hb3 hC.size; clear hC; obtain ⟨p0, p1, p2, p3, p4, p5, p6, p7⟩ := kb.eight)
  | (go_at_call 45; refine (HSZ.out _).mono ?_; rintro e w2 ⟨rfl, hC⟩; dsimp only; replace bc := bc.trans (hC.mono bc.size); clear hC)
  | (go_at_call 44; refine (HAI.out _).mono ?_; rintro e w3 ⟨rfl, rfl⟩; dsimp only))
  go_ret2
  exact ⟨rfl, bc⟩
end Go.Proofs.Ytnmaelefcohogaa
