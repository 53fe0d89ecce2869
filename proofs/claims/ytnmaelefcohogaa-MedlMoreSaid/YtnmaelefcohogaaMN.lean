/-
  The statements of who listens how long, and of a frame's room, of layer 7. Condition: a list that can be read. (Printed by tools/gen07n.py.)
-/
import Derived.Test.YtnmaelefcohogaaMM
namespace Go.Proofs.Ytnmaelefcohogaa
open Go.RowKit

set_option maxRecDepth 100000 in
set_option maxHeartbeats 4000000 in
theorem apart_law (m : ML) (c s : Slc) (a b : Int) (w : World) (hM : Med w m c s) : Calls Try.prog 6 #[vM m c s, .int .i64 a, .int .i64 b] w fun e w' => e = .returned (.bool true) ∧ Below w.heap.size w w' := by
  have h1 := fun W (h : Below w.heap.size w W) => listen_any m c s a W (hM.on h)
  have h2 := fun W (h : Below w.heap.size w W) => listen_any m c s b W (hM.on h)
  have h3 := fun W (h : Below w.heap.size w W) => retry_any m c s a W (hM.on h)
  have h4 := fun W (h : Below w.heap.size w W) => retry_any m c s b W (hM.on h)
  unfold Pr at h1 h2 h3 h4
  by_cases ha : nodeM m a = 0
  rotate_left
  · rw [show listenM m a = (nodeM m a, 0) from if_neg ha] at h1
    rw [show retryM m a = (nodeM m a, 0) from if_neg ha] at h3
    have hne := neq_of ha
    generalize nodeM m a = ea at *
    generalize listenM m b = lb at *
    generalize retryM m b = rb at *
    obtain ⟨l0, l1⟩ := lb
    obtain ⟨r0, r1⟩ := rb
    dsimp only at h1 h2 h3 h4
    clear ha hM
    obtain ⟨N, S, G, W, D, L, cold, ms⟩ := m
    obtain ⟨Ac, nc, cc⟩ := c
    obtain ⟨As, ns, cs⟩ := s
    dsimp only [vM] at *
    have H1 := Lib.hid h1; have H2 := Lib.hid h2; have H3 := Lib.hid h3; have H4 := Lib.hid h4; clear h1 h2 h3 h4
    obtain ⟨kb, bc⟩ := bx1 w #[.int .i64 N, .int .i64 S, .int .i64 G, .int .i64 W, .int .i64 D, .int .i64 L, .slice Ac nc cc, .slice As ns cs] 25
    go_enter Try.func6, Try.ntmps6
    go_wp2_with (first
      | (go_at_call 23; with_reducible refine (H1.out _ bc).mono ?_; rintro e w1 ⟨rfl, hC⟩; dsimp only; replace kb := kb.on hC; replace bc := bc.trans (hC.mono bc.size); clear hC; (try clear p0 p1 p2 p3 p4 p5 p6 p7); obtain ⟨p0, p1, p2, p3, p4, p5, p6, p7⟩ := kb.eight)
      | (go_at_call 23; with_reducible refine (H2.out _ bc).mono ?_; rintro e w1 ⟨rfl, hC⟩; dsimp only; replace kb := kb.on hC; replace bc := bc.trans (hC.mono bc.size); clear hC; (try clear p0 p1 p2 p3 p4 p5 p6 p7); obtain ⟨p0, p1, p2, p3, p4, p5, p6, p7⟩ := kb.eight)
      | (go_at_call 25; with_reducible refine (H3.out _ bc).mono ?_; rintro e w1 ⟨rfl, hC⟩; dsimp only; replace kb := kb.on hC; replace bc := bc.trans (hC.mono bc.size); clear hC; (try clear p0 p1 p2 p3 p4 p5 p6 p7); obtain ⟨p0, p1, p2, p3, p4, p5, p6, p7⟩ := kb.eight)
      | (go_at_call 25; with_reducible refine (H4.out _ bc).mono ?_; rintro e w1 ⟨rfl, hC⟩; dsimp only; replace kb := kb.on hC; replace bc := bc.trans (hC.mono bc.size); clear hC; (try clear p0 p1 p2 p3 p4 p5 p6 p7); obtain ⟨p0, p1, p2, p3, p4, p5, p6, p7⟩ := kb.eight)
      | (go_at_call 10; refine (begun_any _).mono ?_; rintro e w1 ⟨rfl, hC⟩; dsimp only; replace kb := kb.on hC; replace bc := bc.trans (hC.mono bc.size); clear hC; (try clear p0 p1 p2 p3 p4 p5 p6 p7); obtain ⟨p0, p1, p2, p3, p4, p5, p6, p7⟩ := kb.eight))
    go_ret
    exact ⟨rfl, bc⟩
  by_cases hb : nodeM m b = 0
  rotate_left
  · obtain ⟨l, hl⟩ : ∃ l, listenM m a = (0, l) := ⟨_, if_pos ha⟩
    obtain ⟨r, hr⟩ : ∃ r, retryM m a = (0, r) := ⟨_, if_pos ha⟩
    rw [hl] at h1
    rw [hr] at h3
    rw [show listenM m b = (nodeM m b, 0) from if_neg hb] at h2
    rw [show retryM m b = (nodeM m b, 0) from if_neg hb] at h4
    have hne := neq_of hb
    generalize nodeM m b = eb at *
    dsimp only at h1 h2 h3 h4
    clear ha hb hl hr hM
    obtain ⟨N, S, G, W, D, L, cold, ms⟩ := m
    obtain ⟨Ac, nc, cc⟩ := c
    obtain ⟨As, ns, cs⟩ := s
    dsimp only [vM] at *
    have H1 := Lib.hid h1; have H2 := Lib.hid h2; have H3 := Lib.hid h3; have H4 := Lib.hid h4; clear h1 h2 h3 h4
    obtain ⟨kb, bc⟩ := bx1 w #[.int .i64 N, .int .i64 S, .int .i64 G, .int .i64 W, .int .i64 D, .int .i64 L, .slice Ac nc cc, .slice As ns cs] 25
    go_enter Try.func6, Try.ntmps6
    go_wp2_with (first
      | (go_at_call 23; with_reducible refine (H1.out _ bc).mono ?_; rintro e w1 ⟨rfl, hC⟩; dsimp only; replace kb := kb.on hC; replace bc := bc.trans (hC.mono bc.size); clear hC; (try clear p0 p1 p2 p3 p4 p5 p6 p7); obtain ⟨p0, p1, p2, p3, p4, p5, p6, p7⟩ := kb.eight)
      | (go_at_call 23; with_reducible refine (H2.out _ bc).mono ?_; rintro e w1 ⟨rfl, hC⟩; dsimp only; replace kb := kb.on hC; replace bc := bc.trans (hC.mono bc.size); clear hC; (try clear p0 p1 p2 p3 p4 p5 p6 p7); obtain ⟨p0, p1, p2, p3, p4, p5, p6, p7⟩ := kb.eight)
      | (go_at_call 25; with_reducible refine (H3.out _ bc).mono ?_; rintro e w1 ⟨rfl, hC⟩; dsimp only; replace kb := kb.on hC; replace bc := bc.trans (hC.mono bc.size); clear hC; (try clear p0 p1 p2 p3 p4 p5 p6 p7); obtain ⟨p0, p1, p2, p3, p4, p5, p6, p7⟩ := kb.eight)
      | (go_at_call 25; with_reducible refine (H4.out _ bc).mono ?_; rintro e w1 ⟨rfl, hC⟩; dsimp only; replace kb := kb.on hC; replace bc := bc.trans (hC.mono bc.size); clear hC; (try clear p0 p1 p2 p3 p4 p5 p6 p7); obtain ⟨p0, p1, p2, p3, p4, p5, p6, p7⟩ := kb.eight)
      | (go_at_call 10; refine (begun_any _).mono ?_; rintro e w1 ⟨rfl, hC⟩; dsimp only; replace kb := kb.on hC; replace bc := bc.trans (hC.mono bc.size); clear hC; (try clear p0 p1 p2 p3 p4 p5 p6 p7); obtain ⟨p0, p1, p2, p3, p4, p5, p6, p7⟩ := kb.eight))
    go_ret
    exact ⟨rfl, bc⟩
  obtain ⟨⟨c1, -⟩, a0, a1⟩ := nodeM_ok ha
  obtain ⟨-, b0, b1⟩ := nodeM_ok hb
  rw [show listenM m a = (0, 4 * m.N + 2 * (a + 1)) from if_pos ha] at h1
  rw [show listenM m b = (0, 4 * m.N + 2 * (b + 1)) from if_pos hb] at h2
  rw [show retryM m a = (0, 2 * (a + 1)) from if_pos ha] at h3
  rw [show retryM m b = (0, 2 * (b + 1)) from if_pos hb] at h4
  clear ha hb hM
  obtain ⟨N, S, G, W, D, L, cold, ms⟩ := m
  obtain ⟨Ac, nc, cc⟩ := c
  obtain ⟨As, ns, cs⟩ := s
  dsimp only [vM] at *
  obtain ⟨X, hX⟩ : ∃ X, 4 * N + 2 * (a + 1) = X := ⟨_, rfl⟩
  obtain ⟨P, hP⟩ : ∃ P, 2 * (a + 1) = P := ⟨_, rfl⟩
  have w1 : ∀ Q, 2 * (b + 1) = Q → IntKind.i64.wrap (Q + N) = Q + N := fun Q hQ => IntWalk.i64_in _ (by omega)
  have w2 : IntKind.i64.wrap (P + N) = P + N := IntWalk.i64_in _ (by omega)
  by_cases hab : a = b
  · subst hab
    rw [hX] at h1 h2
    rw [hP] at h3 h4
    have w3 := w1 P hP
    clear w1
    have d1 : decide (P + N < X) = true := by simp; omega
    clear hX hP
    have H1 := Lib.hid h1; have H2 := Lib.hid h2; have H3 := Lib.hid h3; have H4 := Lib.hid h4; clear h1 h2 h3 h4
    obtain ⟨kb, bc⟩ := bx1 w #[.int .i64 N, .int .i64 S, .int .i64 G, .int .i64 W, .int .i64 D, .int .i64 L, .slice Ac nc cc, .slice As ns cs] 25
    go_enter Try.func6, Try.ntmps6
    go_wp2_with (first
      | (go_at_call 23; with_reducible refine (H1.out _ bc).mono ?_; rintro e w1 ⟨rfl, hC⟩; dsimp only; replace kb := kb.on hC; replace bc := bc.trans (hC.mono bc.size); clear hC; (try clear p0 p1 p2 p3 p4 p5 p6 p7); obtain ⟨p0, p1, p2, p3, p4, p5, p6, p7⟩ := kb.eight)
      | (go_at_call 23; with_reducible refine (H2.out _ bc).mono ?_; rintro e w1 ⟨rfl, hC⟩; dsimp only; replace kb := kb.on hC; replace bc := bc.trans (hC.mono bc.size); clear hC; (try clear p0 p1 p2 p3 p4 p5 p6 p7); obtain ⟨p0, p1, p2, p3, p4, p5, p6, p7⟩ := kb.eight)
      | (go_at_call 25; with_reducible refine (H3.out _ bc).mono ?_; rintro e w1 ⟨rfl, hC⟩; dsimp only; replace kb := kb.on hC; replace bc := bc.trans (hC.mono bc.size); clear hC; (try clear p0 p1 p2 p3 p4 p5 p6 p7); obtain ⟨p0, p1, p2, p3, p4, p5, p6, p7⟩ := kb.eight)
      | (go_at_call 25; with_reducible refine (H4.out _ bc).mono ?_; rintro e w1 ⟨rfl, hC⟩; dsimp only; replace kb := kb.on hC; replace bc := bc.trans (hC.mono bc.size); clear hC; (try clear p0 p1 p2 p3 p4 p5 p6 p7); obtain ⟨p0, p1, p2, p3, p4, p5, p6, p7⟩ := kb.eight)
      | (go_at_call 10; refine (begun_any _).mono ?_; rintro e w1 ⟨rfl, hC⟩; dsimp only; replace kb := kb.on hC; replace bc := bc.trans (hC.mono bc.size); clear hC; (try clear p0 p1 p2 p3 p4 p5 p6 p7); obtain ⟨p0, p1, p2, p3, p4, p5, p6, p7⟩ := kb.eight))
    go_ret
    exact ⟨rfl, bc⟩
  obtain ⟨Y, hY⟩ : ∃ Y, 4 * N + 2 * (b + 1) = Y := ⟨_, rfl⟩
  obtain ⟨Q, hQ⟩ : ∃ Q, 2 * (b + 1) = Q := ⟨_, rfl⟩
  rw [hX] at h1
  rw [hY] at h2
  rw [hP] at h3
  rw [hQ] at h4
  have w3 := w1 Q hQ
  clear w1
  have d1 : decide (P + N < Y) = true := by simp; omega
  have d2 : decide (Q + N < X) = true := by simp; omega
  have d3 : (a == b) = false := by simpa using hab
  have d4 : (X == Y) = false := by simp; omega
  have d5 : (P == Q) = false := by simp; omega
  clear hX hY hP hQ hab
  have H1 := Lib.hid h1; have H2 := Lib.hid h2; have H3 := Lib.hid h3; have H4 := Lib.hid h4; clear h1 h2 h3 h4
  obtain ⟨kb, bc⟩ := bx1 w #[.int .i64 N, .int .i64 S, .int .i64 G, .int .i64 W, .int .i64 D, .int .i64 L, .slice Ac nc cc, .slice As ns cs] 25
  go_enter Try.func6, Try.ntmps6
  go_wp2_with (first
    | (go_at_call 23; with_reducible refine (H1.out _ bc).mono ?_; rintro e w1 ⟨rfl, hC⟩; dsimp only; replace kb := kb.on hC; replace bc := bc.trans (hC.mono bc.size); clear hC; (try clear p0 p1 p2 p3 p4 p5 p6 p7); obtain ⟨p0, p1, p2, p3, p4, p5, p6, p7⟩ := kb.eight)
    | (go_at_call 23; with_reducible refine (H2.out _ bc).mono ?_; rintro e w1 ⟨rfl, hC⟩; dsimp only; replace kb := kb.on hC; replace bc := bc.trans (hC.mono bc.size); clear hC; (try clear p0 p1 p2 p3 p4 p5 p6 p7); obtain ⟨p0, p1, p2, p3, p4, p5, p6, p7⟩ := kb.eight)
    | (go_at_call 25; with_reducible refine (H3.out _ bc).mono ?_; rintro e w1 ⟨rfl, hC⟩; dsimp only; replace kb := kb.on hC; replace bc := bc.trans (hC.mono bc.size); clear hC; (try clear p0 p1 p2 p3 p4 p5 p6 p7); obtain ⟨p0, p1, p2, p3, p4, p5, p6, p7⟩ := kb.eight)
    | (go_at_call 25; with_reducible refine (H4.out _ bc).mono ?_; rintro e w1 ⟨rfl, hC⟩; dsimp only; replace kb := kb.on hC; replace bc := bc.trans (hC.mono bc.size); clear hC; (try clear p0 p1 p2 p3 p4 p5 p6 p7); obtain ⟨p0, p1, p2, p3, p4, p5, p6, p7⟩ := kb.eight)
    | (go_at_call 10; refine (begun_any _).mono ?_; rintro e w1 ⟨rfl, hC⟩; dsimp only; replace kb := kb.on hC; replace bc := bc.trans (hC.mono bc.size); clear hC; (try clear p0 p1 p2 p3 p4 p5 p6 p7); obtain ⟨p0, p1, p2, p3, p4, p5, p6, p7⟩ := kb.eight))
  go_ret
  exact ⟨rfl, bc⟩
theorem air_le {m : ML} {mo n : Int} (h : placeM m mo n = 0) : 29 ≤ airAt ((modeAt m mo).x[n.toNat]?.getD false) ((modeAt m mo).d[n.toNat]?.getD 0) ∧ airAt ((modeAt m mo).x[n.toNat]?.getD false) ((modeAt m mo).d[n.toNat]?.getD 0) ≤ maxAirS m.N m.ms := by
  obtain ⟨hok, ⟨n0, n1⟩, m0, m1⟩ := placeM_ok h
  obtain ⟨j, rfl⟩ := Int.eq_ofNat_of_zero_le m0
  obtain ⟨k, rfl⟩ := Int.eq_ofNat_of_zero_le n0
  have hjm : j < m.ms.length := by omega
  have ho : m.ms[j]? = some m.ms[j] := List.getElem?_eq_getElem hjm
  have hma : modeAt m (j : Int) = m.ms[j] := by unfold modeAt; rw [Int.toNat_natCast, ho]; rfl
  rw [hma, Int.toNat_natCast]
  have hmem : m.ms[j] ∈ m.ms := List.getElem_mem hjm
  generalize m.ms[j] = o at *
  obtain ⟨q1, q2, -, q4, -⟩ := okM_mode hok hmem
  have hkd : k < o.d.length := by omega
  have hd := data_at q4 k hkd
  exact ⟨(airAt_range _ _ hd.1 hd.2).1, airOver_ge m.N o k (by unfold wide; omega) hd m.ms 34 (by decide) (by decide) hmem⟩
set_option maxRecDepth 100000 in
set_option maxHeartbeats 4000000 in
theorem room_law (m : ML) (c s : Slc) (mo n : Int) (t : Nat) (w : World) (ht : t < 4294967296) (hM : Med w m c s) : Calls Try.prog 5 #[vM m c s, .int .i64 mo, .int .i64 n, .int .u32 (t : Int)] w fun e w' => e = .returned (.bool true) ∧ Below w.heap.size w w' := by
  have h1 := fun W (h : Below w.heap.size w W) => mair_any m c s mo n W (hM.on h)
  have h2 := fun W (h : Below w.heap.size w W) => precision_any m c s W (hM.on h)
  have h3 := fun W (h : Below w.heap.size w W) => maxAir_any m c s W (hM.on h)
  unfold Pr at h1 h2
  by_cases ha : placeM m mo n = 0
  rotate_left
  · rw [show airM m mo n = (placeM m mo n, 0) from if_neg ha] at h1
    have hne := neq_of ha
    generalize placeM m mo n = ea at *
    generalize precM m = lb at *
    obtain ⟨l0, l1⟩ := lb
    generalize maxAirS m.N m.ms = ma at *
    dsimp only at h1 h2 h3
    clear ha hM
    obtain ⟨N, S, G, W, D, L, cold, ms⟩ := m
    obtain ⟨Ac, nc, cc⟩ := c
    obtain ⟨As, ns, cs⟩ := s
    dsimp only [vM] at *
    have H1 := Lib.hid h1; have H2 := Lib.hid h2; have H3 := Lib.hid h3; clear h1 h2 h3
    obtain ⟨kb, bc⟩ := bx1 w #[.int .i64 N, .int .i64 S, .int .i64 G, .int .i64 W, .int .i64 D, .int .i64 L, .slice Ac nc cc, .slice As ns cs] 25
    go_enter Try.func5, Try.ntmps5
    go_wp2_with (first
      | (go_at_call 19; with_reducible refine (H1.out _ bc).mono ?_; rintro e w1 ⟨rfl, hC⟩; dsimp only; replace kb := kb.on hC; replace bc := bc.trans (hC.mono bc.size); clear hC; (try clear p0 p1 p2 p3 p4 p5 p6 p7); obtain ⟨p0, p1, p2, p3, p4, p5, p6, p7⟩ := kb.eight)
      | (go_at_call 21; with_reducible refine (H2.out _ bc).mono ?_; rintro e w1 ⟨rfl, hC⟩; dsimp only; replace kb := kb.on hC; replace bc := bc.trans (hC.mono bc.size); clear hC; (try clear p0 p1 p2 p3 p4 p5 p6 p7); obtain ⟨p0, p1, p2, p3, p4, p5, p6, p7⟩ := kb.eight)
      | (go_at_call 13; with_reducible refine (H3.out _ bc).mono ?_; rintro e w1 ⟨rfl, hC⟩; dsimp only; replace kb := kb.on hC; replace bc := bc.trans (hC.mono bc.size); clear hC; (try clear p0 p1 p2 p3 p4 p5 p6 p7); obtain ⟨p0, p1, p2, p3, p4, p5, p6, p7⟩ := kb.eight)
      | (go_at_call 10; refine (begun_any _).mono ?_; rintro e w1 ⟨rfl, hC⟩; dsimp only; replace kb := kb.on hC; replace bc := bc.trans (hC.mono bc.size); clear hC; (try clear p0 p1 p2 p3 p4 p5 p6 p7); obtain ⟨p0, p1, p2, p3, p4, p5, p6, p7⟩ := kb.eight))
    go_ret
    exact ⟨rfl, bc⟩
  obtain ⟨hl0, hl1⟩ := air_le ha
  have har := maxAir_range m.N m.ms
  obtain ⟨hok, -⟩ := placeM_ok ha
  rw [show airM m mo n = (0, airAt ((modeAt m mo).x[n.toNat]?.getD false) ((modeAt m mo).d[n.toNat]?.getD 0)) from if_pos ha] at h1
  rw [show precM m = (0, 14 * m.N * m.D + 8) from if_pos (checkM_yes hok)] at h2
  obtain ⟨c1, c2, c3, c4, c5, c6, c7, c8, c9⟩ := hok
  generalize airAt ((modeAt m mo).x[n.toNat]?.getD false) ((modeAt m mo).d[n.toNat]?.getD 0) = A at *
  generalize maxAirS m.N m.ms = X at *
  clear hM ha c2 c3 c4
  obtain ⟨N, S, G, W, D, L, cold, ms⟩ := m
  obtain ⟨Ac, nc, cc⟩ := c
  obtain ⟨As, ns, cs⟩ := s
  dsimp only [vM] at *
  obtain ⟨hp0, hp1⟩ := mul_small (N := N) (D := D) (by omega) c1.2 c5.1 c5.2
  have e1 : 14 * N * D = 14 * (N * D) := Int.mul_assoc _ _ _
  have e2 : 16 * N * D = 16 * (N * D) := Int.mul_assoc _ _ _
  obtain ⟨F, hF⟩ : ∃ F, 14 * N * D + 8 = F := ⟨_, rfl⟩
  rw [hF] at h2
  have hF0 : 8 ≤ F ∧ F ≤ 7176 ∧ F ≤ W := by omega
  have w1 : IntKind.i64.wrap (F + 1) = F + 1 := IntWalk.i64_in _ (by omega)
  have w2 : IntKind.i64.wrap (G + A) = G + A := IntWalk.i64_in _ (by omega)
  have w3 : IntKind.i64.wrap (S - G) = S - G := IntWalk.i64_in _ (by omega)
  have w4 : IntKind.i64.wrap (W + L) = W + L := IntWalk.i64_in _ (by omega)
  have w5 : IntKind.i64.wrap (t : Int) = (t : Int) := IntWalk.i64_in _ (by omega)
  obtain ⟨R, hR⟩ : ∃ R, Int.tmod (t : Int) (F + 1) = R := ⟨_, rfl⟩
  have hR0 : R ≤ F := by have := Int.tmod_lt_of_pos (t : Int) (show 0 < F + 1 by omega); omega
  have d0 : ((F + 1) == 0) = false := by simp; omega
  have d1 : decide (G + A ≤ S - G) = true := by simp; omega
  have d2 : decide (A ≤ X) = true := by simp; omega
  have d3 : decide (R ≤ W) = true := by simp; omega
  have d4 : decide (W + L ≤ G) = true := by simp; omega
  have w6 : IntKind.i64.wrap R = R := IntWalk.i64_in _ (by have := Int.tmod_nonneg (F + 1) (show (0 : Int) ≤ (t : Int) by omega); omega)
  clear hF hl0 hl1 har e1 e2 hp0 hp1 hR0 c1 c5 c6 c7 c8 c9
  have H1 := Lib.hid h1; have H2 := Lib.hid h2; have H3 := Lib.hid h3; clear h1 h2 h3
  obtain ⟨kb, bc⟩ := bx1 w #[.int .i64 N, .int .i64 S, .int .i64 G, .int .i64 W, .int .i64 D, .int .i64 L, .slice Ac nc cc, .slice As ns cs] 25
  go_enter Try.func5, Try.ntmps5
  go_wp2_with (first
    | (go_at_call 19; with_reducible refine (H1.out _ bc).mono ?_; rintro e w1 ⟨rfl, hC⟩; dsimp only; replace kb := kb.on hC; replace bc := bc.trans (hC.mono bc.size); clear hC; (try clear p0 p1 p2 p3 p4 p5 p6 p7); obtain ⟨p0, p1, p2, p3, p4, p5, p6, p7⟩ := kb.eight)
    | (go_at_call 21; with_reducible refine (H2.out _ bc).mono ?_; rintro e w1 ⟨rfl, hC⟩; dsimp only; replace kb := kb.on hC; replace bc := bc.trans (hC.mono bc.size); clear hC; (try clear p0 p1 p2 p3 p4 p5 p6 p7); obtain ⟨p0, p1, p2, p3, p4, p5, p6, p7⟩ := kb.eight)
    | (go_at_call 13; with_reducible refine (H3.out _ bc).mono ?_; rintro e w1 ⟨rfl, hC⟩; dsimp only; replace kb := kb.on hC; replace bc := bc.trans (hC.mono bc.size); clear hC; (try clear p0 p1 p2 p3 p4 p5 p6 p7); obtain ⟨p0, p1, p2, p3, p4, p5, p6, p7⟩ := kb.eight)
    | (go_at_call 10; refine (begun_any _).mono ?_; rintro e w1 ⟨rfl, hC⟩; dsimp only; replace kb := kb.on hC; replace bc := bc.trans (hC.mono bc.size); clear hC; (try clear p0 p1 p2 p3 p4 p5 p6 p7); obtain ⟨p0, p1, p2, p3, p4, p5, p6, p7⟩ := kb.eight))
  go_ret
  exact ⟨rfl, bc⟩
end Go.Proofs.Ytnmaelefcohogaa
