/-
  The statement of more room, of layer 7. Condition: a list that can be read. (Printed by tools/gen07o.py.)
-/
import Derived.Test.YtnmaelefcohogaaMN
namespace Go.Proofs.Ytnmaelefcohogaa
open Go.RowKit

theorem more_ok {N S G W D L : Int} {cold : List Bool} {ms : List Md} (h : okM ⟨N, S, G, W, D, L, cold, ms⟩) {S' D' : Int} (s0 : S ≤ S') (s1 : S' ≤ 16777216) (d0 : 0 ≤ D') (d1 : D' ≤ D) : okM ⟨N, S', G, W, D', L, cold, ms⟩ := by
  obtain ⟨c1, c2, c3, c4, c5, c6, c7, c8, c9⟩ := h
  dsimp only at *
  have hm : N * D' ≤ N * D := Int.mul_le_mul_of_nonneg_left d1 (by omega)
  have e1 : 16 * N * D = 16 * (N * D) := Int.mul_assoc _ _ _
  have e2 : 16 * N * D' = 16 * (N * D') := Int.mul_assoc _ _ _
  refine ⟨c1, c2, c3, c4, ⟨d0, by dsimp only; omega⟩, c6, ⟨?_, c7.2⟩, c8, ⟨?_, s1⟩⟩ <;> dsimp only at * <;> omega
set_option maxRecDepth 100000 in
set_option maxHeartbeats 4000000 in
theorem more_law (m : ML) (c s : Slc) (t v : Nat) (w : World) (ht : t < 65536) (hv : v < 256) (hM : Med w m c s) : Calls Try.prog 7 #[vM m c s, .int .u16 (t : Int), .int .u8 (v : Int)] w fun e w' => e = .returned (.bool true) ∧ Below w.heap.size w w' := by
  have h1 := fun W (h : Med W m c s) => check_any m c s W h
  have h2 := fun W (h : Med W m c s) => precision_any m c s W h
  unfold Pr at h2
  rcases checkM_two m with hc | hc
  rotate_left
  · rw [hc] at h1
    clear h2 hc
    obtain ⟨N, S, G, W, D, L, cold, ms⟩ := m
    obtain ⟨Ac, nc, cc⟩ := c
    obtain ⟨As, ns, cs⟩ := s
    dsimp only [vM] at *
    have H1 := Lib.hid h1; clear h1
    have HM := Lib.hid hM; clear hM
    obtain ⟨kb, bc⟩ := bx1 w #[.int .i64 N, .int .i64 S, .int .i64 G, .int .i64 W, .int .i64 D, .int .i64 L, .slice Ac nc cc, .slice As ns cs] 25
    go_enter Try.func7, Try.ntmps7
    go_wp2_with (first
      | (go_at_call 11; with_reducible refine (H1.out _ (HM.out.on bc)).mono ?_; rintro e w1 ⟨rfl, hC⟩; dsimp only; replace kb := kb.on hC; replace bc := bc.trans (hC.mono bc.size); clear hC; (try clear p0 p1 p2 p3 p4 p5 p6 p7); obtain ⟨p0, p1, p2, p3, p4, p5, p6, p7⟩ := kb.eight; have hlw := kb.lt)
      | (go_at_call 10; refine (begun_any _).mono ?_; rintro e w1 ⟨rfl, hC⟩; dsimp only; replace kb := kb.on hC; replace bc := bc.trans (hC.mono bc.size); clear hC; (try clear p0 p1 p2 p3 p4 p5 p6 p7); obtain ⟨p0, p1, p2, p3, p4, p5, p6, p7⟩ := kb.eight; have hlw := kb.lt))
    go_ret
    exact ⟨rfl, bc⟩
  rw [hc] at h1
  have hok := checkM_ok hc
  obtain ⟨N, S, G, W, D, L, cold, ms⟩ := m
  obtain ⟨Ac, nc, cc⟩ := c
  obtain ⟨As, ns, cs⟩ := s
  obtain ⟨S2, hS2⟩ : ∃ S2, (if (16777216 : Int) < S + (t : Int) then (16777216 : Int) else S + (t : Int)) = S2 := ⟨_, rfl⟩
  obtain ⟨D2, hD2⟩ : ∃ D2, (if D - (v : Int) < 0 then (0 : Int) else D - (v : Int)) = D2 := ⟨_, rfl⟩
  obtain ⟨c1, c2, c3, c4, c5, c6, c7, c8, c9⟩ := id hok
  have har := maxAir_range N ms
  dsimp only at c1 c2 c3 c4 c5 c6 c7 c8 c9
  obtain ⟨hp0, hp1⟩ := mul_small (N := N) (D := D) (by omega) c1.2 c5.1 c5.2
  have e3 : 16 * N * D = 16 * (N * D) := Int.mul_assoc _ _ _
  have hs0 : S ≤ S2 ∧ S2 ≤ 16777216 := by rw [← hS2]; split <;> omega
  have hd0 : 0 ≤ D2 ∧ D2 ≤ D := by rw [← hD2]; split <;> omega
  have hok2 := more_ok hok hs0.1 hs0.2 hd0.1 hd0.2
  have h3 := fun U (h : Med U ⟨N, S2, G, W, D2, L, cold, ms⟩ ⟨Ac, nc, cc⟩ ⟨As, ns, cs⟩) => check_any _ _ _ U h
  have h4 := fun U (h : Med U ⟨N, S2, G, W, D2, L, cold, ms⟩ ⟨Ac, nc, cc⟩ ⟨As, ns, cs⟩) => precision_any _ _ _ U h
  unfold Pr at h4
  rw [checkM_yes hok2] at h3
  rw [show precM ⟨N, S2, G, W, D2, L, cold, ms⟩ = (0, 14 * N * D2 + 8) from if_pos (checkM_yes hok2)] at h4
  rw [show precM ⟨N, S, G, W, D, L, cold, ms⟩ = (0, 14 * N * D + 8) from if_pos (checkM_yes hok)] at h2
  have hm : N * D2 ≤ N * D := Int.mul_le_mul_of_nonneg_left hd0.2 (by omega)
  have e1 : 14 * N * D = 14 * (N * D) := Int.mul_assoc _ _ _
  have e2 : 14 * N * D2 = 14 * (N * D2) := Int.mul_assoc _ _ _
  obtain ⟨P, hP⟩ : ∃ P, 14 * N * D + 8 = P := ⟨_, rfl⟩
  obtain ⟨Q, hQ⟩ : ∃ Q, 14 * N * D2 + 8 = Q := ⟨_, rfl⟩
  rw [hP] at h2
  rw [hQ] at h4
  have d1 : decide (Q ≤ P) = true := by simp; omega
  have w1 : IntKind.i64.wrap (S + (t : Int)) = S + (t : Int) := IntWalk.i64_in _ (by omega)
  have w2 : IntKind.i64.wrap (D - (v : Int)) = D - (v : Int) := IntWalk.i64_in _ (by omega)
  have w3 : IntKind.i64.wrap (t : Int) = (t : Int) := IntWalk.i64_in _ (by omega)
  have w4 : IntKind.i64.wrap (v : Int) = (v : Int) := IntWalk.i64_in _ (by omega)
  have hM2 : ∀ U, Med U ⟨N, S, G, W, D, L, cold, ms⟩ ⟨Ac, nc, cc⟩ ⟨As, ns, cs⟩ → Med U ⟨N, S2, G, W, D2, L, cold, ms⟩ ⟨Ac, nc, cc⟩ ⟨As, ns, cs⟩ := fun U h => ⟨h.cb, h.cn, h.cm, h.sb, h.sn, h.sm⟩
  have H1 := Lib.hid h1; have H2 := Lib.hid h2; have H3 := Lib.hid h3; have H4 := Lib.hid h4; have HM2 := Lib.hid hM2; have HM := Lib.hid hM
  dsimp only [vM] at H1 H2 H3 H4 ⊢
  clear h1 h2 h3 h4 hM2 hM hc hok hok2 c1 c2 c3 c4 c5 c6 c7 c8 c9 har hs0 hd0 hm e1 e2 e3 hp0 hp1 hP hQ
  obtain ⟨kb, bc⟩ := bx1 w #[.int .i64 N, .int .i64 S, .int .i64 G, .int .i64 W, .int .i64 D, .int .i64 L, .slice Ac nc cc, .slice As ns cs] 25
  go_enter Try.func7, Try.ntmps7
  go_wp2_with (first
  | (go_at_call 11; with_reducible refine (H1.out _ (HM.out.on bc)).mono ?_; rintro e w1 ⟨rfl, hC⟩; dsimp only; replace kb := kb.on hC; replace bc := bc.trans (hC.mono bc.size); clear hC; (try clear p0 p1 p2 p3 p4 p5 p6 p7); obtain ⟨p0, p1, p2, p3, p4, p5, p6, p7⟩ := kb.eight; have hlw := kb.lt)
  | (go_at_call 10; refine (begun_any _).mono ?_; rintro e w1 ⟨rfl, hC⟩; dsimp only; replace kb := kb.on hC; replace bc := bc.trans (hC.mono bc.size); clear hC; (try clear p0 p1 p2 p3 p4 p5 p6 p7); obtain ⟨p0, p1, p2, p3, p4, p5, p6, p7⟩ := kb.eight; have hlw := kb.lt))
  clear p0 p1 p2 p3 p4 p5 p6 p7 hlw
  have kx := Blk.new w1 25 #[.int .i64 N, .int .i64 S2, .int .i64 G, .int .i64 W, .int .i64 D2, .int .i64 L, .slice Ac nc cc, .slice As ns cs]
  have hC := Below.al w1 (.cells #[.int .i64 N, .int .i64 S2, .int .i64 G, .int .i64 W, .int .i64 D2, .int .i64 L, .slice Ac nc cc, .slice As ns cs] 25)
  replace kb := kb.on hC; replace bc := bc.trans (hC.mono bc.size); clear hC
  generalize w1.alloc (.cells #[.int .i64 N, .int .i64 S2, .int .i64 G, .int .i64 W, .int .i64 D2, .int .i64 L, .slice Ac nc cc, .slice As ns cs] 25) = u2 at *
  generalize w1.heap.size = gx at *
  refine (H2.out _ (HM.out.on bc)).mono ?_
  rintro e w3 ⟨rfl, hC⟩
  dsimp only
  replace kx := kx.on hC
  replace bc := bc.trans (hC.mono bc.size)
  clear hC
  (try clear q0 q1 q2 q3 q4 q5 q6 q7)
  obtain ⟨q0, q1, q2, q3, q4, q5, q6, q7⟩ := kx.eight
  go_wp2_with (first
  | (go_at_call 21; with_reducible refine (H4.out _ (HM2.out _ (HM.out.on bc))).mono ?_; rintro e w4 ⟨rfl, hC⟩; dsimp only; replace kx := kx.on hC; replace bc := bc.trans (hC.mono bc.size); clear hC; (try clear q0 q1 q2 q3 q4 q5 q6 q7); obtain ⟨q0, q1, q2, q3, q4, q5, q6, q7⟩ := kx.eight)
  | (go_at_call 11; with_reducible refine (H3.out _ (HM2.out _ (HM.out.on bc))).mono ?_; rintro e w5 ⟨rfl, hC⟩; dsimp only; replace kx := kx.on hC; replace bc := bc.trans (hC.mono bc.size); clear hC; (try clear q0 q1 q2 q3 q4 q5 q6 q7); obtain ⟨q0, q1, q2, q3, q4, q5, q6, q7⟩ := kx.eight))
  go_ret
  exact ⟨rfl, bc⟩
end Go.Proofs.Ytnmaelefcohogaa
