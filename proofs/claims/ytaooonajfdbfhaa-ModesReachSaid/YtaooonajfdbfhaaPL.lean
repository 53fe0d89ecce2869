/-
  The statement of how far modes reach. Condition: a list that can be read. (Printed by tools/gen10l.py.)
-/
import Derived.Test.YtaooonajfdbfhaaQD
import Derived.Test.YtaooonajfdbfhaaQB
namespace Go.Proofs.Ytaooonajfdbfhaa
open Go.RowKit

theorem reach_ok {m : ML} {f t ch : Int} (h : (reachS m f t ch).1 = 0) : checkM m = 0 ∧ (0 ≤ f ∧ f < (m.ms.length : Int)) ∧ (0 ≤ t ∧ t < (m.ms.length : Int)) ∧ 0 ≤ ch := by
  by_cases c1 : checkM m = 0
  · by_cases c2 : (f < 0 ∨ (m.ms.length : Int) ≤ f) ∨ (t < 0 ∨ (m.ms.length : Int) ≤ t) ∨ ch < 0
    · rw [reach_bad c1 c2] at h; cases h
    · omega
  · rw [reach_out c1] at h; exact absurd h c1
theorem reach_val {m : ML} {f t ch : Int} (h : checkM m = 0) (hf : 0 ≤ f ∧ f < (m.ms.length : Int)) (ht : 0 ≤ t ∧ t < (m.ms.length : Int)) (hc : 0 ≤ ch) : reachS m f t ch = (0, reachM m f t (min ch.toNat m.ms.length)) := reach_in h (by omega)
theorem reach_mono {m : ML} {f t : Int} {k k' : Nat} (h : k ≤ k') (h1 : reachM m f t k = true) : reachM m f t k' = true := far_mono h h1
theorem reach_few {m : ML} {f t : Int} (hf : 0 ≤ f ∧ f < (m.ms.length : Int)) (ht : 0 ≤ t ∧ t < (m.ms.length : Int)) {k : Nat} (h1 : reachM m f t k = true) : reachM m f t (m.ms.length - 1) = true :=
  far_mono (Nat.min_le_right _ _) (far_few (by omega) (by omega) h1)
theorem may_reach {m : ML} {st : CS} {t : Int} (h : mayN m st t = true) : reachS m st.Mo t 1 = (0, true) := by
  obtain ⟨h1, h2, h3, h4, h5⟩ := may_ok h
  obtain ⟨-, -, hl, hmo, -, -⟩ := asked_ok h1
  rw [reach_val (asked_fits h1).1 hmo h2 (by omega)]
  have : reachM m st.Mo t (min (1 : Int).toNat m.ms.length) = true := by
    rw [show min (1 : Int).toNat m.ms.length = 1 by simp; omega]
    exact far_step (k := 0) (i := st.Mo.toNat) (by omega) (by simp [farG]) h5
  rw [this]

set_option maxRecDepth 100000 in
set_option maxHeartbeats 4000000 in
theorem reach_law (m : ML) (c s : Slc) (st : CS) (f t : Int) (ch : Nat) (w : World) (hch : ch < 256) (hM : Med w m c s) : Calls Try.prog 5 #[vM m c s, .agg st.cells, .int .i64 f, .int .i64 t, .int .u8 (ch : Int)] w fun e w' => e = .returned (.bool true) ∧ Below w.heap.size w w' := by
  have h1 := fun U (h : Below w.heap.size w U) => reach_any m c s f t (ch : Int) U (hM.on h)
  have h2 := fun U (h : Below w.heap.size w U) => reach_any m c s f t ((s.n : Int) - 1) U (hM.on h)
  have h3 := fun U (h : Below w.heap.size w U) => reach_any m c s f t ((ch : Int) + 1) U (hM.on h)
  have h4 := fun U (h : Below w.heap.size w U) => reach_any m c s st.Mo t 1 U (hM.on h)
  have h5 := fun U (h : Below w.heap.size w U) => may_any m c s st t U (hM.on h)
  have hsn := hM.sn
  have hsm := hM.sm
  unfold maxLen at hsm
  have wc : IntKind.i64.wrap (ch : Int) = (ch : Int) := IntWalk.i64_in _ (by omega)
  have wd : IntKind.i64.wrap ((ch : Int) + 1) = (ch : Int) + 1 := IntWalk.i64_in _ (by omega)
  have wn : IntKind.i64.wrap ((s.n : Int) - 1) = (s.n : Int) - 1 := IntWalk.i64_in _ (by omega)
  unfold ResT at h1 h2 h3 h4
  clear hM
  by_cases c1 : (reachS m f t (ch : Int)).1 = 0
  rotate_left
  · have d1 := neqz c1
    clear c1 h2 h3 h4 h5 hsn hsm
    generalize reachS m f t (ch : Int) = r1 at *
    obtain ⟨e1, b1⟩ := r1
    dsimp only at h1 d1
    have H1 := Lib.hid h1; clear h1
    obtain ⟨N, S, G, W, D, L, cold, ms⟩ := m
    obtain ⟨Ac, nc, cc⟩ := c
    obtain ⟨As, ns, cs⟩ := s
    obtain ⟨T, P, Mo, Nx, Me⟩ := st
    dsimp only [vM, CS.cells] at *
    obtain ⟨kb, kc, bc⟩ := bx2 w #[.int .i64 N, .int .i64 S, .int .i64 G, .int .i64 W, .int .i64 D, .int .i64 L, .slice Ac nc cc, .slice As ns cs] #[.int .i64 T, .int .i64 P, .int .i64 Mo, .int .i64 Nx, .int .i64 Me] 25 27
    go_enter Try.func5, Try.ntmps5
    go_wp2_with (first
      | (go_at_call 13; with_reducible refine (begun10_any _).mono ?_; rintro e w1 ⟨rfl, hC⟩; dsimp only; replace kb := kb.on hC; replace kc := kc.on hC; replace bc := bc.trans (hC.mono bc.size); clear hC; (try clear pkb0 pkb1 pkb2 pkb3 pkb4 pkb5 pkb6 pkb7); obtain ⟨pkb0, pkb1, pkb2, pkb3, pkb4, pkb5, pkb6, pkb7⟩ := kb.eight; (try clear pkc0 pkc1 pkc2 pkc3 pkc4); obtain ⟨⟨pkc0, pkc1, pkc2, pkc3, pkc4⟩, -⟩ := kc.five)
      | (go_at_call 11; with_reducible refine (H1.out _ bc).mono ?_; rintro e w1 ⟨rfl, hC⟩; dsimp only; replace kb := kb.on hC; replace kc := kc.on hC; replace bc := bc.trans (hC.mono bc.size); clear hC; (try clear pkb0 pkb1 pkb2 pkb3 pkb4 pkb5 pkb6 pkb7); obtain ⟨pkb0, pkb1, pkb2, pkb3, pkb4, pkb5, pkb6, pkb7⟩ := kb.eight; (try clear pkc0 pkc1 pkc2 pkc3 pkc4); obtain ⟨⟨pkc0, pkc1, pkc2, pkc3, pkc4⟩, -⟩ := kc.five))
    go_ret
    exact ⟨rfl, bc⟩
  obtain ⟨k1, k2, k3, k4⟩ := reach_ok c1
  have hl4 := (checkM_ok k1).2.1
  rw [reach_val k1 k2 k3 k4] at h1
  rw [reach_val k1 k2 k3 (show 0 ≤ (s.n : Int) - 1 by omega)] at h2
  rw [reach_val k1 k2 k3 (show 0 ≤ (ch : Int) + 1 by omega)] at h3
  have hfew : reachM m f t (min (ch : Int).toNat m.ms.length) = true → reachM m f t (min ((s.n : Int) - 1).toNat m.ms.length) = true ∧ reachM m f t (min ((ch : Int) + 1).toNat m.ms.length) = true := fun h =>
    ⟨reach_mono (k := m.ms.length - 1) (by omega) (reach_few k2 k3 h), reach_mono (by omega) h⟩
  have hmr := fun h => may_reach (m := m) (st := st) (t := t) h
  clear c1 k1 k2 k3 k4 hl4 hsn hsm
  generalize reachM m f t (min (ch : Int).toNat m.ms.length) = x1 at *
  generalize reachM m f t (min ((s.n : Int) - 1).toNat m.ms.length) = x2 at *
  generalize reachM m f t (min ((ch : Int) + 1).toNat m.ms.length) = x3 at *
  generalize reachS m st.Mo t 1 = r4 at *
  generalize mayN m st t = q at *
  obtain ⟨e4, x4⟩ := r4
  have hq : q = true → e4 = 0 ∧ x4 = true := fun h => by have := hmr h; cases this; exact ⟨rfl, rfl⟩
  clear hmr
  dsimp only at h1 h2 h3 h4
  have H1 := Lib.hid h1; have H2 := Lib.hid h2; have H3 := Lib.hid h3; have H4 := Lib.hid h4; have H5 := Lib.hid h5; clear h1 h2 h3 h4 h5
  obtain ⟨N, S, G, W, D, L, cold, ms⟩ := m
  obtain ⟨Ac, nc, cc⟩ := c
  obtain ⟨As, ns, cs⟩ := s
  obtain ⟨T, P, Mo, Nx, Me⟩ := st
  dsimp only [vM, CS.cells] at *
  cases x1 with
  | false =>
    clear hfew
    cases q with
    | false =>
      clear hq
      obtain ⟨kb, kc, bc⟩ := bx2 w #[.int .i64 N, .int .i64 S, .int .i64 G, .int .i64 W, .int .i64 D, .int .i64 L, .slice Ac nc cc, .slice As ns cs] #[.int .i64 T, .int .i64 P, .int .i64 Mo, .int .i64 Nx, .int .i64 Me] 25 27
      go_enter Try.func5, Try.ntmps5
      go_wp2_with (first
        | (go_at_call 13; with_reducible refine (begun10_any _).mono ?_; rintro e w1 ⟨rfl, hC⟩; dsimp only; replace kb := kb.on hC; replace kc := kc.on hC; replace bc := bc.trans (hC.mono bc.size); clear hC; (try clear pkb0 pkb1 pkb2 pkb3 pkb4 pkb5 pkb6 pkb7); obtain ⟨pkb0, pkb1, pkb2, pkb3, pkb4, pkb5, pkb6, pkb7⟩ := kb.eight; (try clear pkc0 pkc1 pkc2 pkc3 pkc4); obtain ⟨⟨pkc0, pkc1, pkc2, pkc3, pkc4⟩, -⟩ := kc.five)
        | (go_at_call 11; with_reducible refine (H1.out _ bc).mono ?_; rintro e w1 ⟨rfl, hC⟩; dsimp only; replace kb := kb.on hC; replace kc := kc.on hC; replace bc := bc.trans (hC.mono bc.size); clear hC; (try clear pkb0 pkb1 pkb2 pkb3 pkb4 pkb5 pkb6 pkb7); obtain ⟨pkb0, pkb1, pkb2, pkb3, pkb4, pkb5, pkb6, pkb7⟩ := kb.eight; (try clear pkc0 pkc1 pkc2 pkc3 pkc4); obtain ⟨⟨pkc0, pkc1, pkc2, pkc3, pkc4⟩, -⟩ := kc.five)
        | (go_at_call 11; with_reducible refine (H2.out _ bc).mono ?_; rintro e w1 ⟨rfl, hC⟩; dsimp only; replace kb := kb.on hC; replace kc := kc.on hC; replace bc := bc.trans (hC.mono bc.size); clear hC; (try clear pkb0 pkb1 pkb2 pkb3 pkb4 pkb5 pkb6 pkb7); obtain ⟨pkb0, pkb1, pkb2, pkb3, pkb4, pkb5, pkb6, pkb7⟩ := kb.eight; (try clear pkc0 pkc1 pkc2 pkc3 pkc4); obtain ⟨⟨pkc0, pkc1, pkc2, pkc3, pkc4⟩, -⟩ := kc.five)
        | (go_at_call 11; with_reducible refine (H3.out _ bc).mono ?_; rintro e w1 ⟨rfl, hC⟩; dsimp only; replace kb := kb.on hC; replace kc := kc.on hC; replace bc := bc.trans (hC.mono bc.size); clear hC; (try clear pkb0 pkb1 pkb2 pkb3 pkb4 pkb5 pkb6 pkb7); obtain ⟨pkb0, pkb1, pkb2, pkb3, pkb4, pkb5, pkb6, pkb7⟩ := kb.eight; (try clear pkc0 pkc1 pkc2 pkc3 pkc4); obtain ⟨⟨pkc0, pkc1, pkc2, pkc3, pkc4⟩, -⟩ := kc.five)
        | (go_at_call 11; with_reducible refine (H4.out _ bc).mono ?_; rintro e w1 ⟨rfl, hC⟩; dsimp only; replace kb := kb.on hC; replace kc := kc.on hC; replace bc := bc.trans (hC.mono bc.size); clear hC; (try clear pkb0 pkb1 pkb2 pkb3 pkb4 pkb5 pkb6 pkb7); obtain ⟨pkb0, pkb1, pkb2, pkb3, pkb4, pkb5, pkb6, pkb7⟩ := kb.eight; (try clear pkc0 pkc1 pkc2 pkc3 pkc4); obtain ⟨⟨pkc0, pkc1, pkc2, pkc3, pkc4⟩, -⟩ := kc.five)
        | (go_at_call 14; with_reducible refine (H5.out _ bc).mono ?_; rintro e w1 ⟨rfl, hC⟩; dsimp only; replace kb := kb.on hC; replace kc := kc.on hC; replace bc := bc.trans (hC.mono bc.size); clear hC; (try clear pkb0 pkb1 pkb2 pkb3 pkb4 pkb5 pkb6 pkb7); obtain ⟨pkb0, pkb1, pkb2, pkb3, pkb4, pkb5, pkb6, pkb7⟩ := kb.eight; (try clear pkc0 pkc1 pkc2 pkc3 pkc4); obtain ⟨⟨pkc0, pkc1, pkc2, pkc3, pkc4⟩, -⟩ := kc.five))
      all_goals (go_ret; exact ⟨rfl, bc⟩)
    | true =>
      obtain ⟨rfl, rfl⟩ := hq rfl
      clear hq
      obtain ⟨kb, kc, bc⟩ := bx2 w #[.int .i64 N, .int .i64 S, .int .i64 G, .int .i64 W, .int .i64 D, .int .i64 L, .slice Ac nc cc, .slice As ns cs] #[.int .i64 T, .int .i64 P, .int .i64 Mo, .int .i64 Nx, .int .i64 Me] 25 27
      go_enter Try.func5, Try.ntmps5
      go_wp2_with (first
        | (go_at_call 13; with_reducible refine (begun10_any _).mono ?_; rintro e w1 ⟨rfl, hC⟩; dsimp only; replace kb := kb.on hC; replace kc := kc.on hC; replace bc := bc.trans (hC.mono bc.size); clear hC; (try clear pkb0 pkb1 pkb2 pkb3 pkb4 pkb5 pkb6 pkb7); obtain ⟨pkb0, pkb1, pkb2, pkb3, pkb4, pkb5, pkb6, pkb7⟩ := kb.eight; (try clear pkc0 pkc1 pkc2 pkc3 pkc4); obtain ⟨⟨pkc0, pkc1, pkc2, pkc3, pkc4⟩, -⟩ := kc.five)
        | (go_at_call 11; with_reducible refine (H1.out _ bc).mono ?_; rintro e w1 ⟨rfl, hC⟩; dsimp only; replace kb := kb.on hC; replace kc := kc.on hC; replace bc := bc.trans (hC.mono bc.size); clear hC; (try clear pkb0 pkb1 pkb2 pkb3 pkb4 pkb5 pkb6 pkb7); obtain ⟨pkb0, pkb1, pkb2, pkb3, pkb4, pkb5, pkb6, pkb7⟩ := kb.eight; (try clear pkc0 pkc1 pkc2 pkc3 pkc4); obtain ⟨⟨pkc0, pkc1, pkc2, pkc3, pkc4⟩, -⟩ := kc.five)
        | (go_at_call 11; with_reducible refine (H2.out _ bc).mono ?_; rintro e w1 ⟨rfl, hC⟩; dsimp only; replace kb := kb.on hC; replace kc := kc.on hC; replace bc := bc.trans (hC.mono bc.size); clear hC; (try clear pkb0 pkb1 pkb2 pkb3 pkb4 pkb5 pkb6 pkb7); obtain ⟨pkb0, pkb1, pkb2, pkb3, pkb4, pkb5, pkb6, pkb7⟩ := kb.eight; (try clear pkc0 pkc1 pkc2 pkc3 pkc4); obtain ⟨⟨pkc0, pkc1, pkc2, pkc3, pkc4⟩, -⟩ := kc.five)
        | (go_at_call 11; with_reducible refine (H3.out _ bc).mono ?_; rintro e w1 ⟨rfl, hC⟩; dsimp only; replace kb := kb.on hC; replace kc := kc.on hC; replace bc := bc.trans (hC.mono bc.size); clear hC; (try clear pkb0 pkb1 pkb2 pkb3 pkb4 pkb5 pkb6 pkb7); obtain ⟨pkb0, pkb1, pkb2, pkb3, pkb4, pkb5, pkb6, pkb7⟩ := kb.eight; (try clear pkc0 pkc1 pkc2 pkc3 pkc4); obtain ⟨⟨pkc0, pkc1, pkc2, pkc3, pkc4⟩, -⟩ := kc.five)
        | (go_at_call 11; with_reducible refine (H4.out _ bc).mono ?_; rintro e w1 ⟨rfl, hC⟩; dsimp only; replace kb := kb.on hC; replace kc := kc.on hC; replace bc := bc.trans (hC.mono bc.size); clear hC; (try clear pkb0 pkb1 pkb2 pkb3 pkb4 pkb5 pkb6 pkb7); obtain ⟨pkb0, pkb1, pkb2, pkb3, pkb4, pkb5, pkb6, pkb7⟩ := kb.eight; (try clear pkc0 pkc1 pkc2 pkc3 pkc4); obtain ⟨⟨pkc0, pkc1, pkc2, pkc3, pkc4⟩, -⟩ := kc.five)
        | (go_at_call 14; with_reducible refine (H5.out _ bc).mono ?_; rintro e w1 ⟨rfl, hC⟩; dsimp only; replace kb := kb.on hC; replace kc := kc.on hC; replace bc := bc.trans (hC.mono bc.size); clear hC; (try clear pkb0 pkb1 pkb2 pkb3 pkb4 pkb5 pkb6 pkb7); obtain ⟨pkb0, pkb1, pkb2, pkb3, pkb4, pkb5, pkb6, pkb7⟩ := kb.eight; (try clear pkc0 pkc1 pkc2 pkc3 pkc4); obtain ⟨⟨pkc0, pkc1, pkc2, pkc3, pkc4⟩, -⟩ := kc.five))
      all_goals (go_ret; exact ⟨rfl, bc⟩)
  | true =>
    obtain ⟨rfl, rfl⟩ := hfew rfl
    clear hfew
    cases q with
    | false =>
      clear hq
      obtain ⟨kb, kc, bc⟩ := bx2 w #[.int .i64 N, .int .i64 S, .int .i64 G, .int .i64 W, .int .i64 D, .int .i64 L, .slice Ac nc cc, .slice As ns cs] #[.int .i64 T, .int .i64 P, .int .i64 Mo, .int .i64 Nx, .int .i64 Me] 25 27
      go_enter Try.func5, Try.ntmps5
      go_wp2_with (first
        | (go_at_call 13; with_reducible refine (begun10_any _).mono ?_; rintro e w1 ⟨rfl, hC⟩; dsimp only; replace kb := kb.on hC; replace kc := kc.on hC; replace bc := bc.trans (hC.mono bc.size); clear hC; (try clear pkb0 pkb1 pkb2 pkb3 pkb4 pkb5 pkb6 pkb7); obtain ⟨pkb0, pkb1, pkb2, pkb3, pkb4, pkb5, pkb6, pkb7⟩ := kb.eight; (try clear pkc0 pkc1 pkc2 pkc3 pkc4); obtain ⟨⟨pkc0, pkc1, pkc2, pkc3, pkc4⟩, -⟩ := kc.five)
        | (go_at_call 11; with_reducible refine (H1.out _ bc).mono ?_; rintro e w1 ⟨rfl, hC⟩; dsimp only; replace kb := kb.on hC; replace kc := kc.on hC; replace bc := bc.trans (hC.mono bc.size); clear hC; (try clear pkb0 pkb1 pkb2 pkb3 pkb4 pkb5 pkb6 pkb7); obtain ⟨pkb0, pkb1, pkb2, pkb3, pkb4, pkb5, pkb6, pkb7⟩ := kb.eight; (try clear pkc0 pkc1 pkc2 pkc3 pkc4); obtain ⟨⟨pkc0, pkc1, pkc2, pkc3, pkc4⟩, -⟩ := kc.five)
        | (go_at_call 11; with_reducible refine (H2.out _ bc).mono ?_; rintro e w1 ⟨rfl, hC⟩; dsimp only; replace kb := kb.on hC; replace kc := kc.on hC; replace bc := bc.trans (hC.mono bc.size); clear hC; (try clear pkb0 pkb1 pkb2 pkb3 pkb4 pkb5 pkb6 pkb7); obtain ⟨pkb0, pkb1, pkb2, pkb3, pkb4, pkb5, pkb6, pkb7⟩ := kb.eight; (try clear pkc0 pkc1 pkc2 pkc3 pkc4); obtain ⟨⟨pkc0, pkc1, pkc2, pkc3, pkc4⟩, -⟩ := kc.five)
        | (go_at_call 11; with_reducible refine (H3.out _ bc).mono ?_; rintro e w1 ⟨rfl, hC⟩; dsimp only; replace kb := kb.on hC; replace kc := kc.on hC; replace bc := bc.trans (hC.mono bc.size); clear hC; (try clear pkb0 pkb1 pkb2 pkb3 pkb4 pkb5 pkb6 pkb7); obtain ⟨pkb0, pkb1, pkb2, pkb3, pkb4, pkb5, pkb6, pkb7⟩ := kb.eight; (try clear pkc0 pkc1 pkc2 pkc3 pkc4); obtain ⟨⟨pkc0, pkc1, pkc2, pkc3, pkc4⟩, -⟩ := kc.five)
        | (go_at_call 11; with_reducible refine (H4.out _ bc).mono ?_; rintro e w1 ⟨rfl, hC⟩; dsimp only; replace kb := kb.on hC; replace kc := kc.on hC; replace bc := bc.trans (hC.mono bc.size); clear hC; (try clear pkb0 pkb1 pkb2 pkb3 pkb4 pkb5 pkb6 pkb7); obtain ⟨pkb0, pkb1, pkb2, pkb3, pkb4, pkb5, pkb6, pkb7⟩ := kb.eight; (try clear pkc0 pkc1 pkc2 pkc3 pkc4); obtain ⟨⟨pkc0, pkc1, pkc2, pkc3, pkc4⟩, -⟩ := kc.five)
        | (go_at_call 14; with_reducible refine (H5.out _ bc).mono ?_; rintro e w1 ⟨rfl, hC⟩; dsimp only; replace kb := kb.on hC; replace kc := kc.on hC; replace bc := bc.trans (hC.mono bc.size); clear hC; (try clear pkb0 pkb1 pkb2 pkb3 pkb4 pkb5 pkb6 pkb7); obtain ⟨pkb0, pkb1, pkb2, pkb3, pkb4, pkb5, pkb6, pkb7⟩ := kb.eight; (try clear pkc0 pkc1 pkc2 pkc3 pkc4); obtain ⟨⟨pkc0, pkc1, pkc2, pkc3, pkc4⟩, -⟩ := kc.five))
      all_goals (go_ret; exact ⟨rfl, bc⟩)
    | true =>
      obtain ⟨rfl, rfl⟩ := hq rfl
      clear hq
      obtain ⟨kb, kc, bc⟩ := bx2 w #[.int .i64 N, .int .i64 S, .int .i64 G, .int .i64 W, .int .i64 D, .int .i64 L, .slice Ac nc cc, .slice As ns cs] #[.int .i64 T, .int .i64 P, .int .i64 Mo, .int .i64 Nx, .int .i64 Me] 25 27
      go_enter Try.func5, Try.ntmps5
      go_wp2_with (first
        | (go_at_call 13; with_reducible refine (begun10_any _).mono ?_; rintro e w1 ⟨rfl, hC⟩; dsimp only; replace kb := kb.on hC; replace kc := kc.on hC; replace bc := bc.trans (hC.mono bc.size); clear hC; (try clear pkb0 pkb1 pkb2 pkb3 pkb4 pkb5 pkb6 pkb7); obtain ⟨pkb0, pkb1, pkb2, pkb3, pkb4, pkb5, pkb6, pkb7⟩ := kb.eight; (try clear pkc0 pkc1 pkc2 pkc3 pkc4); obtain ⟨⟨pkc0, pkc1, pkc2, pkc3, pkc4⟩, -⟩ := kc.five)
        | (go_at_call 11; with_reducible refine (H1.out _ bc).mono ?_; rintro e w1 ⟨rfl, hC⟩; dsimp only; replace kb := kb.on hC; replace kc := kc.on hC; replace bc := bc.trans (hC.mono bc.size); clear hC; (try clear pkb0 pkb1 pkb2 pkb3 pkb4 pkb5 pkb6 pkb7); obtain ⟨pkb0, pkb1, pkb2, pkb3, pkb4, pkb5, pkb6, pkb7⟩ := kb.eight; (try clear pkc0 pkc1 pkc2 pkc3 pkc4); obtain ⟨⟨pkc0, pkc1, pkc2, pkc3, pkc4⟩, -⟩ := kc.five)
        | (go_at_call 11; with_reducible refine (H2.out _ bc).mono ?_; rintro e w1 ⟨rfl, hC⟩; dsimp only; replace kb := kb.on hC; replace kc := kc.on hC; replace bc := bc.trans (hC.mono bc.size); clear hC; (try clear pkb0 pkb1 pkb2 pkb3 pkb4 pkb5 pkb6 pkb7); obtain ⟨pkb0, pkb1, pkb2, pkb3, pkb4, pkb5, pkb6, pkb7⟩ := kb.eight; (try clear pkc0 pkc1 pkc2 pkc3 pkc4); obtain ⟨⟨pkc0, pkc1, pkc2, pkc3, pkc4⟩, -⟩ := kc.five)
        | (go_at_call 11; with_reducible refine (H3.out _ bc).mono ?_; rintro e w1 ⟨rfl, hC⟩; dsimp only; replace kb := kb.on hC; replace kc := kc.on hC; replace bc := bc.trans (hC.mono bc.size); clear hC; (try clear pkb0 pkb1 pkb2 pkb3 pkb4 pkb5 pkb6 pkb7); obtain ⟨pkb0, pkb1, pkb2, pkb3, pkb4, pkb5, pkb6, pkb7⟩ := kb.eight; (try clear pkc0 pkc1 pkc2 pkc3 pkc4); obtain ⟨⟨pkc0, pkc1, pkc2, pkc3, pkc4⟩, -⟩ := kc.five)
        | (go_at_call 11; with_reducible refine (H4.out _ bc).mono ?_; rintro e w1 ⟨rfl, hC⟩; dsimp only; replace kb := kb.on hC; replace kc := kc.on hC; replace bc := bc.trans (hC.mono bc.size); clear hC; (try clear pkb0 pkb1 pkb2 pkb3 pkb4 pkb5 pkb6 pkb7); obtain ⟨pkb0, pkb1, pkb2, pkb3, pkb4, pkb5, pkb6, pkb7⟩ := kb.eight; (try clear pkc0 pkc1 pkc2 pkc3 pkc4); obtain ⟨⟨pkc0, pkc1, pkc2, pkc3, pkc4⟩, -⟩ := kc.five)
        | (go_at_call 14; with_reducible refine (H5.out _ bc).mono ?_; rintro e w1 ⟨rfl, hC⟩; dsimp only; replace kb := kb.on hC; replace kc := kc.on hC; replace bc := bc.trans (hC.mono bc.size); clear hC; (try clear pkb0 pkb1 pkb2 pkb3 pkb4 pkb5 pkb6 pkb7); obtain ⟨pkb0, pkb1, pkb2, pkb3, pkb4, pkb5, pkb6, pkb7⟩ := kb.eight; (try clear pkc0 pkc1 pkc2 pkc3 pkc4); obtain ⟨⟨pkc0, pkc1, pkc2, pkc3, pkc4⟩, -⟩ := kc.five))
      all_goals (go_ret; exact ⟨rfl, bc⟩)
end Go.Proofs.Ytaooonajfdbfhaa
