/-
  The document's own Check of layer 7. Condition: a list that can be read. (Printed by tools/gen07r.py.)
-/
import Derived.Test.YtlkmipcenlhacaaMQ
namespace Go.Proofs.Ytlkmipcenlhacaa
open Go.RowKit

set_option maxRecDepth 100000 in
set_option maxHeartbeats 8000000 in
theorem rmcheck_any (m : ML) (c s : Slc) (w : World) (hM : Med w m c s) : Calls Try.prog 35 #[vM m c s] w fun e w' => e = .returned (.int .i64 (checkM m)) ∧ Below w.heap.size w w' := by
  obtain ⟨R, hR⟩ : ∃ R, R = checkM m := ⟨_, rfl⟩
  rw [← hR]
  have HR := Lib.hid hR; clear hR
  have hma := fun U (h : Med U m c s) => rmaxAir_any m c s U h
  have hmo := fun o v U (h : Med U m c s) hN hv => rmode_any m c s o v U h hN hv
  have har := maxAir_range m.N m.ms
  obtain ⟨X, hX⟩ : ∃ X, X = maxAirS m.N m.ms := ⟨_, rfl⟩
  rw [← hX] at hma har
  have HMA := Lib.hid hma; have HMO := Lib.hid hmo; have HX := Lib.hid hX
  clear hma hmo hX
  obtain ⟨N, S, G, W, D, L, cold, ms⟩ := m
  obtain ⟨Ac, nc, cc⟩ := c
  obtain ⟨As, ns, cs⟩ := s
  have hcn : nc = cold.length := hM.cn
  have hcm : nc ≤ maxLen := hM.cm
  have hsn : ns = ms.length := hM.sn
  have hcb : Bools w.heap.size w Ac cold := hM.cb
  have HM := Lib.hid hM; clear hM
  have htr := fun U h => rtrues_any Ac nc cc cold U hcn hcm h
  obtain ⟨t, ht⟩ : ∃ t, t = trues cold := ⟨_, rfl⟩
  have htl := trues_le cold
  rw [← ht] at htr htl
  have HCN := Lib.hid hcn; have HSN := Lib.hid hsn; have HT := Lib.hid ht; have HTR := Lib.hid htr
  have hlen : cold.length ≤ maxLen := hcn ▸ hcm
  unfold maxLen at hlen
  clear hcn hsn ht htr hcb hcm
  dsimp only [vM] at *
  obtain ⟨kb, bc⟩ := bx1 w #[.int .i64 N, .int .i64 S, .int .i64 G, .int .i64 W, .int .i64 D, .int .i64 L, .slice Ac nc cc, .slice As ns cs] 25
  by_cases a1 : N < 4
  · have d_a1 : decide (N < 4) = true := by simpa using a1
    obtain rfl : R = 70 := by rw [HR.out]; exact checkM_no (fun h => (by have h1 := h.1; dsimp only at h1; omega))
    go_enter Try.func35, Try.ntmps35
    go_wp2_with (first | (go_at_call 54; refine (HTR.out _ (HM.out.on bc).cb).mono ?_; rintro e w3 ⟨rfl, rfl⟩))
    go_ret
    exact ⟨rfl, bc⟩
  have d_a1 : decide (N < 4) = false := by simpa using a1
  by_cases a2 : 8 < N
  · have d_a2 : decide (8 < N) = true := by simpa using a2
    obtain rfl : R = 70 := by rw [HR.out]; exact checkM_no (fun h => (by have h1 := h.1; dsimp only at h1; omega))
    go_enter Try.func35, Try.ntmps35
    go_wp2_with (first | (go_at_call 54; refine (HTR.out _ (HM.out.on bc).cb).mono ?_; rintro e w3 ⟨rfl, rfl⟩))
    go_ret
    exact ⟨rfl, bc⟩
  have d_a2 : decide (8 < N) = false := by simpa using a2
  by_cases a3 : (ns : Int) < 1
  · have d_a3 : decide ((ns : Int) < 1) = true := by simp; omega
    obtain rfl : R = 70 := by rw [HR.out]; exact checkM_no (fun h => (by have h1 := h.2.1; have h3 := HSN.out; dsimp only at h1; omega))
    go_enter Try.func35, Try.ntmps35
    go_wp2_with (first | (go_at_call 54; refine (HTR.out _ (HM.out.on bc).cb).mono ?_; rintro e w3 ⟨rfl, rfl⟩))
    go_ret
    exact ⟨rfl, bc⟩
  have d_a3 : decide ((ns : Int) < 1) = false := by simp; omega
  by_cases a4 : 4 < (ns : Int)
  · have d_a4 : decide (4 < (ns : Int)) = true := by simp; omega
    obtain rfl : R = 70 := by rw [HR.out]; exact checkM_no (fun h => (by have h1 := h.2.1; have h3 := HSN.out; dsimp only at h1; omega))
    go_enter Try.func35, Try.ntmps35
    go_wp2_with (first | (go_at_call 54; refine (HTR.out _ (HM.out.on bc).cb).mono ?_; rintro e w3 ⟨rfl, rfl⟩))
    go_ret
    exact ⟨rfl, bc⟩
  have d_a4 : decide (4 < (ns : Int)) = false := by simp; omega
  by_cases a5 : (nc : Int) = N
  rotate_left
  · have d_a5 : ((nc : Int) != N) = true := by simpa using a5
    obtain rfl : R = 70 := by rw [HR.out]; exact checkM_no (fun h => (by have h1 := h.2.2.1; have h3 := HCN.out; dsimp only at h1; omega))
    clear a5
    go_enter Try.func35, Try.ntmps35
    go_wp2_with (first | (go_at_call 54; refine (HTR.out _ (HM.out.on bc).cb).mono ?_; rintro e w3 ⟨rfl, rfl⟩))
    go_ret
    exact ⟨rfl, bc⟩
  have d_a5 : ((nc : Int) != N) = false := by simpa using a5
  by_cases a6 : t < 2
  · have d_a6 : decide ((t : Int) < 2) = true := by simp; omega
    obtain rfl : R = 70 := by rw [HR.out]; exact checkM_no (fun h => (by have h1 := h.2.2.1; have h3 := HT.out; dsimp only at h1; omega))
    clear a5
    go_enter Try.func35, Try.ntmps35
    go_wp2_with (first | (go_at_call 54; refine (HTR.out _ (HM.out.on bc).cb).mono ?_; rintro e w3 ⟨rfl, rfl⟩))
    go_ret
    exact ⟨rfl, bc⟩
  have d_a6 : decide ((t : Int) < 2) = false := by simp; omega
  have HN3 := Lib.hid (show (cold.length : Int) = N by have := HCN.out; omega)
  clear a5
  go_enter Try.func35, Try.ntmps35
  go_wp2_with (first | (go_at_call 54; refine (HTR.out _ (HM.out.on bc).cb).mono ?_; rintro e w3 ⟨rfl, rfl⟩))
  generalize w.alloc (.cells #[.int .i64 N, .int .i64 S, .int .i64 G, .int .i64 W, .int .i64 D, .int .i64 L, .slice Ac nc cc, .slice As ns cs] 25) = u1 at *
  clear d_a1 d_a2 d_a3 d_a4 d_a5 d_a6 HTR
  go_loopw [3] (fun i wr => ∃ k : Nat, k ≤ ns ∧ i = .int .i64 k ∧ (ms.take k).all (okMode N cold ms.length) = true ∧ Below u1.heap.size u1 wr) (fun i _ => ns - (intOf i).toNat)
  case atStart => exact ⟨0, by omega, rfl, rfl, Below.refl _ _⟩
  case round =>
    obtain ⟨k, hk, rfl, hno, hB⟩ := hrel
    have HNO := Lib.hid hno; clear hno
    replace kb := kb.on hB; replace bc := bc.trans (hB.mono bc.size)
    obtain ⟨p0, p1, p2, p3, p4, p5, p6, p7⟩ := kb.eight
    by_cases hlt : k < ns
    · have hkm : k < ms.length := by have := HSN.out; omega
      obtain ⟨o, ho⟩ : ∃ o, ms[k]? = some o := ⟨ms[k], List.getElem?_eq_getElem hkm⟩
      obtain ⟨b, off, e1, hb, v, hc0, hc1, hc2, hv⟩ := (HM.out.on bc).sb.at_ ho
      dsimp only at e1
      subst e1
      have hs := all_snoc (okMode N cold ms.length) ms k o ho
      rw [HNO.out] at hs
      have hf := all_not (okMode N cold ms.length) ms k o ho
      have hmo := fun U (h : Below wr.heap.size wr U) => HMO.out o v U ((HM.out.on bc).on h) HN3.out (hv.on h)
      have HS := Lib.hid hs; have HF := Lib.hid hf
      clear hs hf hkm ho hv
      obtain ⟨⟨Ad, nd, cd⟩, ⟨Ax, nx, cx⟩, ⟨An, nn, cn⟩⟩ := v
      dsimp only [vO] at hc0 hc1 hc2 hmo
      obtain ⟨q, hq⟩ : ∃ q, q = okMode N cold ms.length o := ⟨_, rfl⟩
      rw [← hq] at hmo
      have HMO2 := Lib.hid hmo; have HQ := Lib.hid hq; clear hmo hq
      obtain ⟨n0, n1, n2, n3, n4, n5, n6, n7⟩ := near_eight kb
      have m0 := near_cell hb hc0; have m1 := near_cell hb hc1; have m2 := near_cell hb hc2
      cases q with
      | false =>
        obtain rfl : R = 70 := by rw [HR.out]; exact checkM_no (fun h => (by have h4 := h.2.2.2.1; dsimp only at h4; rw [HF.out HQ.out.symm] at h4; cases h4))
        go_wp2_with fail
        clear p0 p1 p2 p3 p4 p5 p6 p7 hc0 hc1 hc2
        refine wp_region_near (by kernel_rfl) (by kernel_rfl) ?_
        repeat (go_big_quiet_step (first | (go_at_call 55; exact near_call (HMO2.out _ (NearW.h _)))))
        refine wpQuiet_nil ?_
        rintro _ ⟨nw, rfl⟩
        go_wp2
        go_ret
        exact ⟨rfl, bc.trans (nw.h.mono bc.size)⟩
      | true =>
        go_wp2_with fail
        clear p0 p1 p2 p3 p4 p5 p6 p7 hc0 hc1 hc2
        refine wp_region_near (by kernel_rfl) (by kernel_rfl) ?_
        repeat (go_big_quiet_step (first | (go_at_call 55; exact near_call (HMO2.out _ (NearW.h _)))))
        refine wpQuiet_nil ?_
        rintro _ ⟨nw, rfl⟩
        go_wp2
        go_roundw
        case rel => exact ⟨k + 1, by omega, by go_num, by rw [HS.out, ← HQ.out]; rfl, hB.trans (nw.h.mono hB.size)⟩
        case measure => simp [intOf]; omega
    · have hall : ms.all (okMode N cold ms.length) = true := by
        have h3 := HNO.out
        rw [List.take_of_length_le (by have := HSN.out; omega)] at h3
        exact h3
      have HALL := Lib.hid hall; clear hall HNO HMO
      obtain ⟨n0, n1, n2, n3, n4, n5, n6, n7⟩ := near_eight kb
      have HKB := Lib.hid kb; clear kb
      by_cases b1 : D < 0
      · have d_b1 : decide (D < 0) = true := by simpa using b1
        obtain rfl : R = 70 := by rw [HR.out]; exact checkM_no (fun h => (by have h1 := h.2.2.2.2.1; dsimp only at h1; omega))
        go_wp2
        go_ret
        exact ⟨rfl, bc⟩
      have d_b1 : decide (D < 0) = false := by simpa using b1
      by_cases b2 : 64 < D
      · have d_b2 : decide (64 < D) = true := by simpa using b2
        obtain rfl : R = 70 := by rw [HR.out]; exact checkM_no (fun h => (by have h1 := h.2.2.2.2.1; dsimp only at h1; omega))
        go_wp2
        go_ret
        exact ⟨rfl, bc⟩
      have d_b2 : decide (64 < D) = false := by simpa using b2
      by_cases b3 : L < 0
      · have d_b3 : decide (L < 0) = true := by simpa using b3
        obtain rfl : R = 70 := by rw [HR.out]; exact checkM_no (fun h => (by have h1 := h.2.2.2.2.2.1; dsimp only at h1; omega))
        go_wp2
        go_ret
        exact ⟨rfl, bc⟩
      have d_b3 : decide (L < 0) = false := by simpa using b3
      by_cases b4 : 64 < L
      · have d_b4 : decide (64 < L) = true := by simpa using b4
        obtain rfl : R = 70 := by rw [HR.out]; exact checkM_no (fun h => (by have h1 := h.2.2.2.2.2.1; dsimp only at h1; omega))
        go_wp2
        go_ret
        exact ⟨rfl, bc⟩
      have d_b4 : decide (64 < L) = false := by simpa using b4
      obtain ⟨hp0, hp1⟩ := mul_small (N := N) (D := D) (by omega) (by omega) (by omega) (by omega)
      have e1 : 16 * N * D = 16 * (N * D) := Int.mul_assoc _ _ _
      have w1 : IntKind.i64.wrap (16 * N) = 16 * N := IntWalk.i64_in _ (by omega)
      have w2 : IntKind.i64.wrap (16 * N * D) = 16 * N * D := IntWalk.i64_in _ (by rw [e1]; omega)
      have w3 : IntKind.i64.wrap (16 * N * D + 16) = 16 * N * D + 16 := IntWalk.i64_in _ (by rw [e1]; omega)
      have HE := Lib.hid e1; clear e1
      by_cases b5 : W < 16 * N * D + 16
      · have d_b5 : decide (W < 16 * N * D + 16) = true := by simpa using b5
        obtain rfl : R = 70 := by rw [HR.out]; exact checkM_no (fun h => (by have h1 := h.2.2.2.2.2.2.1; dsimp only at h1; omega))
        go_wp2
        go_ret
        exact ⟨rfl, bc⟩
      have d_b5 : decide (W < 16 * N * D + 16) = false := by simpa using b5
      by_cases b6 : 1048576 < W
      · have d_b6 : decide (1048576 < W) = true := by simpa using b6
        obtain rfl : R = 70 := by rw [HR.out]; exact checkM_no (fun h => (by have h1 := h.2.2.2.2.2.2.1; dsimp only at h1; omega))
        go_wp2
        go_ret
        exact ⟨rfl, bc⟩
      have d_b6 : decide (1048576 < W) = false := by simpa using b6
      have hW0 : 0 ≤ W := by have := HE.out; omega
      have w4 : IntKind.i64.wrap (2 * W) = 2 * W := IntWalk.i64_in _ (by omega)
      have w5 : IntKind.i64.wrap (2 * L) = 2 * L := IntWalk.i64_in _ (by omega)
      have w6 : IntKind.i64.wrap (2 * W + 2 * L) = 2 * W + 2 * L := IntWalk.i64_in _ (by omega)
      have w7 : IntKind.i64.wrap (2 * W + 2 * L + 4) = 2 * W + 2 * L + 4 := IntWalk.i64_in _ (by omega)
      by_cases b7 : G < 2 * W + 2 * L + 4
      · have d_b7 : decide (G < 2 * W + 2 * L + 4) = true := by simpa using b7
        obtain rfl : R = 70 := by rw [HR.out]; exact checkM_no (fun h => (by have h1 := h.2.2.2.2.2.2.2.1; dsimp only at h1; omega))
        go_wp2_with fail
        clear p0 p1 p2 p3 p4 p5 p6 p7
        refine wp_region_near (by kernel_rfl) (by kernel_rfl) ?_
        repeat (go_big_quiet_step (first | (go_at_call 31; exact near_call (HMA.out _ ((HM.out.on bc).on (NearW.h _))))))
        refine wpQuiet_nil ?_
        rintro _ ⟨nw, rfl⟩
        go_wp2
        go_ret
        exact ⟨rfl, bc.trans (nw.h.mono bc.size)⟩
      have d_b7 : decide (G < 2 * W + 2 * L + 4) = false := by simpa using b7
      by_cases b8 : 1048576 < G
      · have d_b8 : decide (1048576 < G) = true := by simpa using b8
        obtain rfl : R = 70 := by rw [HR.out]; exact checkM_no (fun h => (by have h1 := h.2.2.2.2.2.2.2.1; dsimp only at h1; omega))
        go_wp2_with fail
        clear p0 p1 p2 p3 p4 p5 p6 p7
        refine wp_region_near (by kernel_rfl) (by kernel_rfl) ?_
        repeat (go_big_quiet_step (first | (go_at_call 31; exact near_call (HMA.out _ ((HM.out.on bc).on (NearW.h _))))))
        refine wpQuiet_nil ?_
        rintro _ ⟨nw, rfl⟩
        go_wp2
        go_ret
        exact ⟨rfl, bc.trans (nw.h.mono bc.size)⟩
      have d_b8 : decide (1048576 < G) = false := by simpa using b8
      have w8 : IntKind.i64.wrap (2 * G) = 2 * G := IntWalk.i64_in _ (by omega)
      have w9 : IntKind.i64.wrap (2 * G + X) = 2 * G + X := IntWalk.i64_in _ (by omega)
      by_cases b9 : S < 2 * G + X
      · have d_b9 : decide (S < 2 * G + X) = true := by simpa using b9
        obtain rfl : R = 70 := by rw [HR.out]; exact checkM_no (fun h => (by have h1 := h.2.2.2.2.2.2.2.2; have h3 := HX.out; dsimp only at h1; omega))
        go_wp2_with fail
        clear p0 p1 p2 p3 p4 p5 p6 p7
        refine wp_region_near (by kernel_rfl) (by kernel_rfl) ?_
        repeat (go_big_quiet_step (first | (go_at_call 31; exact near_call (HMA.out _ ((HM.out.on bc).on (NearW.h _))))))
        refine wpQuiet_nil ?_
        rintro _ ⟨nw, rfl⟩
        go_wp2
        go_ret
        exact ⟨rfl, bc.trans (nw.h.mono bc.size)⟩
      have d_b9 : decide (S < 2 * G + X) = false := by simpa using b9
      by_cases b0 : 16777216 < S
      · have d_b0 : decide (16777216 < S) = true := by simpa using b0
        obtain rfl : R = 70 := by rw [HR.out]; exact checkM_no (fun h => (by have h1 := h.2.2.2.2.2.2.2.2; dsimp only at h1; omega))
        go_wp2_with fail
        clear p0 p1 p2 p3 p4 p5 p6 p7
        refine wp_region_near (by kernel_rfl) (by kernel_rfl) ?_
        repeat (go_big_quiet_step (first | (go_at_call 31; exact near_call (HMA.out _ ((HM.out.on bc).on (NearW.h _))))))
        refine wpQuiet_nil ?_
        rintro _ ⟨nw, rfl⟩
        go_wp2
        go_ret
        exact ⟨rfl, bc.trans (nw.h.mono bc.size)⟩
      have d_b0 : decide (16777216 < S) = false := by simpa using b0
      obtain rfl : R = 0 := by
        rw [HR.out]
        have h1 := HSN.out; have h2 := HCN.out; have h3 := HT.out; have h4 := HX.out; have h5 := HN3.out
        refine checkM_yes ⟨by dsimp only; omega, by dsimp only; omega, ⟨HN3.out, by dsimp only; omega⟩, HALL.out, by dsimp only; omega, by dsimp only; omega, by dsimp only; omega, by dsimp only; omega, by dsimp only; omega⟩
      go_wp2_with fail
      clear p0 p1 p2 p3 p4 p5 p6 p7
      refine wp_region_near (by kernel_rfl) (by kernel_rfl) ?_
      repeat (go_big_quiet_step (first | (go_at_call 31; exact near_call (HMA.out _ ((HM.out.on bc).on (NearW.h _))))))
      refine wpQuiet_nil ?_
      rintro _ ⟨nw, rfl⟩
      go_wp2
      go_ret
      exact ⟨rfl, bc.trans (nw.h.mono bc.size)⟩
end Go.Proofs.Ytlkmipcenlhacaa
