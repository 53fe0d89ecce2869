/-
  The statement of rounds of package cstate. Condition: the array of widths holds what the program's text lays.
-/
import Derived.Test.YteigekhfamapmaaDoorB8
namespace Go.Proofs.YteigekhfamapmaaDoor
open Go.RowKit

set_option maxRecDepth 8000 in
set_option maxHeartbeats 4000000 in
theorem round_law (c : CS) (n node : Int) (w : World) (hT : WTab w) : Calls Tryd.prog 6 #[.agg c.cells, .int .i64 n, .int .i64 node] w fun e w' => e = .returned (.bool true) ∧ Below w.heap.size w w' := by
  have hck := fun W => checkC_any c n W
  have hbg := fun (W : World) (h : Below w.heap.size w W) => begun_any W (hT.on h)
  have hst := fun k W => stepC_any (atC c n k) n W
  have hsc := fun k W => checkC_any (atC c n k) n W
  have hss := fun k W => slotsC_any (atC c n k) (atC c n (k + 1)) n W
  have hw1 := fun W => withC_any c node W
  have hw2 := fun W => withoutC_any c node W
  have hw3 := fun W => checkC_any (withC c node) n W
  have hw4 := fun W => checkC_any (withoutC c node) n W
  have hw5 := fun W => hasC_any (withC c node) node W
  have hw6 := fun W => hasC_any (withoutC c node) node W
  have k1 : Blk (w.alloc (.cells c.cells 23)) w.heap.size 23 c.cells := Blk.new w _ _
  have b1 := Below.al w (.cells c.cells 23)
  by_cases h0 : checkC c n = 0
  · have hmay : ∀ k : Nat, (k : Int) ≤ n → checkC (atC c n k) n = 0 := by
      intro k
      induction k with
      | zero => intro _; rw [atC_zero (checkC_zero h0).2.2.2.2.2.1]; exact h0
      | succ k ih =>
        intro hk
        rw [← atC_next (checkC_zero h0).2.2.2.2.2.1 (by omega)]
        exact gone_may (ih (by omega))
    have hn4 := (checkC_zero h0).1
    have hn8 := (checkC_zero h0).2.1
    have hP0 := (checkC_zero h0).2.2.2.2.1
    have hP := (checkC_zero h0).2.2.2.2.2.1
    have hX0 := (checkC_zero h0).2.2.2.2.2.2.2.2.1
    have hT0 := (checkC_zero h0).2.2.1
    have hT1 := (checkC_zero h0).2.2.2.1
    have hX1 := (checkC_zero h0).2.2.2.2.2.2.2.2.2.1
    have hst' : ∀ k : Nat, (k : Int) < n → ∀ W, Calls Tryd.prog 15 #[.agg (atC c n k).cells, .int .i64 n] W (ResC W (0, atC c n (k + 1))) := by
      intro k hk W
      have := hst k W
      rw [stepC, if_pos (hmay k (by omega)), atC_next hP hk] at this
      exact this
    have hss' : ∀ k : Nat, (k : Int) < n → ∀ W, Calls Tryd.prog 17 #[.agg (atC c n k).cells, .agg (atC c n (k + 1)).cells, .int .i64 n] W fun e w' => e = .returned (.tuple #[.int .i64 1, .int .i64 0]) ∧ Below W.heap.size W w' := by
      intro k hk W
      have := hss k W
      rw [← atC_next hP hk, gone_slots (hmay k (by omega))] at this
      rw [← atC_next hP hk]
      exact this
    have hsc' : ∀ k : Nat, (k : Int) ≤ n → ∀ W, Calls Tryd.prog 12 #[.agg (atC c n k).cells, .int .i64 n] W fun e w' => e = .returned (.int .i64 0) ∧ Below W.heap.size W w' := by
      intro k hk W
      have := hsc k W
      rw [hmay k hk] at this
      exact this
    rw [h0] at hck
    have hz := atC_zero hP
    have hf := atC_full hP0 (n := n) (by omega)
    have hwm := fun hk => with_may (k := node) h0 hk
    clear hst hss hsc hmay
    have HST := Lib.hid hst'; have HSS := Lib.hid hss'; have HSC := Lib.hid hsc'; have HZ := Lib.hid hz; have HF := Lib.hid hf; have HWM := Lib.hid hwm; have HCK := Lib.hid hck; have HBG := Lib.hid hbg
    have HW1 := Lib.hid hw1; have HW2 := Lib.hid hw2; have HW3 := Lib.hid hw3; have HW4 := Lib.hid hw4; have HW5 := Lib.hid hw5; have HW6 := Lib.hid hw6
    clear hst' hss' hsc' hz hf hwm hck hbg hw1 hw2 hw3 hw4 hw5 hw6 hT h0
    obtain ⟨S, hS⟩ : ∃ S, S = atC c n := ⟨_, rfl⟩
    rw [← hS] at HST HSS HSC HZ HF
    have HS := Lib.hid hS; clear hS
    obtain ⟨T, P, Mo, Nx, Me⟩ := c
    unfold CS.cells at k1 b1 HCK ⊢
    dsimp only at *
    go_enter Tryd.func6, Tryd.ntmps6
    go_wp2_with fail
    refine (HBG.out _ b1).mono ?_
    rintro e w1 ⟨rfl, hB1⟩
    dsimp only
    replace k1 := k1.on hB1
    replace b1 := b1.trans (hB1.mono b1.size)
    obtain ⟨⟨c0, c1, c2, c3, c4⟩, -⟩ := k1.five
    clear hB1
    go_wp2_with fail
    refine (HCK.out _).mono ?_
    rintro e w2 ⟨rfl, hB2⟩
    dsimp only
    replace k1 := k1.on hB2
    replace b1 := b1.trans (hB2.mono b1.size)
    clear c0 c1 c2 c3 c4 hB2
    obtain ⟨⟨c0, c1, c2, c3, c4⟩, -⟩ := k1.five
    have k7 := Blk.new w2 23 #[.int .i64 T, .int .i64 P, .int .i64 Mo, .int .i64 Nx, .int .i64 Me]
    have b7 := Below.al w2 (.cells #[.int .i64 T, .int .i64 P, .int .i64 Mo, .int .i64 Nx, .int .i64 Me] 23)
    have k17 := k1.on b7
    have b17 := b1.trans (b7.mono b1.size)
    have z1 := k1.lt
    go_wp2_with fail
    clear b7
    generalize w2.alloc (.cells #[.int .i64 T, .int .i64 P, .int .i64 Mo, .int .i64 Nx, .int .i64 Me] 23) = w3 at *
    generalize w2.heap.size = g7 at *
    have hg7 : w.heap.size < g7 := z1
    clear z1 k1 b1 c0 c1 c2 c3 c4
    go_loopw [24] (fun i wr => ∃ k : Nat, (k : Int) ≤ n ∧ i = .int .i64 k ∧ Blk wr g7 23 (S k).cells ∧ Blk wr w.heap.size 23 #[.int .i64 T, .int .i64 P, .int .i64 Mo, .int .i64 Nx, .int .i64 Me] ∧ Below w.heap.size w wr)
      (fun i _ => n.toNat - (intOf i).toNat)
    case atStart => exact ⟨0, by omega, rfl, by rw [HZ.out]; exact k7, k17, b17⟩
    case round =>
      obtain ⟨k, hk, rfl, h7, h1, hB⟩ := hrel
      clear k7 k17 b17
      by_cases hlt : (k : Int) < n
      · have hst := HST.out k hlt; have hss := HSS.out k hlt; have hsc := HSC.out (k + 1) (by omega)
        obtain ⟨s, hs⟩ : ∃ s, s = S k := ⟨_, rfl⟩
        obtain ⟨t, ht⟩ : ∃ t, t = S (k + 1) := ⟨_, rfl⟩
        rw [← hs] at hst hss h7
        rw [← ht] at hst hss hsc
        have HS1 := Lib.hid hs; have HT1 := Lib.hid ht; clear hs ht
        obtain ⟨s0, s1, s2, s3, s4⟩ := s
        obtain ⟨t0, t1, t2, t3, t4⟩ := t
        unfold ResC at hst
        unfold CS.cells at hst hss hsc h7
        dsimp only at hst hss hsc h7
        have H1 := Lib.hid hst; have H2 := Lib.hid hss; have H3 := Lib.hid hsc; clear hst hss hsc
        obtain ⟨⟨c0, c1, c2, c3, c4⟩, -⟩ := h7.five
        go_wp2_with fail
        refine (H1.out _).mono ?_
        rintro e w4 ⟨rfl, hB4⟩
        dsimp only
        clear c0 c1 c2 c3 c4
        have z7 : g7 < wr.heap.size := h7.lt
        replace h7 := h7.on hB4
        replace h1 := h1.on hB4
        have b4 := hB.trans (hB4.mono hB.size)
        have z4 : g7 < w4.heap.size := h7.lt
        have k8 := Blk.new w4 23 #[.int .i64 t0, .int .i64 t1, .int .i64 t2, .int .i64 t3, .int .i64 t4]
        have hal := Below.al w4 (.cells #[.int .i64 t0, .int .i64 t1, .int .i64 t2, .int .i64 t3, .int .i64 t4] 23)
        have h78 := h7.on hal
        have h18 := h1.on hal
        have b48 := b4.trans (hal.mono b4.size)
        clear h7 h1 b4 hB4 hal
        go_wp2_with fail
        generalize w4.alloc (.cells #[.int .i64 t0, .int .i64 t1, .int .i64 t2, .int .i64 t3, .int .i64 t4] 23) = w5 at *
        refine (H3.out _).mono ?_
        rintro e w6 ⟨rfl, hB6⟩
        dsimp only
        have h7 := h78.on hB6; have h8 := k8.on hB6; have h1 := h18.on hB6
        have b6 := b48.trans (hB6.mono b48.size)
        clear h78 k8 h18 hB6 b48
        obtain ⟨⟨c0, c1, c2, c3, c4⟩, -⟩ := h7.five
        obtain ⟨⟨d0, d1, d2, d3, d4⟩, -⟩ := h8.five
        go_wp2_with fail
        refine (H2.out _).mono ?_
        rintro e w7 ⟨rfl, hB7⟩
        dsimp only
        clear c0 c1 c2 c3 c4 d0 d1 d2 d3 d4
        replace h7 := h7.on hB7; replace h8 := h8.on hB7; replace h1 := h1.on hB7
        replace b6 := b6.trans (hB7.mono b6.size)
        clear hB7
        obtain ⟨⟨c0, c1, c2, c3, c4⟩, f0, f1, f2, f3, f4⟩ := h7.five
        obtain ⟨⟨d0, d1, d2, d3, d4⟩, -⟩ := h8.five
        have y7 := h7.lt
        go_wp2
        go_roundw
        case rel =>
          refine ⟨k + 1, by omega, by go_num, ?_, h1.far5 (by omega) _ _ _ _ _, Below.put5 b6 (by omega) _ _ _ _ _⟩
          rw [← HT1.out]
          exact h7.put5 _ _ _ _ _
        case measure => simp [intOf]; omega
      · have hkn : k = n.toNat := by omega
        rw [hkn, HF.out] at h7
        have hdl : decide ((k : Int) < n) = false := by simp; omega
        have htm : IntKind.i64.wrap ((T + 1).tmod 256) = (T + 1) % 256 := by
          rw [Int.tmod_eq_emod_of_nonneg (by omega), IntWalk.i64_in _ (by omega)]
        unfold CS.cells at h7
        dsimp only at h7
        clear hkn hlt
        obtain ⟨⟨c0, c1, c2, c3, c4⟩, -⟩ := h1.five
        by_cases hx : Nx = 0
        · rw [if_pos hx] at h7
          subst hx
          clear HF HS HZ HST HSS HSC HCK HBG
          by_cases hno : node < 0
          · have dn : decide (0 ≤ node) = false := by simp; omega
            obtain ⟨⟨d0, d1, d2, d3, d4⟩, -⟩ := h7.five
            go_wp2
            go_ret
            exact ⟨rfl, hB⟩
          · have dn : decide (0 ≤ node) = true := by simp; omega
            by_cases hnn : node < n
            · have dm : decide (node < n) = true := by simp; omega
              have hwm := HWM.out ⟨by omega, by omega⟩
              have h3 := HW3.out; have h4 := HW4.out; have h5 := HW5.out; have h6 := HW6.out; have h1' := HW1.out; have h2' := HW2.out
              rw [hwm.1] at h3; rw [hwm.2.1] at h4; rw [hwm.2.2.1] at h5; rw [hwm.2.2.2] at h6
              generalize withC ⟨T, P, Mo, 0, Me⟩ node = wc at h3 h5 h1'
              generalize withoutC ⟨T, P, Mo, 0, Me⟩ node = oc at h4 h6 h2'
              rw [CS.cells] at h1' h2'
              dsimp only at h1' h2'
              have G1 := Lib.hid h1'; have G2 := Lib.hid h2'; have G3 := Lib.hid h3; have G4 := Lib.hid h4; have G5 := Lib.hid h5; have G6 := Lib.hid h6; clear h3 h4 h5 h6 h1' h2' hwm
              clear HW1 HW2 HW3 HW4 HW5 HW6 HWM
              go_wp2_with fail
              refine (G1.out _).mono ?_
              rintro e wq ⟨rfl, hBq⟩
              dsimp only
              clear c0 c1 c2 c3 c4
              replace h1 := h1.on hBq; replace h7 := h7.on hBq; replace hB := hB.trans (hBq.mono hB.size)
              clear hBq
              obtain ⟨⟨c0, c1, c2, c3, c4⟩, -⟩ := h1.five
              go_wp2_with fail
              refine (G3.out _).mono ?_
              rintro e wq ⟨rfl, hBq⟩
              dsimp only
              clear c0 c1 c2 c3 c4
              replace h1 := h1.on hBq; replace h7 := h7.on hBq; replace hB := hB.trans (hBq.mono hB.size)
              clear hBq
              obtain ⟨⟨c0, c1, c2, c3, c4⟩, -⟩ := h1.five
              go_wp2_with fail
              refine (G2.out _).mono ?_
              rintro e wq ⟨rfl, hBq⟩
              dsimp only
              clear c0 c1 c2 c3 c4
              replace h1 := h1.on hBq; replace h7 := h7.on hBq; replace hB := hB.trans (hBq.mono hB.size)
              clear hBq
              obtain ⟨⟨c0, c1, c2, c3, c4⟩, -⟩ := h1.five
              go_wp2_with fail
              refine (G4.out _).mono ?_
              rintro e wq ⟨rfl, hBq⟩
              dsimp only
              clear c0 c1 c2 c3 c4
              replace h1 := h1.on hBq; replace h7 := h7.on hBq; replace hB := hB.trans (hBq.mono hB.size)
              clear hBq
              obtain ⟨⟨c0, c1, c2, c3, c4⟩, -⟩ := h1.five
              go_wp2_with fail
              refine (G1.out _).mono ?_
              rintro e wq ⟨rfl, hBq⟩
              dsimp only
              clear c0 c1 c2 c3 c4
              replace h1 := h1.on hBq; replace h7 := h7.on hBq; replace hB := hB.trans (hBq.mono hB.size)
              clear hBq
              obtain ⟨⟨c0, c1, c2, c3, c4⟩, -⟩ := h1.five
              go_wp2_with fail
              refine (G5.out _).mono ?_
              rintro e wq ⟨rfl, hBq⟩
              dsimp only
              clear c0 c1 c2 c3 c4
              replace h1 := h1.on hBq; replace h7 := h7.on hBq; replace hB := hB.trans (hBq.mono hB.size)
              clear hBq
              obtain ⟨⟨c0, c1, c2, c3, c4⟩, -⟩ := h1.five
              go_wp2_with fail
              refine (G2.out _).mono ?_
              rintro e wq ⟨rfl, hBq⟩
              dsimp only
              clear c0 c1 c2 c3 c4
              replace h1 := h1.on hBq; replace h7 := h7.on hBq; replace hB := hB.trans (hBq.mono hB.size)
              clear hBq
              obtain ⟨⟨c0, c1, c2, c3, c4⟩, -⟩ := h1.five
              go_wp2_with fail
              refine (G6.out _).mono ?_
              rintro e wq ⟨rfl, hBq⟩
              dsimp only
              clear c0 c1 c2 c3 c4
              replace h1 := h1.on hBq; replace h7 := h7.on hBq; replace hB := hB.trans (hBq.mono hB.size)
              clear hBq
              obtain ⟨⟨c0, c1, c2, c3, c4⟩, -⟩ := h1.five
              obtain ⟨⟨d0, d1, d2, d3, d4⟩, -⟩ := h7.five
              go_wp2
              go_ret
              exact ⟨rfl, hB⟩
            · have dm : decide (node < n) = false := by simp; omega
              obtain ⟨⟨d0, d1, d2, d3, d4⟩, -⟩ := h7.five
              go_wp2
              go_ret
              exact ⟨rfl, hB⟩
        · rw [if_neg hx] at h7
          have dx : decide (0 < Nx) = true := by simp; omega
          clear HF HS HZ HST HSS HSC HCK HBG
          by_cases hno : node < 0
          · have dn : decide (0 ≤ node) = false := by simp; omega
            obtain ⟨⟨d0, d1, d2, d3, d4⟩, -⟩ := h7.five
            go_wp2
            go_ret
            exact ⟨rfl, hB⟩
          · have dn : decide (0 ≤ node) = true := by simp; omega
            by_cases hnn : node < n
            · have dm : decide (node < n) = true := by simp; omega
              have hwm := HWM.out ⟨by omega, by omega⟩
              have h3 := HW3.out; have h4 := HW4.out; have h5 := HW5.out; have h6 := HW6.out; have h1' := HW1.out; have h2' := HW2.out
              rw [hwm.1] at h3; rw [hwm.2.1] at h4; rw [hwm.2.2.1] at h5; rw [hwm.2.2.2] at h6
              generalize withC ⟨T, P, Mo, Nx, Me⟩ node = wc at h3 h5 h1'
              generalize withoutC ⟨T, P, Mo, Nx, Me⟩ node = oc at h4 h6 h2'
              rw [CS.cells] at h1' h2'
              dsimp only at h1' h2'
              have G1 := Lib.hid h1'; have G2 := Lib.hid h2'; have G3 := Lib.hid h3; have G4 := Lib.hid h4; have G5 := Lib.hid h5; have G6 := Lib.hid h6; clear h3 h4 h5 h6 h1' h2' hwm
              clear HW1 HW2 HW3 HW4 HW5 HW6 HWM
              go_wp2_with fail
              refine (G1.out _).mono ?_
              rintro e wq ⟨rfl, hBq⟩
              dsimp only
              clear c0 c1 c2 c3 c4
              replace h1 := h1.on hBq; replace h7 := h7.on hBq; replace hB := hB.trans (hBq.mono hB.size)
              clear hBq
              obtain ⟨⟨c0, c1, c2, c3, c4⟩, -⟩ := h1.five
              go_wp2_with fail
              refine (G3.out _).mono ?_
              rintro e wq ⟨rfl, hBq⟩
              dsimp only
              clear c0 c1 c2 c3 c4
              replace h1 := h1.on hBq; replace h7 := h7.on hBq; replace hB := hB.trans (hBq.mono hB.size)
              clear hBq
              obtain ⟨⟨c0, c1, c2, c3, c4⟩, -⟩ := h1.five
              go_wp2_with fail
              refine (G2.out _).mono ?_
              rintro e wq ⟨rfl, hBq⟩
              dsimp only
              clear c0 c1 c2 c3 c4
              replace h1 := h1.on hBq; replace h7 := h7.on hBq; replace hB := hB.trans (hBq.mono hB.size)
              clear hBq
              obtain ⟨⟨c0, c1, c2, c3, c4⟩, -⟩ := h1.five
              go_wp2_with fail
              refine (G4.out _).mono ?_
              rintro e wq ⟨rfl, hBq⟩
              dsimp only
              clear c0 c1 c2 c3 c4
              replace h1 := h1.on hBq; replace h7 := h7.on hBq; replace hB := hB.trans (hBq.mono hB.size)
              clear hBq
              obtain ⟨⟨c0, c1, c2, c3, c4⟩, -⟩ := h1.five
              go_wp2_with fail
              refine (G1.out _).mono ?_
              rintro e wq ⟨rfl, hBq⟩
              dsimp only
              clear c0 c1 c2 c3 c4
              replace h1 := h1.on hBq; replace h7 := h7.on hBq; replace hB := hB.trans (hBq.mono hB.size)
              clear hBq
              obtain ⟨⟨c0, c1, c2, c3, c4⟩, -⟩ := h1.five
              go_wp2_with fail
              refine (G5.out _).mono ?_
              rintro e wq ⟨rfl, hBq⟩
              dsimp only
              clear c0 c1 c2 c3 c4
              replace h1 := h1.on hBq; replace h7 := h7.on hBq; replace hB := hB.trans (hBq.mono hB.size)
              clear hBq
              obtain ⟨⟨c0, c1, c2, c3, c4⟩, -⟩ := h1.five
              go_wp2_with fail
              refine (G2.out _).mono ?_
              rintro e wq ⟨rfl, hBq⟩
              dsimp only
              clear c0 c1 c2 c3 c4
              replace h1 := h1.on hBq; replace h7 := h7.on hBq; replace hB := hB.trans (hBq.mono hB.size)
              clear hBq
              obtain ⟨⟨c0, c1, c2, c3, c4⟩, -⟩ := h1.five
              go_wp2_with fail
              refine (G6.out _).mono ?_
              rintro e wq ⟨rfl, hBq⟩
              dsimp only
              clear c0 c1 c2 c3 c4
              replace h1 := h1.on hBq; replace h7 := h7.on hBq; replace hB := hB.trans (hBq.mono hB.size)
              clear hBq
              obtain ⟨⟨c0, c1, c2, c3, c4⟩, -⟩ := h1.five
              obtain ⟨⟨d0, d1, d2, d3, d4⟩, -⟩ := h7.five
              go_wp2
              go_ret
              exact ⟨rfl, hB⟩
            · have dm : decide (node < n) = false := by simp; omega
              obtain ⟨⟨d0, d1, d2, d3, d4⟩, -⟩ := h7.five
              go_wp2
              go_ret
              exact ⟨rfl, hB⟩
  · have d1 : (checkC c n == 0) = false := by simpa using h0
    clear hst hsc hss hw1 hw2 hw3 hw4 hw5 hw6
    generalize checkC c n = ce at *
    have HCK := Lib.hid hck; have HBG := Lib.hid hbg; clear hck hbg
    obtain ⟨T, P, Mo, Nx, Me⟩ := c
    unfold CS.cells at *
    dsimp only at *
    go_enter Tryd.func6, Tryd.ntmps6
    go_wp2_with fail
    refine (HBG.out _ b1).mono ?_
    rintro e w1 ⟨rfl, hB1⟩
    dsimp only
    replace k1 := k1.on hB1
    replace b1 := b1.trans (hB1.mono b1.size)
    obtain ⟨⟨c0, c1, c2, c3, c4⟩, -⟩ := k1.five
    clear hB1
    go_wp2_with fail
    refine (HCK.out _).mono ?_
    rintro e w2 ⟨rfl, hB2⟩
    dsimp only
    replace b1 := b1.trans (hB2.mono b1.size)
    clear c0 c1 c2 c3 c4 hB2 k1
    go_wp2_with fail
    refine (HBG.out _ b1).mono ?_
    rintro e w3 ⟨rfl, hB3⟩
    dsimp only
    go_wp2
    go_ret
    exact ⟨rfl, b1.trans (hB3.mono b1.size)⟩
end Go.Proofs.YteigekhfamapmaaDoor
