/-
  The statement of the grid, of package sched. Condition: places that are small numbers.
-/
import Derived.Test.YtjdhodobfkkoiaaSW
namespace Go.Proofs.Ytjdhodobfkkoiaa
open Go.RowKit

theorem slotS_ok {g : Gr} {k : Int} (h : (slotS g k).1 = 0) : okG g ∧ 0 ≤ k ∧ k < (1099511627776 - g.1) / g.2.1 ∧ (slotS g k).2 = slotAt g k := by
  unfold slotS at h ⊢
  split at h
  · rename_i hg
    rw [if_pos hg]
    split at h
    · simp at h
    · rename_i h0
      rw [if_neg h0]
      split at h
      · simp at h
      · rename_i h1
        rw [if_neg h1]
        exact ⟨hg, by omega, by omega, rfl⟩
  · simp at h
theorem grid_has (g : Gr) (t : Int) (h1 : (slotOfS g t).1 = 0) (h2 : (slotS g (slotOfS g t).2).1 = 0) : ¬ t < (slotS g (slotOfS g t).2).2.1 ∧ ¬ (slotS g (slotOfS g t).2).2.2 ≤ t := by
  obtain ⟨⟨_, ⟨b1, b2⟩, _⟩, _, _, e⟩ := slotS_ok h2
  rw [e]
  unfold slotOfS at h1 ⊢
  split at h1
  · rename_i hg
    rw [if_pos hg]
    split at h1
    · simp at h1
    · rename_i c0
      rw [if_neg c0]
      split at h1
      · simp at h1
      · rename_i c1
        rw [if_neg c1]
        unfold slotAt; dsimp only
        have m1 := Int.ediv_mul_le (t - g.1) (show g.2.1 ≠ 0 by omega)
        have m2 := Int.lt_ediv_add_one_mul_self (t - g.1) (show 0 < g.2.1 by omega)
        rw [Int.add_mul, Int.one_mul] at m2
        omega
  · simp at h1
theorem grid_meets (g : Gr) (i j : Nat) (h1 : (slotS g i).1 = 0) (h2 : (slotS g j).1 = 0) : meetsS (slotS g i).2 (slotS g j).2 = decide (i = j) := by
  obtain ⟨⟨⟨a1, a2⟩, ⟨b1, b2⟩, _⟩, i0, i1, e⟩ := slotS_ok h1
  obtain ⟨_, j0, j1, e2⟩ := slotS_ok h2
  rw [e, e2]
  have r1 := slot_room b1 i1
  have r2 := slot_room b1 j1
  have p1 : 0 ≤ (i : Int) * g.2.1 := Int.mul_nonneg (by omega) (by omega)
  have p2 : 0 ≤ (j : Int) * g.2.1 := Int.mul_nonneg (by omega) (by omega)
  have o1 : okS (slotAt g i) := by unfold okS slotAt; dsimp only; omega
  have o2 : okS (slotAt g j) := by unfold okS slotAt; dsimp only; omega
  unfold meetsS
  rw [decide_eq_true o1, decide_eq_true o2, Bool.true_and, Bool.true_and, decide_eq_decide]
  unfold bothS slotAt; dsimp only
  rcases Nat.lt_trichotomy i j with h | h | h
  · have m : ((i : Int) + 1) * g.2.1 ≤ (j : Int) * g.2.1 := Int.mul_le_mul_of_nonneg_right (by omega) (by omega)
    rw [Int.add_mul, Int.one_mul] at m
    omega
  · subst h; omega
  · have m : ((j : Int) + 1) * g.2.1 ≤ (i : Int) * g.2.1 := Int.mul_le_mul_of_nonneg_right (by omega) (by omega)
    rw [Int.add_mul, Int.one_mul] at m
    omega
theorem nextS_ok {g : Gr} {t pos : Int} (h : (nextS g t pos).1 = 0) : okG g ∧ 0 ≤ pos ∧ pos < g.2.2 ∧ 0 ≤ t ∧ t ≤ 1099511627776 ∧ (nextS g t pos).2 = firstS g t + hop (firstS g t) g.2.2 pos := by
  unfold nextS at h ⊢
  split at h
  · rename_i hg
    rw [if_pos hg]
    split at h
    · simp at h
    · rename_i c0
      rw [if_neg c0]
      split at h
      · simp at h
      · rename_i c1
        rw [if_neg c1]
        split at h
        · simp at h
        · rename_i c2
          rw [if_neg c2]
          split at h
          · simp at h
          · rename_i c3
            rw [if_neg c3]
            exact ⟨hg, by omega, by omega, by omega, by omega, rfl⟩
  · simp at h
theorem next_mod (g : Gr) (t pos : Int) (h : (nextS g t pos).1 = 0) : 0 ≤ (nextS g t pos).2 ∧ (nextS g t pos).2 % g.2.2 = pos ∧ (nextS g t pos).2 ≤ 1099511627776 + 8 ∧ 4 ≤ g.2.2 ∧ g.2.2 ≤ 8 := by
  obtain ⟨⟨⟨a1, a2⟩, ⟨b1, b2⟩, n1, n2⟩, p0, p1, t0, t1, e⟩ := nextS_ok h
  rw [e]
  obtain ⟨f1, _, f3⟩ := first_bound (a := g.1) (b := g.2.1) (n := g.2.2) (t := t) a1 b1 t1
  have hh := hop_in (k0 := firstS g t) (n := g.2.2) (pos := pos) (by omega)
  have f1' : 0 ≤ firstS g t := f1
  have f3' : firstS g t ≤ 1099511627776 := f3
  exact ⟨by omega, hop_hit p0 p1, by omega, n1, n2⟩
theorem next_from (g : Gr) (t pos : Int) (h : (nextS g t pos).1 = 0) (h2 : (slotS g (nextS g t pos).2).1 = 0) : ¬ (slotS g (nextS g t pos).2).2.1 < t := by
  obtain ⟨_, _, _, e2⟩ := slotS_ok h2
  rw [e2]
  obtain ⟨⟨⟨a1, a2⟩, ⟨b1, b2⟩, n1, n2⟩, p0, p1, t0, t1, e⟩ := nextS_ok h
  rw [e]
  have hh := hop_in (k0 := firstS g t) (n := g.2.2) (pos := pos) (by omega)
  have hm : firstS g t * g.2.1 ≤ (firstS g t + hop (firstS g t) g.2.2 pos) * g.2.1 := Int.mul_le_mul_of_nonneg_right (by omega) (by omega)
  have hf : t ≤ g.1 + firstS g t * g.2.1 := by
    unfold firstS
    split
    · rw [Int.zero_mul]; omega
    · have m2 := Int.lt_ediv_add_one_mul_self (t - g.1 - 1) (show 0 < g.2.1 by omega)
      omega
  unfold slotAt; dsimp only
  omega
theorem next_before (g : Gr) (t pos : Int) (h : (nextS g t pos).1 = 0) (hk : g.2.2 ≤ (nextS g t pos).2) (h2 : (slotS g ((nextS g t pos).2 - g.2.2)).1 = 0) : (slotS g ((nextS g t pos).2 - g.2.2)).2.1 < t := by
  obtain ⟨_, _, _, e2⟩ := slotS_ok h2
  rw [e2]
  obtain ⟨⟨⟨a1, a2⟩, ⟨b1, b2⟩, n1, n2⟩, p0, p1, t0, t1, e⟩ := nextS_ok h
  rw [e] at hk ⊢
  have hh := hop_in (k0 := firstS g t) (n := g.2.2) (pos := pos) (by omega)
  have hm : (firstS g t + hop (firstS g t) g.2.2 pos - g.2.2) * g.2.1 ≤ (firstS g t - 1) * g.2.1 := Int.mul_le_mul_of_nonneg_right (by omega) (by omega)
  have hf : g.1 + (firstS g t - 1) * g.2.1 < t := by
    generalize hop (firstS g t) g.2.2 pos = hp at *
    unfold firstS at hk ⊢
    split at hk
    · omega
    · rename_i c
      rw [if_neg c, show (t - g.1 - 1) / g.2.1 + 1 - 1 = (t - g.1 - 1) / g.2.1 by omega]
      have m1 := Int.ediv_mul_le (t - g.1 - 1) (show g.2.1 ≠ 0 by omega)
      omega
  unfold slotAt; dsimp only
  omega
set_option maxRecDepth 100000 in
set_option maxHeartbeats 40000000 in
theorem grid_law (a b n t : Int) (s0 s1 : Nat) (pos : Int) (w : World) (hs0 : s0 < 65536) (hs1 : s1 < 65536) :
    Calls Try.prog 7 #[vG a b n, .int .i64 t, .int .u16 s0, .int .u16 s1, .int .i64 pos] w fun e w' => e = .returned (.bool true) ∧ Below w.heap.size w w' := by
  have h1 := fun W => sslotOf_any a b n t W
  have hs := fun (k : Int) W => slot_any a b n k W
  have h5 := fun W => next_any a b n t pos W
  have f1 := grid_has (a, b, n) t
  have f2 := grid_meets (a, b, n) s0 s1
  have f3 := next_mod (a, b, n) t pos
  have f4 := next_from (a, b, n) t pos
  have f5 := next_before (a, b, n) t pos
  dsimp only at f3 f5
  have h2 := hs (slotOfS (a, b, n) t).2
  have h3 := hs s0
  have h4 := hs s1
  have h6 := hs (nextS (a, b, n) t pos).2
  have h7 := hs ((nextS (a, b, n) t pos).2 - n)
  clear hs
  generalize slotOfS (a, b, n) t = r1 at *
  obtain ⟨e1, k1⟩ := r1
  dsimp only at h1 h2 f1
  generalize nextS (a, b, n) t pos = r5 at *
  obtain ⟨e5, k5⟩ := r5
  dsimp only at h5 h6 h7 f3 f4 f5
  generalize slotS (a, b, n) k1 = r2 at *
  generalize slotS (a, b, n) (s0 : Int) = r3 at *
  generalize slotS (a, b, n) (s1 : Int) = r4 at *
  generalize slotS (a, b, n) (k5 - n) = r7 at *
  generalize slotS (a, b, n) k5 = r6 at *
  obtain ⟨e2, x2, y2⟩ := r2
  obtain ⟨e3, x3, y3⟩ := r3
  obtain ⟨e4, x4, y4⟩ := r4
  obtain ⟨e6, x6, y6⟩ := r6
  obtain ⟨e7, x7, y7⟩ := r7
  dsimp only at h2 h3 h4 h6 h7 f1 f2 f4 f5
  have hme := fun W => meets_any x3 y3 x4 y4 W
  have c0 : IntKind.i64.wrap (s0 : Int) = (s0 : Int) := IntWalk.i64_in _ (by omega)
  have c1 : IntKind.i64.wrap (s1 : Int) = (s1 : Int) := IntWalk.i64_in _ (by omega)
  have H1 := Lib.hid h1; have H2 := Lib.hid h2; have H3 := Lib.hid h3; have H4 := Lib.hid h4; have H5 := Lib.hid h5; have H6 := Lib.hid h6; have H7 := Lib.hid h7
  have F1 := Lib.hid f1; have F2 := Lib.hid f2; have F3 := Lib.hid f3; have F4 := Lib.hid f4; have F5 := Lib.hid f5; have HME := Lib.hid hme
  clear h1 h2 h3 h4 h5 h6 h7 f1 f2 f3 f4 f5 hme hs0 hs1
  obtain ⟨kg, bc⟩ := bx1 w #[.int .i64 a, .int .i64 b, .int .i64 n] 41
  go_enter Try.func7, Try.ntmps7
  go_wp2_with fail
  generalize w.alloc _ = u0 at *
  skip
  refine (sbegun_any _).mono ?_
  rintro e w0 ⟨rfl, hC⟩
  dsimp only
  replace kg := kg.on hC; replace bc := below_then bc hC; clear hC
  obtain ⟨p0, p1, p2, -, -, -⟩ := kg.three
  go_wp2_with fail
  refine (H1.out _).mono ?_
  rintro e w1 ⟨rfl, hC⟩
  dsimp only
  replace kg := kg.on hC; replace bc := below_then bc hC; clear hC
  clear p0 p1 p2
  by_cases q1 : e1 = 0
  · subst q1
    obtain ⟨p0, p1, p2, -, -, -⟩ := kg.three
    go_wp2_with fail
    refine (H2.out _).mono ?_
    rintro e w2 ⟨rfl, hC⟩
    dsimp only
    replace kg := kg.on hC; replace bc := below_then bc hC; clear hC
    clear p0 p1 p2
    have k2 := Blk.new w2 23 #[.int .i64 x2, .int .i64 y2]
    have al := Below.al w2 (.cells #[.int .i64 x2, .int .i64 y2] 23)
    replace kg := kg.on al; replace bc := below_then bc al; clear al
    by_cases q2 : e2 = 0
    · subst q2
      obtain ⟨t0, t1⟩ := F1.out (by trivial) (by trivial)
      have d2 : decide (t < x2) = false := by simpa using t0
      have d3 : decide (y2 ≤ t) = false := by simpa using t1
      clear t0 t1 k2
      obtain ⟨p0, p1, p2, -, -, -⟩ := kg.three
      go_wp2_with fail
      refine (H3.out _).mono ?_
      rintro e w3 ⟨rfl, hC⟩
      dsimp only
      replace kg := kg.on hC; replace bc := below_then bc hC; clear hC
      clear p0 p1 p2
      have k3 := Blk.new w3 23 #[.int .i64 x3, .int .i64 y3]
      have al := Below.al w3 (.cells #[.int .i64 x3, .int .i64 y3] 23)
      replace kg := kg.on al; replace bc := below_then bc al; clear al
      obtain ⟨p0, p1, p2, -, -, -⟩ := kg.three
      go_wp2_with fail
      refine (H4.out _).mono ?_
      rintro e w4 ⟨rfl, hC⟩
      dsimp only
      replace kg := kg.on hC; replace k3 := k3.on hC; replace bc := below_then bc hC; clear hC
      clear p0 p1 p2
      have k4 := Blk.new w4 23 #[.int .i64 x4, .int .i64 y4]
      have al := Below.al w4 (.cells #[.int .i64 x4, .int .i64 y4] 23)
      replace kg := kg.on al; replace k3 := k3.on al; replace bc := below_then bc al; clear al
      by_cases q3 : e3 = 0
      · subst q3
        by_cases q4 : e4 = 0
        · subst q4
          have hme := F2.out (by trivial) (by trivial)
          rw [hme] at HME
          obtain ⟨z0, z1, -, -⟩ := k3.two
          go_wp2_with fail
          refine (HME.out _).mono ?_
          rintro e wm ⟨rfl, hC⟩
          dsimp only
          replace kg := kg.on hC; replace bc := below_then bc hC; clear hC
          clear z0 z1 hme k3 k4
          by_cases qs : s0 = s1
          · subst qs
            have g0 : decide (s0 = s0) = true := by simp
            have g1 : ((s0 : Int) == (s0 : Int)) = true := by simp
            clear g0
            obtain ⟨p0, p1, p2, -, -, -⟩ := kg.three
            go_wp2_with fail
            refine (H5.out _).mono ?_
            rintro e w5 ⟨rfl, hC⟩
            dsimp only
            replace kg := kg.on hC; replace bc := below_then bc hC; clear hC
            clear p0 p1 p2
            by_cases q5 : e5 = 0
            · subst q5
              obtain ⟨k50, k51, k52, n4, n8⟩ := F3.out (by trivial)
              have d0 : decide (k5 < 0) = false := by simp; omega
              have hn0 : n ≠ 0 := by omega
              have hd : k5.tmod n = pos := by rw [Int.tmod_eq_emod_of_nonneg k50]; exact k51
              have hwp : IntKind.i64.wrap pos = pos := IntWalk.i64_in _ (by have := Int.emod_nonneg k5 hn0; have := Int.emod_lt_of_pos k5 (show 0 < n by omega); omega)
              have hpp : (pos != pos) = false := by simp
              obtain ⟨p0, p1, p2, -, -, -⟩ := kg.three
              go_wp2_with fail
              refine (H6.out _).mono ?_
              rintro e w6 ⟨rfl, hC⟩
              dsimp only
              replace kg := kg.on hC; replace bc := below_then bc hC; clear hC
              clear p0 p1 p2
              have k6 := Blk.new w6 23 #[.int .i64 x6, .int .i64 y6]
              have al := Below.al w6 (.cells #[.int .i64 x6, .int .i64 y6] 23)
              replace kg := kg.on al; replace bc := below_then bc al; clear al
              obtain ⟨p0, p1, p2, -, -, -⟩ := kg.three
              by_cases q6 : e6 = 0
              · subst q6
                have d6 : decide (x6 < t) = false := by simpa using F4.out (by trivial) (by trivial)
                by_cases q8 : k5 < n
                · have d8 : decide (k5 < n) = true := by simpa using q8
                  go_wp2
                  go_ret
                  exact ⟨rfl, bc⟩
                · have d8 : decide (k5 < n) = false := by simpa using q8
                  have hws : IntKind.i64.wrap (k5 - n) = k5 - n := IntWalk.i64_in _ (by omega)
                  go_wp2_with fail
                  refine (H7.out _).mono ?_
                  rintro e w7 ⟨rfl, hC⟩
                  dsimp only
                  replace kg := kg.on hC; replace bc := below_then bc hC; clear hC
                  clear p0 p1 p2
                  have k7 := Blk.new w7 23 #[.int .i64 x7, .int .i64 y7]
                  have bc7 := below_then bc (Below.al w7 (.cells #[.int .i64 x7, .int .i64 y7] 23))
                  by_cases q7 : e7 = 0
                  · subst q7
                    have d7 : decide (x7 < t) = true := by simpa using F5.out (by trivial) (by omega) (by trivial)
                    go_wp2
                    go_ret
                    exact ⟨rfl, bc7⟩
                  · have b7 : (e7 != 0) = true := by simpa using q7
                    go_wp2
                    go_ret
                    exact ⟨rfl, bc7⟩
              · have b6 : (e6 == 0) = false := by simpa using q6
                by_cases q8 : k5 < n
                · have d8 : decide (k5 < n) = true := by simpa using q8
                  go_wp2
                  go_ret
                  exact ⟨rfl, bc⟩
                · have d8 : decide (k5 < n) = false := by simpa using q8
                  have hws : IntKind.i64.wrap (k5 - n) = k5 - n := IntWalk.i64_in _ (by omega)
                  go_wp2_with fail
                  refine (H7.out _).mono ?_
                  rintro e w7 ⟨rfl, hC⟩
                  dsimp only
                  replace kg := kg.on hC; replace bc := below_then bc hC; clear hC
                  clear p0 p1 p2
                  have k7 := Blk.new w7 23 #[.int .i64 x7, .int .i64 y7]
                  have bc7 := below_then bc (Below.al w7 (.cells #[.int .i64 x7, .int .i64 y7] 23))
                  by_cases q7 : e7 = 0
                  · subst q7
                    have d7 : decide (x7 < t) = true := by simpa using F5.out (by trivial) (by omega) (by trivial)
                    go_wp2
                    go_ret
                    exact ⟨rfl, bc7⟩
                  · have b7 : (e7 != 0) = true := by simpa using q7
                    go_wp2
                    go_ret
                    exact ⟨rfl, bc7⟩
            · have b5 : (e5 != 0) = true := by simpa using q5
              go_wp2
              go_ret
              exact ⟨rfl, bc⟩
          · have g0 : decide (s0 = s1) = false := by simpa using qs
            have g1 : ((s0 : Int) == (s1 : Int)) = false := by rw [beq_eq_false_iff_ne]; omega
            have g2 : (s0 == s1) = false := by simpa using qs
            obtain ⟨p0, p1, p2, -, -, -⟩ := kg.three
            go_wp2_with fail
            refine (H5.out _).mono ?_
            rintro e w5 ⟨rfl, hC⟩
            dsimp only
            replace kg := kg.on hC; replace bc := below_then bc hC; clear hC
            clear p0 p1 p2
            by_cases q5 : e5 = 0
            · subst q5
              obtain ⟨k50, k51, k52, n4, n8⟩ := F3.out (by trivial)
              have d0 : decide (k5 < 0) = false := by simp; omega
              have hn0 : n ≠ 0 := by omega
              have hd : k5.tmod n = pos := by rw [Int.tmod_eq_emod_of_nonneg k50]; exact k51
              have hwp : IntKind.i64.wrap pos = pos := IntWalk.i64_in _ (by have := Int.emod_nonneg k5 hn0; have := Int.emod_lt_of_pos k5 (show 0 < n by omega); omega)
              have hpp : (pos != pos) = false := by simp
              obtain ⟨p0, p1, p2, -, -, -⟩ := kg.three
              go_wp2_with fail
              refine (H6.out _).mono ?_
              rintro e w6 ⟨rfl, hC⟩
              dsimp only
              replace kg := kg.on hC; replace bc := below_then bc hC; clear hC
              clear p0 p1 p2
              have k6 := Blk.new w6 23 #[.int .i64 x6, .int .i64 y6]
              have al := Below.al w6 (.cells #[.int .i64 x6, .int .i64 y6] 23)
              replace kg := kg.on al; replace bc := below_then bc al; clear al
              obtain ⟨p0, p1, p2, -, -, -⟩ := kg.three
              by_cases q6 : e6 = 0
              · subst q6
                have d6 : decide (x6 < t) = false := by simpa using F4.out (by trivial) (by trivial)
                by_cases q8 : k5 < n
                · have d8 : decide (k5 < n) = true := by simpa using q8
                  go_wp2
                  go_ret
                  exact ⟨rfl, bc⟩
                · have d8 : decide (k5 < n) = false := by simpa using q8
                  have hws : IntKind.i64.wrap (k5 - n) = k5 - n := IntWalk.i64_in _ (by omega)
                  go_wp2_with fail
                  refine (H7.out _).mono ?_
                  rintro e w7 ⟨rfl, hC⟩
                  dsimp only
                  replace kg := kg.on hC; replace bc := below_then bc hC; clear hC
                  clear p0 p1 p2
                  have k7 := Blk.new w7 23 #[.int .i64 x7, .int .i64 y7]
                  have bc7 := below_then bc (Below.al w7 (.cells #[.int .i64 x7, .int .i64 y7] 23))
                  by_cases q7 : e7 = 0
                  · subst q7
                    have d7 : decide (x7 < t) = true := by simpa using F5.out (by trivial) (by omega) (by trivial)
                    go_wp2
                    go_ret
                    exact ⟨rfl, bc7⟩
                  · have b7 : (e7 != 0) = true := by simpa using q7
                    go_wp2
                    go_ret
                    exact ⟨rfl, bc7⟩
              · have b6 : (e6 == 0) = false := by simpa using q6
                by_cases q8 : k5 < n
                · have d8 : decide (k5 < n) = true := by simpa using q8
                  go_wp2
                  go_ret
                  exact ⟨rfl, bc⟩
                · have d8 : decide (k5 < n) = false := by simpa using q8
                  have hws : IntKind.i64.wrap (k5 - n) = k5 - n := IntWalk.i64_in _ (by omega)
                  go_wp2_with fail
                  refine (H7.out _).mono ?_
                  rintro e w7 ⟨rfl, hC⟩
                  dsimp only
                  replace kg := kg.on hC; replace bc := below_then bc hC; clear hC
                  clear p0 p1 p2
                  have k7 := Blk.new w7 23 #[.int .i64 x7, .int .i64 y7]
                  have bc7 := below_then bc (Below.al w7 (.cells #[.int .i64 x7, .int .i64 y7] 23))
                  by_cases q7 : e7 = 0
                  · subst q7
                    have d7 : decide (x7 < t) = true := by simpa using F5.out (by trivial) (by omega) (by trivial)
                    go_wp2
                    go_ret
                    exact ⟨rfl, bc7⟩
                  · have b7 : (e7 != 0) = true := by simpa using q7
                    go_wp2
                    go_ret
                    exact ⟨rfl, bc7⟩
            · have b5 : (e5 != 0) = true := by simpa using q5
              go_wp2
              go_ret
              exact ⟨rfl, bc⟩
        · have b4 : (e4 == 0) = false := by simpa using q4
          clear k3 k4
          obtain ⟨p0, p1, p2, -, -, -⟩ := kg.three
          go_wp2_with fail
          refine (H5.out _).mono ?_
          rintro e w5 ⟨rfl, hC⟩
          dsimp only
          replace kg := kg.on hC; replace bc := below_then bc hC; clear hC
          clear p0 p1 p2
          by_cases q5 : e5 = 0
          · subst q5
            obtain ⟨k50, k51, k52, n4, n8⟩ := F3.out (by trivial)
            have d0 : decide (k5 < 0) = false := by simp; omega
            have hn0 : n ≠ 0 := by omega
            have hd : k5.tmod n = pos := by rw [Int.tmod_eq_emod_of_nonneg k50]; exact k51
            have hwp : IntKind.i64.wrap pos = pos := IntWalk.i64_in _ (by have := Int.emod_nonneg k5 hn0; have := Int.emod_lt_of_pos k5 (show 0 < n by omega); omega)
            have hpp : (pos != pos) = false := by simp
            obtain ⟨p0, p1, p2, -, -, -⟩ := kg.three
            go_wp2_with fail
            refine (H6.out _).mono ?_
            rintro e w6 ⟨rfl, hC⟩
            dsimp only
            replace kg := kg.on hC; replace bc := below_then bc hC; clear hC
            clear p0 p1 p2
            have k6 := Blk.new w6 23 #[.int .i64 x6, .int .i64 y6]
            have al := Below.al w6 (.cells #[.int .i64 x6, .int .i64 y6] 23)
            replace kg := kg.on al; replace bc := below_then bc al; clear al
            obtain ⟨p0, p1, p2, -, -, -⟩ := kg.three
            by_cases q6 : e6 = 0
            · subst q6
              have d6 : decide (x6 < t) = false := by simpa using F4.out (by trivial) (by trivial)
              by_cases q8 : k5 < n
              · have d8 : decide (k5 < n) = true := by simpa using q8
                go_wp2
                go_ret
                exact ⟨rfl, bc⟩
              · have d8 : decide (k5 < n) = false := by simpa using q8
                have hws : IntKind.i64.wrap (k5 - n) = k5 - n := IntWalk.i64_in _ (by omega)
                go_wp2_with fail
                refine (H7.out _).mono ?_
                rintro e w7 ⟨rfl, hC⟩
                dsimp only
                replace kg := kg.on hC; replace bc := below_then bc hC; clear hC
                clear p0 p1 p2
                have k7 := Blk.new w7 23 #[.int .i64 x7, .int .i64 y7]
                have bc7 := below_then bc (Below.al w7 (.cells #[.int .i64 x7, .int .i64 y7] 23))
                by_cases q7 : e7 = 0
                · subst q7
                  have d7 : decide (x7 < t) = true := by simpa using F5.out (by trivial) (by omega) (by trivial)
                  go_wp2
                  go_ret
                  exact ⟨rfl, bc7⟩
                · have b7 : (e7 != 0) = true := by simpa using q7
                  go_wp2
                  go_ret
                  exact ⟨rfl, bc7⟩
            · have b6 : (e6 == 0) = false := by simpa using q6
              by_cases q8 : k5 < n
              · have d8 : decide (k5 < n) = true := by simpa using q8
                go_wp2
                go_ret
                exact ⟨rfl, bc⟩
              · have d8 : decide (k5 < n) = false := by simpa using q8
                have hws : IntKind.i64.wrap (k5 - n) = k5 - n := IntWalk.i64_in _ (by omega)
                go_wp2_with fail
                refine (H7.out _).mono ?_
                rintro e w7 ⟨rfl, hC⟩
                dsimp only
                replace kg := kg.on hC; replace bc := below_then bc hC; clear hC
                clear p0 p1 p2
                have k7 := Blk.new w7 23 #[.int .i64 x7, .int .i64 y7]
                have bc7 := below_then bc (Below.al w7 (.cells #[.int .i64 x7, .int .i64 y7] 23))
                by_cases q7 : e7 = 0
                · subst q7
                  have d7 : decide (x7 < t) = true := by simpa using F5.out (by trivial) (by omega) (by trivial)
                  go_wp2
                  go_ret
                  exact ⟨rfl, bc7⟩
                · have b7 : (e7 != 0) = true := by simpa using q7
                  go_wp2
                  go_ret
                  exact ⟨rfl, bc7⟩
          · have b5 : (e5 != 0) = true := by simpa using q5
            go_wp2
            go_ret
            exact ⟨rfl, bc⟩
      · have b3 : (e3 == 0) = false := by simpa using q3
        clear k3 k4
        obtain ⟨p0, p1, p2, -, -, -⟩ := kg.three
        go_wp2_with fail
        refine (H5.out _).mono ?_
        rintro e w5 ⟨rfl, hC⟩
        dsimp only
        replace kg := kg.on hC; replace bc := below_then bc hC; clear hC
        clear p0 p1 p2
        by_cases q5 : e5 = 0
        · subst q5
          obtain ⟨k50, k51, k52, n4, n8⟩ := F3.out (by trivial)
          have d0 : decide (k5 < 0) = false := by simp; omega
          have hn0 : n ≠ 0 := by omega
          have hd : k5.tmod n = pos := by rw [Int.tmod_eq_emod_of_nonneg k50]; exact k51
          have hwp : IntKind.i64.wrap pos = pos := IntWalk.i64_in _ (by have := Int.emod_nonneg k5 hn0; have := Int.emod_lt_of_pos k5 (show 0 < n by omega); omega)
          have hpp : (pos != pos) = false := by simp
          obtain ⟨p0, p1, p2, -, -, -⟩ := kg.three
          go_wp2_with fail
          refine (H6.out _).mono ?_
          rintro e w6 ⟨rfl, hC⟩
          dsimp only
          replace kg := kg.on hC; replace bc := below_then bc hC; clear hC
          clear p0 p1 p2
          have k6 := Blk.new w6 23 #[.int .i64 x6, .int .i64 y6]
          have al := Below.al w6 (.cells #[.int .i64 x6, .int .i64 y6] 23)
          replace kg := kg.on al; replace bc := below_then bc al; clear al
          obtain ⟨p0, p1, p2, -, -, -⟩ := kg.three
          by_cases q6 : e6 = 0
          · subst q6
            have d6 : decide (x6 < t) = false := by simpa using F4.out (by trivial) (by trivial)
            by_cases q8 : k5 < n
            · have d8 : decide (k5 < n) = true := by simpa using q8
              go_wp2
              go_ret
              exact ⟨rfl, bc⟩
            · have d8 : decide (k5 < n) = false := by simpa using q8
              have hws : IntKind.i64.wrap (k5 - n) = k5 - n := IntWalk.i64_in _ (by omega)
              go_wp2_with fail
              refine (H7.out _).mono ?_
              rintro e w7 ⟨rfl, hC⟩
              dsimp only
              replace kg := kg.on hC; replace bc := below_then bc hC; clear hC
              clear p0 p1 p2
              have k7 := Blk.new w7 23 #[.int .i64 x7, .int .i64 y7]
              have bc7 := below_then bc (Below.al w7 (.cells #[.int .i64 x7, .int .i64 y7] 23))
              by_cases q7 : e7 = 0
              · subst q7
                have d7 : decide (x7 < t) = true := by simpa using F5.out (by trivial) (by omega) (by trivial)
                go_wp2
                go_ret
                exact ⟨rfl, bc7⟩
              · have b7 : (e7 != 0) = true := by simpa using q7
                go_wp2
                go_ret
                exact ⟨rfl, bc7⟩
          · have b6 : (e6 == 0) = false := by simpa using q6
            by_cases q8 : k5 < n
            · have d8 : decide (k5 < n) = true := by simpa using q8
              go_wp2
              go_ret
              exact ⟨rfl, bc⟩
            · have d8 : decide (k5 < n) = false := by simpa using q8
              have hws : IntKind.i64.wrap (k5 - n) = k5 - n := IntWalk.i64_in _ (by omega)
              go_wp2_with fail
              refine (H7.out _).mono ?_
              rintro e w7 ⟨rfl, hC⟩
              dsimp only
              replace kg := kg.on hC; replace bc := below_then bc hC; clear hC
              clear p0 p1 p2
              have k7 := Blk.new w7 23 #[.int .i64 x7, .int .i64 y7]
              have bc7 := below_then bc (Below.al w7 (.cells #[.int .i64 x7, .int .i64 y7] 23))
              by_cases q7 : e7 = 0
              · subst q7
                have d7 : decide (x7 < t) = true := by simpa using F5.out (by trivial) (by omega) (by trivial)
                go_wp2
                go_ret
                exact ⟨rfl, bc7⟩
              · have b7 : (e7 != 0) = true := by simpa using q7
                go_wp2
                go_ret
                exact ⟨rfl, bc7⟩
        · have b5 : (e5 != 0) = true := by simpa using q5
          go_wp2
          go_ret
          exact ⟨rfl, bc⟩
    · have b2 : (e2 == 0) = false := by simpa using q2
      clear k2
      obtain ⟨p0, p1, p2, -, -, -⟩ := kg.three
      go_wp2_with fail
      refine (H3.out _).mono ?_
      rintro e w3 ⟨rfl, hC⟩
      dsimp only
      replace kg := kg.on hC; replace bc := below_then bc hC; clear hC
      clear p0 p1 p2
      have k3 := Blk.new w3 23 #[.int .i64 x3, .int .i64 y3]
      have al := Below.al w3 (.cells #[.int .i64 x3, .int .i64 y3] 23)
      replace kg := kg.on al; replace bc := below_then bc al; clear al
      obtain ⟨p0, p1, p2, -, -, -⟩ := kg.three
      go_wp2_with fail
      refine (H4.out _).mono ?_
      rintro e w4 ⟨rfl, hC⟩
      dsimp only
      replace kg := kg.on hC; replace k3 := k3.on hC; replace bc := below_then bc hC; clear hC
      clear p0 p1 p2
      have k4 := Blk.new w4 23 #[.int .i64 x4, .int .i64 y4]
      have al := Below.al w4 (.cells #[.int .i64 x4, .int .i64 y4] 23)
      replace kg := kg.on al; replace k3 := k3.on al; replace bc := below_then bc al; clear al
      by_cases q3 : e3 = 0
      · subst q3
        by_cases q4 : e4 = 0
        · subst q4
          have hme := F2.out (by trivial) (by trivial)
          rw [hme] at HME
          obtain ⟨z0, z1, -, -⟩ := k3.two
          go_wp2_with fail
          refine (HME.out _).mono ?_
          rintro e wm ⟨rfl, hC⟩
          dsimp only
          replace kg := kg.on hC; replace bc := below_then bc hC; clear hC
          clear z0 z1 hme k3 k4
          by_cases qs : s0 = s1
          · subst qs
            have g0 : decide (s0 = s0) = true := by simp
            have g1 : ((s0 : Int) == (s0 : Int)) = true := by simp
            clear g0
            obtain ⟨p0, p1, p2, -, -, -⟩ := kg.three
            go_wp2_with fail
            refine (H5.out _).mono ?_
            rintro e w5 ⟨rfl, hC⟩
            dsimp only
            replace kg := kg.on hC; replace bc := below_then bc hC; clear hC
            clear p0 p1 p2
            by_cases q5 : e5 = 0
            · subst q5
              obtain ⟨k50, k51, k52, n4, n8⟩ := F3.out (by trivial)
              have d0 : decide (k5 < 0) = false := by simp; omega
              have hn0 : n ≠ 0 := by omega
              have hd : k5.tmod n = pos := by rw [Int.tmod_eq_emod_of_nonneg k50]; exact k51
              have hwp : IntKind.i64.wrap pos = pos := IntWalk.i64_in _ (by have := Int.emod_nonneg k5 hn0; have := Int.emod_lt_of_pos k5 (show 0 < n by omega); omega)
              have hpp : (pos != pos) = false := by simp
              obtain ⟨p0, p1, p2, -, -, -⟩ := kg.three
              go_wp2_with fail
              refine (H6.out _).mono ?_
              rintro e w6 ⟨rfl, hC⟩
              dsimp only
              replace kg := kg.on hC; replace bc := below_then bc hC; clear hC
              clear p0 p1 p2
              have k6 := Blk.new w6 23 #[.int .i64 x6, .int .i64 y6]
              have al := Below.al w6 (.cells #[.int .i64 x6, .int .i64 y6] 23)
              replace kg := kg.on al; replace bc := below_then bc al; clear al
              obtain ⟨p0, p1, p2, -, -, -⟩ := kg.three
              by_cases q6 : e6 = 0
              · subst q6
                have d6 : decide (x6 < t) = false := by simpa using F4.out (by trivial) (by trivial)
                by_cases q8 : k5 < n
                · have d8 : decide (k5 < n) = true := by simpa using q8
                  go_wp2
                  go_ret
                  exact ⟨rfl, bc⟩
                · have d8 : decide (k5 < n) = false := by simpa using q8
                  have hws : IntKind.i64.wrap (k5 - n) = k5 - n := IntWalk.i64_in _ (by omega)
                  go_wp2_with fail
                  refine (H7.out _).mono ?_
                  rintro e w7 ⟨rfl, hC⟩
                  dsimp only
                  replace kg := kg.on hC; replace bc := below_then bc hC; clear hC
                  clear p0 p1 p2
                  have k7 := Blk.new w7 23 #[.int .i64 x7, .int .i64 y7]
                  have bc7 := below_then bc (Below.al w7 (.cells #[.int .i64 x7, .int .i64 y7] 23))
                  by_cases q7 : e7 = 0
                  · subst q7
                    have d7 : decide (x7 < t) = true := by simpa using F5.out (by trivial) (by omega) (by trivial)
                    go_wp2
                    go_ret
                    exact ⟨rfl, bc7⟩
                  · have b7 : (e7 != 0) = true := by simpa using q7
                    go_wp2
                    go_ret
                    exact ⟨rfl, bc7⟩
              · have b6 : (e6 == 0) = false := by simpa using q6
                by_cases q8 : k5 < n
                · have d8 : decide (k5 < n) = true := by simpa using q8
                  go_wp2
                  go_ret
                  exact ⟨rfl, bc⟩
                · have d8 : decide (k5 < n) = false := by simpa using q8
                  have hws : IntKind.i64.wrap (k5 - n) = k5 - n := IntWalk.i64_in _ (by omega)
                  go_wp2_with fail
                  refine (H7.out _).mono ?_
                  rintro e w7 ⟨rfl, hC⟩
                  dsimp only
                  replace kg := kg.on hC; replace bc := below_then bc hC; clear hC
                  clear p0 p1 p2
                  have k7 := Blk.new w7 23 #[.int .i64 x7, .int .i64 y7]
                  have bc7 := below_then bc (Below.al w7 (.cells #[.int .i64 x7, .int .i64 y7] 23))
                  by_cases q7 : e7 = 0
                  · subst q7
                    have d7 : decide (x7 < t) = true := by simpa using F5.out (by trivial) (by omega) (by trivial)
                    go_wp2
                    go_ret
                    exact ⟨rfl, bc7⟩
                  · have b7 : (e7 != 0) = true := by simpa using q7
                    go_wp2
                    go_ret
                    exact ⟨rfl, bc7⟩
            · have b5 : (e5 != 0) = true := by simpa using q5
              go_wp2
              go_ret
              exact ⟨rfl, bc⟩
          · have g0 : decide (s0 = s1) = false := by simpa using qs
            have g1 : ((s0 : Int) == (s1 : Int)) = false := by rw [beq_eq_false_iff_ne]; omega
            have g2 : (s0 == s1) = false := by simpa using qs
            obtain ⟨p0, p1, p2, -, -, -⟩ := kg.three
            go_wp2_with fail
            refine (H5.out _).mono ?_
            rintro e w5 ⟨rfl, hC⟩
            dsimp only
            replace kg := kg.on hC; replace bc := below_then bc hC; clear hC
            clear p0 p1 p2
            by_cases q5 : e5 = 0
            · subst q5
              obtain ⟨k50, k51, k52, n4, n8⟩ := F3.out (by trivial)
              have d0 : decide (k5 < 0) = false := by simp; omega
              have hn0 : n ≠ 0 := by omega
              have hd : k5.tmod n = pos := by rw [Int.tmod_eq_emod_of_nonneg k50]; exact k51
              have hwp : IntKind.i64.wrap pos = pos := IntWalk.i64_in _ (by have := Int.emod_nonneg k5 hn0; have := Int.emod_lt_of_pos k5 (show 0 < n by omega); omega)
              have hpp : (pos != pos) = false := by simp
              obtain ⟨p0, p1, p2, -, -, -⟩ := kg.three
              go_wp2_with fail
              refine (H6.out _).mono ?_
              rintro e w6 ⟨rfl, hC⟩
              dsimp only
              replace kg := kg.on hC; replace bc := below_then bc hC; clear hC
              clear p0 p1 p2
              have k6 := Blk.new w6 23 #[.int .i64 x6, .int .i64 y6]
              have al := Below.al w6 (.cells #[.int .i64 x6, .int .i64 y6] 23)
              replace kg := kg.on al; replace bc := below_then bc al; clear al
              obtain ⟨p0, p1, p2, -, -, -⟩ := kg.three
              by_cases q6 : e6 = 0
              · subst q6
                have d6 : decide (x6 < t) = false := by simpa using F4.out (by trivial) (by trivial)
                by_cases q8 : k5 < n
                · have d8 : decide (k5 < n) = true := by simpa using q8
                  go_wp2
                  go_ret
                  exact ⟨rfl, bc⟩
                · have d8 : decide (k5 < n) = false := by simpa using q8
                  have hws : IntKind.i64.wrap (k5 - n) = k5 - n := IntWalk.i64_in _ (by omega)
                  go_wp2_with fail
                  refine (H7.out _).mono ?_
                  rintro e w7 ⟨rfl, hC⟩
                  dsimp only
                  replace kg := kg.on hC; replace bc := below_then bc hC; clear hC
                  clear p0 p1 p2
                  have k7 := Blk.new w7 23 #[.int .i64 x7, .int .i64 y7]
                  have bc7 := below_then bc (Below.al w7 (.cells #[.int .i64 x7, .int .i64 y7] 23))
                  by_cases q7 : e7 = 0
                  · subst q7
                    have d7 : decide (x7 < t) = true := by simpa using F5.out (by trivial) (by omega) (by trivial)
                    go_wp2
                    go_ret
                    exact ⟨rfl, bc7⟩
                  · have b7 : (e7 != 0) = true := by simpa using q7
                    go_wp2
                    go_ret
                    exact ⟨rfl, bc7⟩
              · have b6 : (e6 == 0) = false := by simpa using q6
                by_cases q8 : k5 < n
                · have d8 : decide (k5 < n) = true := by simpa using q8
                  go_wp2
                  go_ret
                  exact ⟨rfl, bc⟩
                · have d8 : decide (k5 < n) = false := by simpa using q8
                  have hws : IntKind.i64.wrap (k5 - n) = k5 - n := IntWalk.i64_in _ (by omega)
                  go_wp2_with fail
                  refine (H7.out _).mono ?_
                  rintro e w7 ⟨rfl, hC⟩
                  dsimp only
                  replace kg := kg.on hC; replace bc := below_then bc hC; clear hC
                  clear p0 p1 p2
                  have k7 := Blk.new w7 23 #[.int .i64 x7, .int .i64 y7]
                  have bc7 := below_then bc (Below.al w7 (.cells #[.int .i64 x7, .int .i64 y7] 23))
                  by_cases q7 : e7 = 0
                  · subst q7
                    have d7 : decide (x7 < t) = true := by simpa using F5.out (by trivial) (by omega) (by trivial)
                    go_wp2
                    go_ret
                    exact ⟨rfl, bc7⟩
                  · have b7 : (e7 != 0) = true := by simpa using q7
                    go_wp2
                    go_ret
                    exact ⟨rfl, bc7⟩
            · have b5 : (e5 != 0) = true := by simpa using q5
              go_wp2
              go_ret
              exact ⟨rfl, bc⟩
        · have b4 : (e4 == 0) = false := by simpa using q4
          clear k3 k4
          obtain ⟨p0, p1, p2, -, -, -⟩ := kg.three
          go_wp2_with fail
          refine (H5.out _).mono ?_
          rintro e w5 ⟨rfl, hC⟩
          dsimp only
          replace kg := kg.on hC; replace bc := below_then bc hC; clear hC
          clear p0 p1 p2
          by_cases q5 : e5 = 0
          · subst q5
            obtain ⟨k50, k51, k52, n4, n8⟩ := F3.out (by trivial)
            have d0 : decide (k5 < 0) = false := by simp; omega
            have hn0 : n ≠ 0 := by omega
            have hd : k5.tmod n = pos := by rw [Int.tmod_eq_emod_of_nonneg k50]; exact k51
            have hwp : IntKind.i64.wrap pos = pos := IntWalk.i64_in _ (by have := Int.emod_nonneg k5 hn0; have := Int.emod_lt_of_pos k5 (show 0 < n by omega); omega)
            have hpp : (pos != pos) = false := by simp
            obtain ⟨p0, p1, p2, -, -, -⟩ := kg.three
            go_wp2_with fail
            refine (H6.out _).mono ?_
            rintro e w6 ⟨rfl, hC⟩
            dsimp only
            replace kg := kg.on hC; replace bc := below_then bc hC; clear hC
            clear p0 p1 p2
            have k6 := Blk.new w6 23 #[.int .i64 x6, .int .i64 y6]
            have al := Below.al w6 (.cells #[.int .i64 x6, .int .i64 y6] 23)
            replace kg := kg.on al; replace bc := below_then bc al; clear al
            obtain ⟨p0, p1, p2, -, -, -⟩ := kg.three
            by_cases q6 : e6 = 0
            · subst q6
              have d6 : decide (x6 < t) = false := by simpa using F4.out (by trivial) (by trivial)
              by_cases q8 : k5 < n
              · have d8 : decide (k5 < n) = true := by simpa using q8
                go_wp2
                go_ret
                exact ⟨rfl, bc⟩
              · have d8 : decide (k5 < n) = false := by simpa using q8
                have hws : IntKind.i64.wrap (k5 - n) = k5 - n := IntWalk.i64_in _ (by omega)
                go_wp2_with fail
                refine (H7.out _).mono ?_
                rintro e w7 ⟨rfl, hC⟩
                dsimp only
                replace kg := kg.on hC; replace bc := below_then bc hC; clear hC
                clear p0 p1 p2
                have k7 := Blk.new w7 23 #[.int .i64 x7, .int .i64 y7]
                have bc7 := below_then bc (Below.al w7 (.cells #[.int .i64 x7, .int .i64 y7] 23))
                by_cases q7 : e7 = 0
                · subst q7
                  have d7 : decide (x7 < t) = true := by simpa using F5.out (by trivial) (by omega) (by trivial)
                  go_wp2
                  go_ret
                  exact ⟨rfl, bc7⟩
                · have b7 : (e7 != 0) = true := by simpa using q7
                  go_wp2
                  go_ret
                  exact ⟨rfl, bc7⟩
            · have b6 : (e6 == 0) = false := by simpa using q6
              by_cases q8 : k5 < n
              · have d8 : decide (k5 < n) = true := by simpa using q8
                go_wp2
                go_ret
                exact ⟨rfl, bc⟩
              · have d8 : decide (k5 < n) = false := by simpa using q8
                have hws : IntKind.i64.wrap (k5 - n) = k5 - n := IntWalk.i64_in _ (by omega)
                go_wp2_with fail
                refine (H7.out _).mono ?_
                rintro e w7 ⟨rfl, hC⟩
                dsimp only
                replace kg := kg.on hC; replace bc := below_then bc hC; clear hC
                clear p0 p1 p2
                have k7 := Blk.new w7 23 #[.int .i64 x7, .int .i64 y7]
                have bc7 := below_then bc (Below.al w7 (.cells #[.int .i64 x7, .int .i64 y7] 23))
                by_cases q7 : e7 = 0
                · subst q7
                  have d7 : decide (x7 < t) = true := by simpa using F5.out (by trivial) (by omega) (by trivial)
                  go_wp2
                  go_ret
                  exact ⟨rfl, bc7⟩
                · have b7 : (e7 != 0) = true := by simpa using q7
                  go_wp2
                  go_ret
                  exact ⟨rfl, bc7⟩
          · have b5 : (e5 != 0) = true := by simpa using q5
            go_wp2
            go_ret
            exact ⟨rfl, bc⟩
      · have b3 : (e3 == 0) = false := by simpa using q3
        clear k3 k4
        obtain ⟨p0, p1, p2, -, -, -⟩ := kg.three
        go_wp2_with fail
        refine (H5.out _).mono ?_
        rintro e w5 ⟨rfl, hC⟩
        dsimp only
        replace kg := kg.on hC; replace bc := below_then bc hC; clear hC
        clear p0 p1 p2
        by_cases q5 : e5 = 0
        · subst q5
          obtain ⟨k50, k51, k52, n4, n8⟩ := F3.out (by trivial)
          have d0 : decide (k5 < 0) = false := by simp; omega
          have hn0 : n ≠ 0 := by omega
          have hd : k5.tmod n = pos := by rw [Int.tmod_eq_emod_of_nonneg k50]; exact k51
          have hwp : IntKind.i64.wrap pos = pos := IntWalk.i64_in _ (by have := Int.emod_nonneg k5 hn0; have := Int.emod_lt_of_pos k5 (show 0 < n by omega); omega)
          have hpp : (pos != pos) = false := by simp
          obtain ⟨p0, p1, p2, -, -, -⟩ := kg.three
          go_wp2_with fail
          refine (H6.out _).mono ?_
          rintro e w6 ⟨rfl, hC⟩
          dsimp only
          replace kg := kg.on hC; replace bc := below_then bc hC; clear hC
          clear p0 p1 p2
          have k6 := Blk.new w6 23 #[.int .i64 x6, .int .i64 y6]
          have al := Below.al w6 (.cells #[.int .i64 x6, .int .i64 y6] 23)
          replace kg := kg.on al; replace bc := below_then bc al; clear al
          obtain ⟨p0, p1, p2, -, -, -⟩ := kg.three
          by_cases q6 : e6 = 0
          · subst q6
            have d6 : decide (x6 < t) = false := by simpa using F4.out (by trivial) (by trivial)
            by_cases q8 : k5 < n
            · have d8 : decide (k5 < n) = true := by simpa using q8
              go_wp2
              go_ret
              exact ⟨rfl, bc⟩
            · have d8 : decide (k5 < n) = false := by simpa using q8
              have hws : IntKind.i64.wrap (k5 - n) = k5 - n := IntWalk.i64_in _ (by omega)
              go_wp2_with fail
              refine (H7.out _).mono ?_
              rintro e w7 ⟨rfl, hC⟩
              dsimp only
              replace kg := kg.on hC; replace bc := below_then bc hC; clear hC
              clear p0 p1 p2
              have k7 := Blk.new w7 23 #[.int .i64 x7, .int .i64 y7]
              have bc7 := below_then bc (Below.al w7 (.cells #[.int .i64 x7, .int .i64 y7] 23))
              by_cases q7 : e7 = 0
              · subst q7
                have d7 : decide (x7 < t) = true := by simpa using F5.out (by trivial) (by omega) (by trivial)
                go_wp2
                go_ret
                exact ⟨rfl, bc7⟩
              · have b7 : (e7 != 0) = true := by simpa using q7
                go_wp2
                go_ret
                exact ⟨rfl, bc7⟩
          · have b6 : (e6 == 0) = false := by simpa using q6
            by_cases q8 : k5 < n
            · have d8 : decide (k5 < n) = true := by simpa using q8
              go_wp2
              go_ret
              exact ⟨rfl, bc⟩
            · have d8 : decide (k5 < n) = false := by simpa using q8
              have hws : IntKind.i64.wrap (k5 - n) = k5 - n := IntWalk.i64_in _ (by omega)
              go_wp2_with fail
              refine (H7.out _).mono ?_
              rintro e w7 ⟨rfl, hC⟩
              dsimp only
              replace kg := kg.on hC; replace bc := below_then bc hC; clear hC
              clear p0 p1 p2
              have k7 := Blk.new w7 23 #[.int .i64 x7, .int .i64 y7]
              have bc7 := below_then bc (Below.al w7 (.cells #[.int .i64 x7, .int .i64 y7] 23))
              by_cases q7 : e7 = 0
              · subst q7
                have d7 : decide (x7 < t) = true := by simpa using F5.out (by trivial) (by omega) (by trivial)
                go_wp2
                go_ret
                exact ⟨rfl, bc7⟩
              · have b7 : (e7 != 0) = true := by simpa using q7
                go_wp2
                go_ret
                exact ⟨rfl, bc7⟩
        · have b5 : (e5 != 0) = true := by simpa using q5
          go_wp2
          go_ret
          exact ⟨rfl, bc⟩
  · have b1 : (e1 == 0) = false := by simpa using q1
    obtain ⟨p0, p1, p2, -, -, -⟩ := kg.three
    go_wp2_with fail
    refine (H3.out _).mono ?_
    rintro e w3 ⟨rfl, hC⟩
    dsimp only
    replace kg := kg.on hC; replace bc := below_then bc hC; clear hC
    clear p0 p1 p2
    have k3 := Blk.new w3 23 #[.int .i64 x3, .int .i64 y3]
    have al := Below.al w3 (.cells #[.int .i64 x3, .int .i64 y3] 23)
    replace kg := kg.on al; replace bc := below_then bc al; clear al
    obtain ⟨p0, p1, p2, -, -, -⟩ := kg.three
    go_wp2_with fail
    refine (H4.out _).mono ?_
    rintro e w4 ⟨rfl, hC⟩
    dsimp only
    replace kg := kg.on hC; replace k3 := k3.on hC; replace bc := below_then bc hC; clear hC
    clear p0 p1 p2
    have k4 := Blk.new w4 23 #[.int .i64 x4, .int .i64 y4]
    have al := Below.al w4 (.cells #[.int .i64 x4, .int .i64 y4] 23)
    replace kg := kg.on al; replace k3 := k3.on al; replace bc := below_then bc al; clear al
    by_cases q3 : e3 = 0
    · subst q3
      by_cases q4 : e4 = 0
      · subst q4
        have hme := F2.out (by trivial) (by trivial)
        rw [hme] at HME
        obtain ⟨z0, z1, -, -⟩ := k3.two
        go_wp2_with fail
        refine (HME.out _).mono ?_
        rintro e wm ⟨rfl, hC⟩
        dsimp only
        replace kg := kg.on hC; replace bc := below_then bc hC; clear hC
        clear z0 z1 hme k3 k4
        by_cases qs : s0 = s1
        · subst qs
          have g0 : decide (s0 = s0) = true := by simp
          have g1 : ((s0 : Int) == (s0 : Int)) = true := by simp
          clear g0
          obtain ⟨p0, p1, p2, -, -, -⟩ := kg.three
          go_wp2_with fail
          refine (H5.out _).mono ?_
          rintro e w5 ⟨rfl, hC⟩
          dsimp only
          replace kg := kg.on hC; replace bc := below_then bc hC; clear hC
          clear p0 p1 p2
          by_cases q5 : e5 = 0
          · subst q5
            obtain ⟨k50, k51, k52, n4, n8⟩ := F3.out (by trivial)
            have d0 : decide (k5 < 0) = false := by simp; omega
            have hn0 : n ≠ 0 := by omega
            have hd : k5.tmod n = pos := by rw [Int.tmod_eq_emod_of_nonneg k50]; exact k51
            have hwp : IntKind.i64.wrap pos = pos := IntWalk.i64_in _ (by have := Int.emod_nonneg k5 hn0; have := Int.emod_lt_of_pos k5 (show 0 < n by omega); omega)
            have hpp : (pos != pos) = false := by simp
            obtain ⟨p0, p1, p2, -, -, -⟩ := kg.three
            go_wp2_with fail
            refine (H6.out _).mono ?_
            rintro e w6 ⟨rfl, hC⟩
            dsimp only
            replace kg := kg.on hC; replace bc := below_then bc hC; clear hC
            clear p0 p1 p2
            have k6 := Blk.new w6 23 #[.int .i64 x6, .int .i64 y6]
            have al := Below.al w6 (.cells #[.int .i64 x6, .int .i64 y6] 23)
            replace kg := kg.on al; replace bc := below_then bc al; clear al
            obtain ⟨p0, p1, p2, -, -, -⟩ := kg.three
            by_cases q6 : e6 = 0
            · subst q6
              have d6 : decide (x6 < t) = false := by simpa using F4.out (by trivial) (by trivial)
              by_cases q8 : k5 < n
              · have d8 : decide (k5 < n) = true := by simpa using q8
                go_wp2
                go_ret
                exact ⟨rfl, bc⟩
              · have d8 : decide (k5 < n) = false := by simpa using q8
                have hws : IntKind.i64.wrap (k5 - n) = k5 - n := IntWalk.i64_in _ (by omega)
                go_wp2_with fail
                refine (H7.out _).mono ?_
                rintro e w7 ⟨rfl, hC⟩
                dsimp only
                replace kg := kg.on hC; replace bc := below_then bc hC; clear hC
                clear p0 p1 p2
                have k7 := Blk.new w7 23 #[.int .i64 x7, .int .i64 y7]
                have bc7 := below_then bc (Below.al w7 (.cells #[.int .i64 x7, .int .i64 y7] 23))
                by_cases q7 : e7 = 0
                · subst q7
                  have d7 : decide (x7 < t) = true := by simpa using F5.out (by trivial) (by omega) (by trivial)
                  go_wp2
                  go_ret
                  exact ⟨rfl, bc7⟩
                · have b7 : (e7 != 0) = true := by simpa using q7
                  go_wp2
                  go_ret
                  exact ⟨rfl, bc7⟩
            · have b6 : (e6 == 0) = false := by simpa using q6
              by_cases q8 : k5 < n
              · have d8 : decide (k5 < n) = true := by simpa using q8
                go_wp2
                go_ret
                exact ⟨rfl, bc⟩
              · have d8 : decide (k5 < n) = false := by simpa using q8
                have hws : IntKind.i64.wrap (k5 - n) = k5 - n := IntWalk.i64_in _ (by omega)
                go_wp2_with fail
                refine (H7.out _).mono ?_
                rintro e w7 ⟨rfl, hC⟩
                dsimp only
                replace kg := kg.on hC; replace bc := below_then bc hC; clear hC
                clear p0 p1 p2
                have k7 := Blk.new w7 23 #[.int .i64 x7, .int .i64 y7]
                have bc7 := below_then bc (Below.al w7 (.cells #[.int .i64 x7, .int .i64 y7] 23))
                by_cases q7 : e7 = 0
                · subst q7
                  have d7 : decide (x7 < t) = true := by simpa using F5.out (by trivial) (by omega) (by trivial)
                  go_wp2
                  go_ret
                  exact ⟨rfl, bc7⟩
                · have b7 : (e7 != 0) = true := by simpa using q7
                  go_wp2
                  go_ret
                  exact ⟨rfl, bc7⟩
          · have b5 : (e5 != 0) = true := by simpa using q5
            go_wp2
            go_ret
            exact ⟨rfl, bc⟩
        · have g0 : decide (s0 = s1) = false := by simpa using qs
          have g1 : ((s0 : Int) == (s1 : Int)) = false := by rw [beq_eq_false_iff_ne]; omega
          have g2 : (s0 == s1) = false := by simpa using qs
          obtain ⟨p0, p1, p2, -, -, -⟩ := kg.three
          go_wp2_with fail
          refine (H5.out _).mono ?_
          rintro e w5 ⟨rfl, hC⟩
          dsimp only
          replace kg := kg.on hC; replace bc := below_then bc hC; clear hC
          clear p0 p1 p2
          by_cases q5 : e5 = 0
          · subst q5
            obtain ⟨k50, k51, k52, n4, n8⟩ := F3.out (by trivial)
            have d0 : decide (k5 < 0) = false := by simp; omega
            have hn0 : n ≠ 0 := by omega
            have hd : k5.tmod n = pos := by rw [Int.tmod_eq_emod_of_nonneg k50]; exact k51
            have hwp : IntKind.i64.wrap pos = pos := IntWalk.i64_in _ (by have := Int.emod_nonneg k5 hn0; have := Int.emod_lt_of_pos k5 (show 0 < n by omega); omega)
            have hpp : (pos != pos) = false := by simp
            obtain ⟨p0, p1, p2, -, -, -⟩ := kg.three
            go_wp2_with fail
            refine (H6.out _).mono ?_
            rintro e w6 ⟨rfl, hC⟩
            dsimp only
            replace kg := kg.on hC; replace bc := below_then bc hC; clear hC
            clear p0 p1 p2
            have k6 := Blk.new w6 23 #[.int .i64 x6, .int .i64 y6]
            have al := Below.al w6 (.cells #[.int .i64 x6, .int .i64 y6] 23)
            replace kg := kg.on al; replace bc := below_then bc al; clear al
            obtain ⟨p0, p1, p2, -, -, -⟩ := kg.three
            by_cases q6 : e6 = 0
            · subst q6
              have d6 : decide (x6 < t) = false := by simpa using F4.out (by trivial) (by trivial)
              by_cases q8 : k5 < n
              · have d8 : decide (k5 < n) = true := by simpa using q8
                go_wp2
                go_ret
                exact ⟨rfl, bc⟩
              · have d8 : decide (k5 < n) = false := by simpa using q8
                have hws : IntKind.i64.wrap (k5 - n) = k5 - n := IntWalk.i64_in _ (by omega)
                go_wp2_with fail
                refine (H7.out _).mono ?_
                rintro e w7 ⟨rfl, hC⟩
                dsimp only
                replace kg := kg.on hC; replace bc := below_then bc hC; clear hC
                clear p0 p1 p2
                have k7 := Blk.new w7 23 #[.int .i64 x7, .int .i64 y7]
                have bc7 := below_then bc (Below.al w7 (.cells #[.int .i64 x7, .int .i64 y7] 23))
                by_cases q7 : e7 = 0
                · subst q7
                  have d7 : decide (x7 < t) = true := by simpa using F5.out (by trivial) (by omega) (by trivial)
                  go_wp2
                  go_ret
                  exact ⟨rfl, bc7⟩
                · have b7 : (e7 != 0) = true := by simpa using q7
                  go_wp2
                  go_ret
                  exact ⟨rfl, bc7⟩
            · have b6 : (e6 == 0) = false := by simpa using q6
              by_cases q8 : k5 < n
              · have d8 : decide (k5 < n) = true := by simpa using q8
                go_wp2
                go_ret
                exact ⟨rfl, bc⟩
              · have d8 : decide (k5 < n) = false := by simpa using q8
                have hws : IntKind.i64.wrap (k5 - n) = k5 - n := IntWalk.i64_in _ (by omega)
                go_wp2_with fail
                refine (H7.out _).mono ?_
                rintro e w7 ⟨rfl, hC⟩
                dsimp only
                replace kg := kg.on hC; replace bc := below_then bc hC; clear hC
                clear p0 p1 p2
                have k7 := Blk.new w7 23 #[.int .i64 x7, .int .i64 y7]
                have bc7 := below_then bc (Below.al w7 (.cells #[.int .i64 x7, .int .i64 y7] 23))
                by_cases q7 : e7 = 0
                · subst q7
                  have d7 : decide (x7 < t) = true := by simpa using F5.out (by trivial) (by omega) (by trivial)
                  go_wp2
                  go_ret
                  exact ⟨rfl, bc7⟩
                · have b7 : (e7 != 0) = true := by simpa using q7
                  go_wp2
                  go_ret
                  exact ⟨rfl, bc7⟩
          · have b5 : (e5 != 0) = true := by simpa using q5
            go_wp2
            go_ret
            exact ⟨rfl, bc⟩
      · have b4 : (e4 == 0) = false := by simpa using q4
        clear k3 k4
        obtain ⟨p0, p1, p2, -, -, -⟩ := kg.three
        go_wp2_with fail
        refine (H5.out _).mono ?_
        rintro e w5 ⟨rfl, hC⟩
        dsimp only
        replace kg := kg.on hC; replace bc := below_then bc hC; clear hC
        clear p0 p1 p2
        by_cases q5 : e5 = 0
        · subst q5
          obtain ⟨k50, k51, k52, n4, n8⟩ := F3.out (by trivial)
          have d0 : decide (k5 < 0) = false := by simp; omega
          have hn0 : n ≠ 0 := by omega
          have hd : k5.tmod n = pos := by rw [Int.tmod_eq_emod_of_nonneg k50]; exact k51
          have hwp : IntKind.i64.wrap pos = pos := IntWalk.i64_in _ (by have := Int.emod_nonneg k5 hn0; have := Int.emod_lt_of_pos k5 (show 0 < n by omega); omega)
          have hpp : (pos != pos) = false := by simp
          obtain ⟨p0, p1, p2, -, -, -⟩ := kg.three
          go_wp2_with fail
          refine (H6.out _).mono ?_
          rintro e w6 ⟨rfl, hC⟩
          dsimp only
          replace kg := kg.on hC; replace bc := below_then bc hC; clear hC
          clear p0 p1 p2
          have k6 := Blk.new w6 23 #[.int .i64 x6, .int .i64 y6]
          have al := Below.al w6 (.cells #[.int .i64 x6, .int .i64 y6] 23)
          replace kg := kg.on al; replace bc := below_then bc al; clear al
          obtain ⟨p0, p1, p2, -, -, -⟩ := kg.three
          by_cases q6 : e6 = 0
          · subst q6
            have d6 : decide (x6 < t) = false := by simpa using F4.out (by trivial) (by trivial)
            by_cases q8 : k5 < n
            · have d8 : decide (k5 < n) = true := by simpa using q8
              go_wp2
              go_ret
              exact ⟨rfl, bc⟩
            · have d8 : decide (k5 < n) = false := by simpa using q8
              have hws : IntKind.i64.wrap (k5 - n) = k5 - n := IntWalk.i64_in _ (by omega)
              go_wp2_with fail
              refine (H7.out _).mono ?_
              rintro e w7 ⟨rfl, hC⟩
              dsimp only
              replace kg := kg.on hC; replace bc := below_then bc hC; clear hC
              clear p0 p1 p2
              have k7 := Blk.new w7 23 #[.int .i64 x7, .int .i64 y7]
              have bc7 := below_then bc (Below.al w7 (.cells #[.int .i64 x7, .int .i64 y7] 23))
              by_cases q7 : e7 = 0
              · subst q7
                have d7 : decide (x7 < t) = true := by simpa using F5.out (by trivial) (by omega) (by trivial)
                go_wp2
                go_ret
                exact ⟨rfl, bc7⟩
              · have b7 : (e7 != 0) = true := by simpa using q7
                go_wp2
                go_ret
                exact ⟨rfl, bc7⟩
          · have b6 : (e6 == 0) = false := by simpa using q6
            by_cases q8 : k5 < n
            · have d8 : decide (k5 < n) = true := by simpa using q8
              go_wp2
              go_ret
              exact ⟨rfl, bc⟩
            · have d8 : decide (k5 < n) = false := by simpa using q8
              have hws : IntKind.i64.wrap (k5 - n) = k5 - n := IntWalk.i64_in _ (by omega)
              go_wp2_with fail
              refine (H7.out _).mono ?_
              rintro e w7 ⟨rfl, hC⟩
              dsimp only
              replace kg := kg.on hC; replace bc := below_then bc hC; clear hC
              clear p0 p1 p2
              have k7 := Blk.new w7 23 #[.int .i64 x7, .int .i64 y7]
              have bc7 := below_then bc (Below.al w7 (.cells #[.int .i64 x7, .int .i64 y7] 23))
              by_cases q7 : e7 = 0
              · subst q7
                have d7 : decide (x7 < t) = true := by simpa using F5.out (by trivial) (by omega) (by trivial)
                go_wp2
                go_ret
                exact ⟨rfl, bc7⟩
              · have b7 : (e7 != 0) = true := by simpa using q7
                go_wp2
                go_ret
                exact ⟨rfl, bc7⟩
        · have b5 : (e5 != 0) = true := by simpa using q5
          go_wp2
          go_ret
          exact ⟨rfl, bc⟩
    · have b3 : (e3 == 0) = false := by simpa using q3
      clear k3 k4
      obtain ⟨p0, p1, p2, -, -, -⟩ := kg.three
      go_wp2_with fail
      refine (H5.out _).mono ?_
      rintro e w5 ⟨rfl, hC⟩
      dsimp only
      replace kg := kg.on hC; replace bc := below_then bc hC; clear hC
      clear p0 p1 p2
      by_cases q5 : e5 = 0
      · subst q5
        obtain ⟨k50, k51, k52, n4, n8⟩ := F3.out (by trivial)
        have d0 : decide (k5 < 0) = false := by simp; omega
        have hn0 : n ≠ 0 := by omega
        have hd : k5.tmod n = pos := by rw [Int.tmod_eq_emod_of_nonneg k50]; exact k51
        have hwp : IntKind.i64.wrap pos = pos := IntWalk.i64_in _ (by have := Int.emod_nonneg k5 hn0; have := Int.emod_lt_of_pos k5 (show 0 < n by omega); omega)
        have hpp : (pos != pos) = false := by simp
        obtain ⟨p0, p1, p2, -, -, -⟩ := kg.three
        go_wp2_with fail
        refine (H6.out _).mono ?_
        rintro e w6 ⟨rfl, hC⟩
        dsimp only
        replace kg := kg.on hC; replace bc := below_then bc hC; clear hC
        clear p0 p1 p2
        have k6 := Blk.new w6 23 #[.int .i64 x6, .int .i64 y6]
        have al := Below.al w6 (.cells #[.int .i64 x6, .int .i64 y6] 23)
        replace kg := kg.on al; replace bc := below_then bc al; clear al
        obtain ⟨p0, p1, p2, -, -, -⟩ := kg.three
        by_cases q6 : e6 = 0
        · subst q6
          have d6 : decide (x6 < t) = false := by simpa using F4.out (by trivial) (by trivial)
          by_cases q8 : k5 < n
          · have d8 : decide (k5 < n) = true := by simpa using q8
            go_wp2
            go_ret
            exact ⟨rfl, bc⟩
          · have d8 : decide (k5 < n) = false := by simpa using q8
            have hws : IntKind.i64.wrap (k5 - n) = k5 - n := IntWalk.i64_in _ (by omega)
            go_wp2_with fail
            refine (H7.out _).mono ?_
            rintro e w7 ⟨rfl, hC⟩
            dsimp only
            replace kg := kg.on hC; replace bc := below_then bc hC; clear hC
            clear p0 p1 p2
            have k7 := Blk.new w7 23 #[.int .i64 x7, .int .i64 y7]
            have bc7 := below_then bc (Below.al w7 (.cells #[.int .i64 x7, .int .i64 y7] 23))
            by_cases q7 : e7 = 0
            · subst q7
              have d7 : decide (x7 < t) = true := by simpa using F5.out (by trivial) (by omega) (by trivial)
              go_wp2
              go_ret
              exact ⟨rfl, bc7⟩
            · have b7 : (e7 != 0) = true := by simpa using q7
              go_wp2
              go_ret
              exact ⟨rfl, bc7⟩
        · have b6 : (e6 == 0) = false := by simpa using q6
          by_cases q8 : k5 < n
          · have d8 : decide (k5 < n) = true := by simpa using q8
            go_wp2
            go_ret
            exact ⟨rfl, bc⟩
          · have d8 : decide (k5 < n) = false := by simpa using q8
            have hws : IntKind.i64.wrap (k5 - n) = k5 - n := IntWalk.i64_in _ (by omega)
            go_wp2_with fail
            refine (H7.out _).mono ?_
            rintro e w7 ⟨rfl, hC⟩
            dsimp only
            replace kg := kg.on hC; replace bc := below_then bc hC; clear hC
            clear p0 p1 p2
            have k7 := Blk.new w7 23 #[.int .i64 x7, .int .i64 y7]
            have bc7 := below_then bc (Below.al w7 (.cells #[.int .i64 x7, .int .i64 y7] 23))
            by_cases q7 : e7 = 0
            · subst q7
              have d7 : decide (x7 < t) = true := by simpa using F5.out (by trivial) (by omega) (by trivial)
              go_wp2
              go_ret
              exact ⟨rfl, bc7⟩
            · have b7 : (e7 != 0) = true := by simpa using q7
              go_wp2
              go_ret
              exact ⟨rfl, bc7⟩
      · have b5 : (e5 != 0) = true := by simpa using q5
        go_wp2
        go_ret
        exact ⟨rfl, bc⟩
end Go.Proofs.Ytjdhodobfkkoiaa
