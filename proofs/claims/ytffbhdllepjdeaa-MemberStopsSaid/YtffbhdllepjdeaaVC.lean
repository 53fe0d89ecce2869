/-
  Check of package member, and the document's: which views may be. No condition.
-/
import Derived.Test.YtffbhdllepjdeaaVB
namespace Go.Proofs.Ytffbhdllepjdeaa
open Go.RowKit

theorem Blk.seven {w : World} {g : Nat} {t : TypeId} {a b c d e f h : Value} (k : Blk w g t #[a, b, c, d, e, f, h]) :
    (w.cell? ⟨g, 0, none⟩ = some a ∧ w.cell? ⟨g, 1, none⟩ = some b ∧ w.cell? ⟨g, 2, none⟩ = some c ∧ w.cell? ⟨g, 3, none⟩ = some d ∧ w.cell? ⟨g, 4, none⟩ = some e ∧ w.cell? ⟨g, 5, none⟩ = some f ∧ w.cell? ⟨g, 6, none⟩ = some h) ∧
    (w.frozen? ⟨g, 0, none⟩ = false ∧ w.frozen? ⟨g, 1, none⟩ = false ∧ w.frozen? ⟨g, 2, none⟩ = false ∧ w.frozen? ⟨g, 3, none⟩ = false ∧ w.frozen? ⟨g, 4, none⟩ = false ∧ w.frozen? ⟨g, 5, none⟩ = false ∧ w.frozen? ⟨g, 6, none⟩ = false) :=
  ⟨⟨by simpa using k.cell 0, by simpa using k.cell 1, by simpa using k.cell 2, by simpa using k.cell 3, by simpa using k.cell 4, by simpa using k.cell 5, by simpa using k.cell 6⟩, k.frozen 0, k.frozen 1, k.frozen 2, k.frozen 3, k.frozen 4, k.frozen 5, k.frozen 6⟩
theorem pure_quiet {P : Program} {f : FuncId} {args : Array Value} {w : World} {v : Value} (h : Calls P f args w fun e w' => e = .returned v ∧ w = w') : Calls P f args w fun e w' => e = .returned v ∧ w' = w :=
  h.mono fun _ _ ⟨a, b⟩ => ⟨a, b.symm⟩
theorem pure_quiet2 {P : Program} {f : FuncId} {args : Array Value} {w : World} {q x : Nat} {v : Value} (h : Calls P f args (w.drewN (q + x)) fun e w' => e = .returned v ∧ w.drewN (q + x) = w') : Calls P f args (w.drewN (q + x)) fun e w'' => e = .returned v ∧ ∃ n, w'' = w.drewN (q + n) :=
  h.mono fun _ _ ⟨a, b⟩ => ⟨a, x, b.symm⟩
theorem pw_mono {a b : Int} (h0 : 4 ≤ a) (h : a ≤ 8) (hb : b = pw a) : 16 ≤ b ∧ b ≤ 256 := by
  subst hb
  obtain rfl | rfl | rfl | rfl | rfl : a = 4 ∨ a = 5 ∨ a = 6 ∨ a = 7 ∨ a = 8 := by omega
  all_goals decide

set_option maxRecDepth 8000 in
set_option maxHeartbeats 16000000 in
theorem vcheck_any (m : MV) (w : World) : Calls Try.prog 17 #[.agg m.cells] w fun e w' => e = .returned (.int .i64 (chkV m)) ∧ Below w.heap.size w w' := by
  obtain ⟨I, N, S, A, F, G, R⟩ := m
  unfold MV.cells
  dsimp only
  have HB := Lib.hid (Below.al w (.cells (cM I N S A F G R) 23))
  obtain ⟨c, hc⟩ : ∃ c, c = chkV ⟨I, N, S, A, F, G, R⟩ := ⟨_, rfl⟩
  rw [← hc]
  unfold chkV okV at hc
  dsimp only at hc
  by_cases h0 : N < 4
  · have d0 : decide (N < 4) = true := by simp; omega
    obtain rfl : c = 90 := by rw [hc]; exact if_neg (by rintro ⟨a, b, c, d, e, f, g, h⟩; omega)
    clear hc
    go_enter Try.func17, Try.ntmps17
    go_wp2
    go_ret
    exact ⟨rfl, HB.out⟩
  have d0 : decide (N < 4) = false := by simp; omega
  by_cases h1 : 8 < N
  · have d1 : decide (8 < N) = true := by simp; omega
    obtain rfl : c = 90 := by rw [hc]; exact if_neg (by rintro ⟨a, b, c, d, e, f, g, h⟩; omega)
    clear hc
    go_enter Try.func17, Try.ntmps17
    go_wp2
    go_ret
    exact ⟨rfl, HB.out⟩
  have d1 : decide (8 < N) = false := by simp; omega
  have hN : 4 ≤ N ∧ N ≤ 8 := by omega
  have hpw := pw_mono (a := N) (b := pw N) hN.1 hN.2 rfl
  have H2 := Lib.hid (fun W => visNode_any I N W); have H3 := Lib.hid (fun W => visNode_any R N W); have H5 := Lib.hid (fun W => vbit_any N W (by omega) (by omega)); have H6 := Lib.hid (fun W => visCount_any A W); have H7 := Lib.hid (fun W => visCount_any F W)
  by_cases h2 : ¬ (0 ≤ I ∧ I < N)
  · have n2 := H2.out; rw [show decide (0 ≤ I ∧ I < N) = false from by simp; omega] at n2; replace H2 := Lib.hid n2; clear n2
    obtain rfl : c = 90 := by rw [hc]; exact if_neg (by rintro ⟨a, b, c, d, e, f, g, h⟩; omega)
    clear hc
    go_enter Try.func17, Try.ntmps17
    go_wp2
    go_quiet (first | (go_at_call 39; with_reducible exact Calls.quiet_of_same (pure_quiet (H2.out _))))
    go_wp2
    go_ret
    exact ⟨rfl, below_drewN HB.out _⟩
  have n2 := H2.out; rw [show decide (0 ≤ I ∧ I < N) = true from by simp; omega] at n2; replace H2 := Lib.hid n2; clear n2
  have hI : 0 ≤ I ∧ I < N := by omega
  by_cases h3 : ¬ (0 ≤ R ∧ R < N)
  · have n3 := H3.out; rw [show decide (0 ≤ R ∧ R < N) = false from by simp; omega] at n3; replace H3 := Lib.hid n3; clear n3
    obtain rfl : c = 90 := by rw [hc]; exact if_neg (by rintro ⟨a, b, c, d, e, f, g, h⟩; omega)
    clear hc
    go_enter Try.func17, Try.ntmps17
    go_wp2
    go_quiet (first | (go_at_call 39; with_reducible exact Calls.quiet_of_same (pure_quiet (H2.out _))) | (go_at_call 39; with_reducible exact Calls.quiet_of_same (pure_quiet (H3.out _))))
    go_wp2
    go_ret
    exact ⟨rfl, below_drewN HB.out _⟩
  have n3 := H3.out; rw [show decide (0 ≤ R ∧ R < N) = true from by simp; omega] at n3; replace H3 := Lib.hid n3; clear n3
  by_cases h4 : S < 0
  · have d4 : decide (S < 0) = true := by simp; omega
    obtain rfl : c = 90 := by rw [hc]; exact if_neg (by rintro ⟨a, b, c, d, e, f, g, h⟩; omega)
    clear hc
    go_enter Try.func17, Try.ntmps17
    go_wp2
    go_quiet (first | (go_at_call 39; with_reducible exact Calls.quiet_of_same (pure_quiet (H2.out _))) | (go_at_call 39; with_reducible exact Calls.quiet_of_same (pure_quiet (H3.out _))))
    go_wp2
    go_ret
    exact ⟨rfl, below_drewN HB.out _⟩
  have d4 : decide (S < 0) = false := by simp; omega
  by_cases h5 : pw N ≤ S
  · have d5 : decide (pw N ≤ S) = true := by simp; omega
    obtain rfl : c = 90 := by rw [hc]; exact if_neg (by rintro ⟨a, b, c, d, e, f, g, h⟩; omega)
    clear hc
    go_enter Try.func17, Try.ntmps17
    go_wp2
    go_quiet (first | (go_at_call 39; with_reducible exact Calls.quiet_of_same (pure_quiet (H2.out _))) | (go_at_call 39; with_reducible exact Calls.quiet_of_same (pure_quiet (H3.out _))) | (go_at_call 37; with_reducible exact Calls.quiet_of_same (pure_quiet (H5.out _))))
    go_wp2
    go_ret
    exact ⟨rfl, below_drewN HB.out _⟩
  have d5 : decide (pw N ≤ S) = false := by simp; omega
  by_cases h6 : ¬ (0 ≤ A ∧ A ≤ 1048576)
  · have n6 := H6.out; rw [show decide (0 ≤ A ∧ A ≤ 1048576) = false from by simp; omega] at n6; replace H6 := Lib.hid n6; clear n6
    obtain rfl : c = 90 := by rw [hc]; exact if_neg (by rintro ⟨a, b, c, d, e, f, g, h⟩; omega)
    clear hc
    go_enter Try.func17, Try.ntmps17
    go_wp2
    go_quiet (first | (go_at_call 39; with_reducible exact Calls.quiet_of_same (pure_quiet (H2.out _))) | (go_at_call 39; with_reducible exact Calls.quiet_of_same (pure_quiet (H3.out _))) | (go_at_call 37; with_reducible exact Calls.quiet_of_same (pure_quiet (H5.out _))))
    go_wp2_with (first | (go_at_call 40; with_reducible refine (H6.out _).mono ?_; rintro e w1 ⟨rfl, rfl⟩))
    go_ret
    exact ⟨rfl, below_drewN HB.out _⟩
  have n6 := H6.out; rw [show decide (0 ≤ A ∧ A ≤ 1048576) = true from by simp; omega] at n6; replace H6 := Lib.hid n6; clear n6
  by_cases h7 : ¬ (0 ≤ F ∧ F ≤ 1048576)
  · have n7 := H7.out; rw [show decide (0 ≤ F ∧ F ≤ 1048576) = false from by simp; omega] at n7; replace H7 := Lib.hid n7; clear n7
    obtain rfl : c = 90 := by rw [hc]; exact if_neg (by rintro ⟨a, b, c, d, e, f, g, h⟩; omega)
    clear hc
    go_enter Try.func17, Try.ntmps17
    go_wp2
    go_quiet (first | (go_at_call 39; with_reducible exact Calls.quiet_of_same (pure_quiet (H2.out _))) | (go_at_call 39; with_reducible exact Calls.quiet_of_same (pure_quiet (H3.out _))) | (go_at_call 37; with_reducible exact Calls.quiet_of_same (pure_quiet (H5.out _))))
    go_wp2_with (first | (go_at_call 40; with_reducible refine (H6.out _).mono ?_; rintro e w1 ⟨rfl, rfl⟩) | (go_at_call 40; with_reducible refine (H7.out _).mono ?_; rintro e w1 ⟨rfl, rfl⟩))
    go_ret
    exact ⟨rfl, below_drewN HB.out _⟩
  have n7 := H7.out; rw [show decide (0 ≤ F ∧ F ≤ 1048576) = true from by simp; omega] at n7; replace H7 := Lib.hid n7; clear n7
  by_cases h8 : G < 0
  · have d8 : decide (G < 0) = true := by simp; omega
    obtain rfl : c = 90 := by rw [hc]; exact if_neg (by rintro ⟨a, b, c, d, e, f, g, h⟩; omega)
    clear hc
    go_enter Try.func17, Try.ntmps17
    go_wp2
    go_quiet (first | (go_at_call 39; with_reducible exact Calls.quiet_of_same (pure_quiet (H2.out _))) | (go_at_call 39; with_reducible exact Calls.quiet_of_same (pure_quiet (H3.out _))) | (go_at_call 37; with_reducible exact Calls.quiet_of_same (pure_quiet (H5.out _))))
    go_wp2_with (first | (go_at_call 40; with_reducible refine (H6.out _).mono ?_; rintro e w1 ⟨rfl, rfl⟩) | (go_at_call 40; with_reducible refine (H7.out _).mono ?_; rintro e w1 ⟨rfl, rfl⟩))
    go_ret
    exact ⟨rfl, below_drewN HB.out _⟩
  have d8 : decide (G < 0) = false := by simp; omega
  by_cases h9 : 2 < G
  · have d9 : decide (2 < G) = true := by simp; omega
    obtain rfl : c = 90 := by rw [hc]; exact if_neg (by rintro ⟨a, b, c, d, e, f, g, h⟩; omega)
    clear hc
    go_enter Try.func17, Try.ntmps17
    go_wp2
    go_quiet (first | (go_at_call 39; with_reducible exact Calls.quiet_of_same (pure_quiet (H2.out _))) | (go_at_call 39; with_reducible exact Calls.quiet_of_same (pure_quiet (H3.out _))) | (go_at_call 37; with_reducible exact Calls.quiet_of_same (pure_quiet (H5.out _))))
    go_wp2_with (first | (go_at_call 40; with_reducible refine (H6.out _).mono ?_; rintro e w1 ⟨rfl, rfl⟩) | (go_at_call 40; with_reducible refine (H7.out _).mono ?_; rintro e w1 ⟨rfl, rfl⟩))
    go_ret
    exact ⟨rfl, below_drewN HB.out _⟩
  have d9 : decide (2 < G) = false := by simp; omega
  have H8 := Lib.hid (fun W => vhas_any S I W (by omega) (by omega))
  by_cases h10 : G = 0
  · subst h10
    obtain rfl : c = 0 := by rw [hc]; exact if_pos ⟨by omega, by omega, by omega, by omega, by omega, by omega, by omega, .inl rfl, by omega⟩
    clear hc
    go_enter Try.func17, Try.ntmps17
    go_wp2
    go_quiet (first | (go_at_call 39; with_reducible exact Calls.quiet_of_same (pure_quiet (H2.out _))) | (go_at_call 39; with_reducible exact Calls.quiet_of_same (pure_quiet (H3.out _))) | (go_at_call 37; with_reducible exact Calls.quiet_of_same (pure_quiet (H5.out _))))
    go_wp2_with (first | (go_at_call 40; with_reducible refine (H6.out _).mono ?_; rintro e w1 ⟨rfl, rfl⟩) | (go_at_call 40; with_reducible refine (H7.out _).mono ?_; rintro e w1 ⟨rfl, rfl⟩))
    go_ret
    exact ⟨rfl, below_drewN HB.out _⟩
  have d10 : (G != 0) = true := by simpa using h10
  by_cases h11 : hasI S I = true
  · have n8 := H8.out; rw [h11] at n8; replace H8 := Lib.hid n8; clear n8
    by_cases h12 : G = 2
    · subst h12
      by_cases h13 : R = I
      · subst h13
        obtain rfl : c = 90 := by rw [hc]; exact if_neg (by rintro ⟨a, b, c, d, e, f, g, h, j⟩; exact j ⟨rfl, rfl⟩)
        clear hc
        go_enter Try.func17, Try.ntmps17
        go_wp2
        go_quiet (first | (go_at_call 39; with_reducible exact Calls.quiet_of_same (pure_quiet (H2.out _))) | (go_at_call 39; with_reducible exact Calls.quiet_of_same (pure_quiet (H3.out _))) | (go_at_call 37; with_reducible exact Calls.quiet_of_same (pure_quiet (H5.out _))))
        go_wp2_with (first | (go_at_call 40; with_reducible refine (H6.out _).mono ?_; rintro e w1 ⟨rfl, rfl⟩) | (go_at_call 40; with_reducible refine (H7.out _).mono ?_; rintro e w1 ⟨rfl, rfl⟩) | (go_at_call 41; with_reducible refine (H8.out _).mono ?_; rintro e w1 ⟨rfl, rfl⟩))
        go_ret
        exact ⟨rfl, below_drewN HB.out _⟩
      · have d13 : (R == I) = false := by simpa using h13
        obtain rfl : c = 0 := by rw [hc]; exact if_pos ⟨by omega, by omega, by omega, by omega, by omega, by omega, by omega, .inr h11, by omega⟩
        clear hc
        go_enter Try.func17, Try.ntmps17
        go_wp2
        go_quiet (first | (go_at_call 39; with_reducible exact Calls.quiet_of_same (pure_quiet (H2.out _))) | (go_at_call 39; with_reducible exact Calls.quiet_of_same (pure_quiet (H3.out _))) | (go_at_call 37; with_reducible exact Calls.quiet_of_same (pure_quiet (H5.out _))))
        go_wp2_with (first | (go_at_call 40; with_reducible refine (H6.out _).mono ?_; rintro e w1 ⟨rfl, rfl⟩) | (go_at_call 40; with_reducible refine (H7.out _).mono ?_; rintro e w1 ⟨rfl, rfl⟩) | (go_at_call 41; with_reducible refine (H8.out _).mono ?_; rintro e w1 ⟨rfl, rfl⟩))
        go_ret
        exact ⟨rfl, below_drewN HB.out _⟩
    · have d12 : (G == 2) = false := by simpa using h12
      obtain rfl : c = 0 := by rw [hc]; exact if_pos ⟨by omega, by omega, by omega, by omega, by omega, by omega, by omega, .inr h11, by omega⟩
      clear hc
      go_enter Try.func17, Try.ntmps17
      go_wp2
      go_quiet (first | (go_at_call 39; with_reducible exact Calls.quiet_of_same (pure_quiet (H2.out _))) | (go_at_call 39; with_reducible exact Calls.quiet_of_same (pure_quiet (H3.out _))) | (go_at_call 37; with_reducible exact Calls.quiet_of_same (pure_quiet (H5.out _))))
      go_wp2_with (first | (go_at_call 40; with_reducible refine (H6.out _).mono ?_; rintro e w1 ⟨rfl, rfl⟩) | (go_at_call 40; with_reducible refine (H7.out _).mono ?_; rintro e w1 ⟨rfl, rfl⟩) | (go_at_call 41; with_reducible refine (H8.out _).mono ?_; rintro e w1 ⟨rfl, rfl⟩))
      go_ret
      exact ⟨rfl, below_drewN HB.out _⟩
  · rw [Bool.not_eq_true] at h11
    have n8 := H8.out; rw [h11] at n8; replace H8 := Lib.hid n8; clear n8
    obtain rfl : c = 90 := by rw [hc]; exact if_neg (by rintro ⟨a, b, c, d, e, f, g, h, j⟩; rcases h with h | h; exact h10 h; rw [h11] at h; cases h)
    clear hc
    go_enter Try.func17, Try.ntmps17
    go_wp2
    go_quiet (first | (go_at_call 39; with_reducible exact Calls.quiet_of_same (pure_quiet (H2.out _))) | (go_at_call 39; with_reducible exact Calls.quiet_of_same (pure_quiet (H3.out _))) | (go_at_call 37; with_reducible exact Calls.quiet_of_same (pure_quiet (H5.out _))))
    go_wp2_with (first | (go_at_call 40; with_reducible refine (H6.out _).mono ?_; rintro e w1 ⟨rfl, rfl⟩) | (go_at_call 40; with_reducible refine (H7.out _).mono ?_; rintro e w1 ⟨rfl, rfl⟩) | (go_at_call 41; with_reducible refine (H8.out _).mono ?_; rintro e w1 ⟨rfl, rfl⟩))
    go_ret
    exact ⟨rfl, below_drewN HB.out _⟩
end Go.Proofs.Ytffbhdllepjdeaa
