/-
  The document's Check of layer 9: which views may be. No condition.
-/
import Derived.Test.YtffbhdllepjdeaaVC
namespace Go.Proofs.Ytffbhdllepjdeaa
open Go.RowKit

set_option maxRecDepth 8000 in
set_option maxHeartbeats 16000000 in
theorem rvcheck_any (m : MV) (w : World) : Calls Try.prog 18 #[.agg m.cells] w fun e w' => e = .returned (.int .i64 (chkV m)) ∧ Below w.heap.size w w' := by
  obtain ⟨I, N, S, A, F, G, R⟩ := m
  unfold MV.cells
  dsimp only
  have HB := Lib.hid (Below.al w (.cells (cM I N S A F G R) 23))
  obtain ⟨c, hc⟩ : ∃ c, c = chkV ⟨I, N, S, A, F, G, R⟩ := ⟨_, rfl⟩
  rw [← hc]
  unfold chkV okV at hc
  dsimp only at hc
  by_cases h0 : N < 4
  · have d0 : decide (N < 4) = true := by simp; omega
    obtain rfl : c = 90 := by rw [hc]; exact if_neg (by rintro ⟨a, b, c, d, e, f, g, h⟩; omega)
    clear hc
    go_enter Try.func18, Try.ntmps18
    go_wp2
    go_quiet (fail)
    go_wp2
    go_ret
    exact ⟨rfl, below_drewN HB.out _⟩
  have d0 : decide (N < 4) = false := by simp; omega
  by_cases h1 : 8 < N
  · have d1 : decide (8 < N) = true := by simp; omega
    obtain rfl : c = 90 := by rw [hc]; exact if_neg (by rintro ⟨a, b, c, d, e, f, g, h⟩; omega)
    clear hc
    go_enter Try.func18, Try.ntmps18
    go_wp2
    go_quiet (fail)
    go_wp2
    go_ret
    exact ⟨rfl, below_drewN HB.out _⟩
  have d1 : decide (8 < N) = false := by simp; omega
  by_cases h2 : I < 0
  · have d2 : decide (I < 0) = true := by simp; omega
    obtain rfl : c = 90 := by rw [hc]; exact if_neg (by rintro ⟨a, b, c, d, e, f, g, h⟩; omega)
    clear hc
    go_enter Try.func18, Try.ntmps18
    go_wp2
    go_quiet (fail)
    go_wp2
    go_ret
    exact ⟨rfl, below_drewN HB.out _⟩
  have d2 : decide (I < 0) = false := by simp; omega
  by_cases h3 : N ≤ I
  · have d3 : decide (N ≤ I) = true := by simp; omega
    obtain rfl : c = 90 := by rw [hc]; exact if_neg (by rintro ⟨a, b, c, d, e, f, g, h⟩; omega)
    clear hc
    go_enter Try.func18, Try.ntmps18
    go_wp2
    go_quiet (fail)
    go_wp2
    go_ret
    exact ⟨rfl, below_drewN HB.out _⟩
  have d3 : decide (N ≤ I) = false := by simp; omega
  by_cases h4 : R < 0
  · have d4 : decide (R < 0) = true := by simp; omega
    obtain rfl : c = 90 := by rw [hc]; exact if_neg (by rintro ⟨a, b, c, d, e, f, g, h⟩; omega)
    clear hc
    go_enter Try.func18, Try.ntmps18
    go_wp2
    go_quiet (fail)
    go_wp2
    go_ret
    exact ⟨rfl, below_drewN HB.out _⟩
  have d4 : decide (R < 0) = false := by simp; omega
  by_cases h5 : N ≤ R
  · have d5 : decide (N ≤ R) = true := by simp; omega
    obtain rfl : c = 90 := by rw [hc]; exact if_neg (by rintro ⟨a, b, c, d, e, f, g, h⟩; omega)
    clear hc
    go_enter Try.func18, Try.ntmps18
    go_wp2
    go_quiet (fail)
    go_wp2
    go_ret
    exact ⟨rfl, below_drewN HB.out _⟩
  have d5 : decide (N ≤ R) = false := by simp; omega
  by_cases h6 : S < 0
  · have d6 : decide (S < 0) = true := by simp; omega
    obtain rfl : c = 90 := by rw [hc]; exact if_neg (by rintro ⟨a, b, c, d, e, f, g, h⟩; omega)
    clear hc
    go_enter Try.func18, Try.ntmps18
    go_wp2
    go_quiet (fail)
    go_wp2
    go_ret
    exact ⟨rfl, below_drewN HB.out _⟩
  have d6 : decide (S < 0) = false := by simp; omega
  have hpw := pw_mono (a := N) (b := pw N) (by omega) (by omega) rfl
  have H5 := Lib.hid (fun W => rvbit_any N W (by omega) (by omega))
  by_cases h7 : pw N ≤ S
  · have d7 : decide (pw N ≤ S) = true := by simp; omega
    obtain rfl : c = 90 := by rw [hc]; exact if_neg (by rintro ⟨a, b, c, d, e, f, g, h⟩; omega)
    clear hc
    go_enter Try.func18, Try.ntmps18
    go_wp2
    go_quiet ((go_at_call 34; with_reducible exact Calls.quiet_of_same (pure_quiet (H5.out _))))
    go_wp2
    go_ret
    exact ⟨rfl, below_drewN HB.out _⟩
  have d7 : decide (pw N ≤ S) = false := by simp; omega
  by_cases h8 : A < 0
  · have d8 : decide (A < 0) = true := by simp; omega
    obtain rfl : c = 90 := by rw [hc]; exact if_neg (by rintro ⟨a, b, c, d, e, f, g, h⟩; omega)
    clear hc
    go_enter Try.func18, Try.ntmps18
    go_wp2
    go_quiet ((go_at_call 34; with_reducible exact Calls.quiet_of_same (pure_quiet (H5.out _))))
    go_wp2
    go_ret
    exact ⟨rfl, below_drewN HB.out _⟩
  have d8 : decide (A < 0) = false := by simp; omega
  by_cases h9 : 1048576 < A
  · have d9 : decide (1048576 < A) = true := by simp; omega
    obtain rfl : c = 90 := by rw [hc]; exact if_neg (by rintro ⟨a, b, c, d, e, f, g, h⟩; omega)
    clear hc
    go_enter Try.func18, Try.ntmps18
    go_wp2
    go_quiet ((go_at_call 34; with_reducible exact Calls.quiet_of_same (pure_quiet (H5.out _))))
    go_wp2
    go_ret
    exact ⟨rfl, below_drewN HB.out _⟩
  have d9 : decide (1048576 < A) = false := by simp; omega
  by_cases h10 : F < 0
  · have d10 : decide (F < 0) = true := by simp; omega
    obtain rfl : c = 90 := by rw [hc]; exact if_neg (by rintro ⟨a, b, c, d, e, f, g, h⟩; omega)
    clear hc
    go_enter Try.func18, Try.ntmps18
    go_wp2
    go_quiet ((go_at_call 34; with_reducible exact Calls.quiet_of_same (pure_quiet (H5.out _))))
    go_wp2
    go_ret
    exact ⟨rfl, below_drewN HB.out _⟩
  have d10 : decide (F < 0) = false := by simp; omega
  by_cases h11 : 1048576 < F
  · have d11 : decide (1048576 < F) = true := by simp; omega
    obtain rfl : c = 90 := by rw [hc]; exact if_neg (by rintro ⟨a, b, c, d, e, f, g, h⟩; omega)
    clear hc
    go_enter Try.func18, Try.ntmps18
    go_wp2
    go_quiet ((go_at_call 34; with_reducible exact Calls.quiet_of_same (pure_quiet (H5.out _))))
    go_wp2
    go_ret
    exact ⟨rfl, below_drewN HB.out _⟩
  have d11 : decide (1048576 < F) = false := by simp; omega
  by_cases h12 : G < 0
  · have d12 : decide (G < 0) = true := by simp; omega
    obtain rfl : c = 90 := by rw [hc]; exact if_neg (by rintro ⟨a, b, c, d, e, f, g, h⟩; omega)
    clear hc
    go_enter Try.func18, Try.ntmps18
    go_wp2
    go_quiet ((go_at_call 34; with_reducible exact Calls.quiet_of_same (pure_quiet (H5.out _))))
    go_wp2
    go_ret
    exact ⟨rfl, below_drewN HB.out _⟩
  have d12 : decide (G < 0) = false := by simp; omega
  by_cases h13 : 2 < G
  · have d13 : decide (2 < G) = true := by simp; omega
    obtain rfl : c = 90 := by rw [hc]; exact if_neg (by rintro ⟨a, b, c, d, e, f, g, h⟩; omega)
    clear hc
    go_enter Try.func18, Try.ntmps18
    go_wp2
    go_quiet ((go_at_call 34; with_reducible exact Calls.quiet_of_same (pure_quiet (H5.out _))))
    go_wp2
    go_ret
    exact ⟨rfl, below_drewN HB.out _⟩
  have d13 : decide (2 < G) = false := by simp; omega
  have H8 := Lib.hid (fun W => rvbit_any I W (by omega) (by omega))
  by_cases h20 : G = 0
  · subst h20
    obtain rfl : c = 0 := by rw [hc]; exact if_pos ⟨by omega, by omega, by omega, by omega, by omega, by omega, by omega, .inl rfl, by omega⟩
    clear hc
    go_enter Try.func18, Try.ntmps18
    go_wp2
    go_quiet ((go_at_call 34; with_reducible exact Calls.quiet_of_same (pure_quiet (H5.out _))))
    go_wp2
    go_quiet (fail)
    go_wp2
    go_ret
    exact ⟨rfl, below_drewN (below_drewN HB.out _) _⟩
  have d20 : (G != 0) = true := by simpa using h20
  by_cases h21 : hasI S I = true
  · have d21 : (bits .and .i64 S (pw I) == 0) = false := by unfold hasI at h21; simpa using h21
    by_cases h22 : G = 2
    · subst h22
      by_cases h23 : R = I
      · subst h23
        obtain rfl : c = 90 := by rw [hc]; exact if_neg (by rintro ⟨a, b, c, d, e, f, g, h, j⟩; exact j ⟨rfl, rfl⟩)
        clear hc
        go_enter Try.func18, Try.ntmps18
        go_wp2
        go_quiet ((go_at_call 34; with_reducible exact Calls.quiet_of_same (pure_quiet (H5.out _))))
        go_wp2
        go_quiet ((go_at_call 34; with_reducible exact pure_quiet2 (H8.out _)))
        go_wp2
        go_ret
        exact ⟨rfl, below_drewN (below_drewN HB.out _) _⟩
      · have d23 : (R == I) = false := by simpa using h23
        obtain rfl : c = 0 := by rw [hc]; exact if_pos ⟨by omega, by omega, by omega, by omega, by omega, by omega, by omega, .inr h21, by omega⟩
        clear hc
        go_enter Try.func18, Try.ntmps18
        go_wp2
        go_quiet ((go_at_call 34; with_reducible exact Calls.quiet_of_same (pure_quiet (H5.out _))))
        go_wp2
        go_quiet ((go_at_call 34; with_reducible exact pure_quiet2 (H8.out _)))
        go_wp2
        go_ret
        exact ⟨rfl, below_drewN (below_drewN HB.out _) _⟩
    · have d22 : (G == 2) = false := by simpa using h22
      obtain rfl : c = 0 := by rw [hc]; exact if_pos ⟨by omega, by omega, by omega, by omega, by omega, by omega, by omega, .inr h21, by omega⟩
      clear hc
      go_enter Try.func18, Try.ntmps18
      go_wp2
      go_quiet ((go_at_call 34; with_reducible exact Calls.quiet_of_same (pure_quiet (H5.out _))))
      go_wp2
      go_quiet ((go_at_call 34; with_reducible exact pure_quiet2 (H8.out _)))
      go_wp2
      go_ret
      exact ⟨rfl, below_drewN (below_drewN HB.out _) _⟩
  · have d21 : (bits .and .i64 S (pw I) == 0) = true := by unfold hasI at h21; simpa using h21
    obtain rfl : c = 90 := by rw [hc]; exact if_neg (by rintro ⟨a, b, c, d, e, f, g, h, j⟩; rcases h with h | h; exact h20 h; exact h21 h)
    clear hc
    go_enter Try.func18, Try.ntmps18
    go_wp2
    go_quiet ((go_at_call 34; with_reducible exact Calls.quiet_of_same (pure_quiet (H5.out _))))
    go_wp2
    go_quiet ((go_at_call 34; with_reducible exact pure_quiet2 (H8.out _)))
    go_wp2
    go_ret
    exact ⟨rfl, below_drewN (below_drewN HB.out _) _⟩
end Go.Proofs.Ytffbhdllepjdeaa
