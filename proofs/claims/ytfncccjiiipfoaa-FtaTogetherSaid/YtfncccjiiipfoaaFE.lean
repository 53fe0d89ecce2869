/-
  The document's Midpoint and Spread. Conditions: those that each theorem names.
-/
import Derived.Test.YtfncccjiiipfoaaFD
namespace Go.Proofs.Ytfncccjiiipfoaa
open Go.RowKit

theorem keptS_err {l : List Int} (h : ¬ (keptS l).2.2 = 0) : (keptS l).1 = 0 ∧ (keptS l).2.1 = 0 := by
  unfold keptS at *
  split
  · exact ⟨rfl, rfl⟩
  · split
    · exact ⟨rfl, rfl⟩
    · rename_i h0 h1; rw [if_neg h0, if_neg h1] at h; exact absurd rfl h
theorem half_up (s : Int) (h : 0 ≤ s) : s.tdiv 2 = s / 2 := Int.tdiv_eq_ediv_of_nonneg h
theorem half_even (s : Int) (h : s.tmod 2 = 0) : s.tdiv 2 = s / 2 := by
  have := Int.mul_tdiv_add_tmod s 2; omega
theorem half_odd (s : Int) (h0 : s < 0) (h : ¬ s.tmod 2 = 0) : s.tdiv 2 - 1 = s / 2 := by
  have h1 := Int.mul_tdiv_add_tmod s 2
  have h2 := Int.neg_tmod (-s) 2
  rw [Int.neg_neg] at h2
  have h3 := Int.tmod_nonneg (a := -s) 2 (by omega)
  have h4 := Int.tmod_lt_of_pos (-s) (b := 2) (by decide)
  omega
/-- What Midpoint answers. -/
def midV (r : Int × Int) : Value := .tuple #[.int .i64 r.1, .int .i64 r.2]

set_option maxRecDepth 4000 in
set_option maxHeartbeats 1000000 in
theorem rmid_any (A : Option Addr) (n c : Nat) (l : List Int) (w : World) (hn : n = l.length) (hm : n ≤ 65536) (hA : Ints w.heap.size w A l) :
    Calls Try.prog 14 #[.slice A n c] w fun e w' => e = .returned (midV (midS l)) ∧ Below w.heap.size w w' := by
  have hk := rkept_any A n c l w hn hm hA
  have hb := keptS_bound l
  have he := keptS_err (l := l)
  unfold midV midS
  unfold keptV at hk
  generalize keptS l = r at *
  obtain ⟨a, b, e⟩ := r
  dsimp only at *
  unfold mOff at hb
  have HK := Lib.hid hk; clear hk hA hn
  have e1 : IntKind.i64.wrap (a + b) = a + b := IntWalk.i64_in _ (by omega)
  by_cases h0 : e = 0
  · subst h0
    clear he
    generalize hs : a + b = s at *
    by_cases h1 : s < 0
    · have d1 : decide (s < 0) = true := by simpa using h1
      by_cases h2 : s.tmod 2 = 0
      · have hq := half_even s h2
        have d2 : (s.tmod 2 == 0) = true := by simpa using h2
        have d3 : (s.tmod 2 != 0) = false := by simpa using h2
        obtain ⟨q, hs2⟩ : ∃ q, s / 2 = q := ⟨_, rfl⟩
        rw [hs2] at hq ⊢
        have e2 : IntKind.i64.wrap q = q := IntWalk.i64_in _ (by omega)
        clear h2 hs2
        go_enter Try.func14, Try.ntmps14
        go_wp2_with (go_at_call 12; refine HK.out.mono ?_; rintro e w1 ⟨rfl, hB⟩)
        go_ret2
        exact ⟨rfl, hB⟩
      · have hq := half_odd s h1 h2
        have d2 : (s.tmod 2 == 0) = false := by simpa using h2
        have d3 : (s.tmod 2 != 0) = true := by simpa using h2
        rw [← hq]
        obtain ⟨q, hq2⟩ : ∃ q, s.tdiv 2 = q := ⟨_, rfl⟩
        rw [hq2] at hq ⊢
        have e2 : IntKind.i64.wrap (q - 1) = q - 1 := IntWalk.i64_in _ (by omega)
        have e3 : IntKind.i64.wrap q = q := IntWalk.i64_in _ (by omega)
        have HQ := Lib.hid hq
        clear h2 hq
        go_enter Try.func14, Try.ntmps14
        go_wp2_with (go_at_call 12; refine HK.out.mono ?_; rintro e w1 ⟨rfl, hB⟩)
        go_ret2
        exact ⟨rfl, hB⟩
    · have d1 : decide (s < 0) = false := by simpa using h1
      have hq := half_up s (by omega)
      clear hq
      go_enter Try.func14, Try.ntmps14
      go_wp2_with (go_at_call 12; refine HK.out.mono ?_; rintro e w1 ⟨rfl, hB⟩)
      go_ret2
      exact ⟨rfl, hB⟩
  · obtain ⟨rfl, rfl⟩ := he h0
    have d0 : decide (e = 0) = false := by simpa using h0
    have d1 : (e == 0) = false := by simpa using h0
    have d2 : (e != 0) = true := by simpa using h0
    clear hb e1 he
    go_enter Try.func14, Try.ntmps14
    go_wp2_with (go_at_call 12; refine HK.out.mono ?_; rintro e w1 ⟨rfl, hB⟩)
    go_ret2
    exact ⟨rfl, hB⟩

set_option maxRecDepth 4000 in
set_option maxHeartbeats 1000000 in
theorem rspread_any (A : Option Addr) (n c : Nat) (l : List Int) (w : World) (hn : n = l.length) (hm : n ≤ 65536) (hA : Ints w.heap.size w A l) :
    Calls Try.prog 17 #[.slice A n c] w fun e w' => e = .returned (.int .i64 (wrap64 (spreadS l))) ∧ w' = w := by
  by_cases h0 : n = 0
  · subst h0
    have : spreadS l = 0 := by unfold spreadS; rw [if_pos hn.symm]
    rw [this, IntWalk.wrap64_in 0 (by omega)]
    clear hA hn this
    go_enter Try.func17, Try.ntmps17
    go_wp2
    go_ret
    exact ⟨rfl, rfl⟩
  have d0 : decide ((n : Int) = 0) = false := by simp; omega
  have d0' : ((n : Int) == 0) = false := by simp; omega
  have hlo := rleast_any A n c l w hn (by unfold maxLen; omega) (by omega) hA
  have hhi := rmost_any A n c l w hn (by unfold maxLen; omega) (by omega) hA
  have : spreadS l = nth (sortI l) (l.length - 1) - nth (sortI l) 0 := by unfold spreadS; rw [if_neg (by omega)]
  rw [this]; clear this
  generalize nth (sortI l) 0 = lo at *
  generalize nth (sortI l) (l.length - 1) = hi at *
  have HLO := Lib.hid hlo; have HHI := Lib.hid hhi; clear hlo hhi hA hn
  go_enter Try.func17, Try.ntmps17
  go_wp2_with (first | (go_at_call 24; refine HLO.out.mono ?_; rintro e w1 ⟨rfl, rfl⟩) | (go_at_call 25; refine HHI.out.mono ?_; rintro e w1 ⟨rfl, rfl⟩))
  go_ret
  exact ⟨rfl, rfl⟩
end Go.Proofs.Ytfncccjiiipfoaa
