/-
  Kept, Midpoint and Spread of package fta. Conditions: those that each theorem names.
-/
import Derived.Test.YtfncccjiiipfoaaFF
namespace Go.Proofs.Ytfncccjiiipfoaa
open Go.RowKit

theorem Ints.cell {n₀ : Nat} {w : World} {g : Nat} {l : List Int} (h : Ints n₀ w (some ⟨g, 0, none⟩) l) {k : Nat} (hk : k < l.length) : w.cell? ⟨g, k, none⟩ = some (.int .i64 (nth l k)) := by
  obtain ⟨b, off, e, _, hc⟩ := h.nAt hk
  injection e with e
  injection e with e1 e2 _
  subst e1; subst e2
  rw [Nat.zero_add] at hc
  exact hc

theorem Ints.low {n₀ : Nat} {w : World} {g o : Nat} {l : List Int} (h : Ints n₀ w (some ⟨g, o, none⟩) l) (hl : 0 < l.length) : g < n₀ := by
  obtain ⟨b, off, e, hb, _⟩ := h.nAt hl
  injection e with e
  injection e with e1 _ _
  rw [e1]; exact hb

set_option maxRecDepth 4000 in
set_option maxHeartbeats 1000000 in
theorem kept_any (A : Option Addr) (n c : Nat) (l : List Int) (w : World) (hn : n = l.length) (hm : n ≤ 65536) (hA : Ints w.heap.size w A l) :
    Calls Try.prog 11 #[.slice A n c] w fun e w' => e = .returned (keptV (keptS l)) ∧ Below w.heap.size w w' := by
  by_cases h0 : n = 0
  · subst h0
    rw [keptS_none hn.symm]
    clear hA hn
    go_enter Try.func11, Try.ntmps11
    go_wp2
    go_ret3
    exact ⟨rfl, Below.refl _ _⟩
  have hso := sorted_any A n c l w hn hm hA
  obtain ⟨m, rfl⟩ : ∃ m, n = m + 1 := ⟨n - 1, by omega⟩
  have hlast : l.length - 1 = m := by omega
  have hcells := fun (w1 : World) (g : Nat) (hI : Ints w1.heap.size w1 (some ⟨g, 0, none⟩) (sortI l)) (k : Nat) (hk : k < m + 1) => hI.cell (k := k) (by rw [sortI_length]; omega)
  have HSO := Lib.hid hso; clear hso hA
  have hl0 : 0 < l.length := by omega
  have HL := Lib.hid hl0; clear hl0
  obtain ⟨lo, hlo⟩ : ∃ x, nth (sortI l) 0 = x := ⟨_, rfl⟩
  by_cases h1 : lo < -mOff
  · rw [keptS_off (by omega) (.inl (by rw [hlo]; exact h1))]
    unfold mOff at h1
    clear hn hlast h0
    go_enter Try.func11, Try.ntmps11
    go_wp2_with (go_at_call 23; refine HSO.out.mono ?_; rintro e w1 ⟨g, rfl, hI, hB⟩; have hgl := hI.low (by rw [sortI_length]; exact HL.out); have c0 := hcells _ _ hI 0 (by omega); rw [hlo] at c0; clear hI)
    go_ret3
    exact ⟨rfl, hB⟩
  have d1 : decide (lo < -1099511627776) = false := by unfold mOff at h1; simp; omega
  obtain ⟨hi, hhi⟩ : ∃ x, nth (sortI l) m = x := ⟨_, rfl⟩
  by_cases h2 : mOff < hi
  · rw [keptS_off (by omega) (.inr (by rw [hlast, hhi]; exact h2))]
    have d2 : decide (hi ≤ 1099511627776) = false := by unfold mOff at h2; simp; omega
    have d3 : decide (1099511627776 < hi) = true := by unfold mOff at h2; simp; omega
    clear h1 h2
    clear hn hlast h0
    go_enter Try.func11, Try.ntmps11
    go_wp2_with (go_at_call 23; refine HSO.out.mono ?_; rintro e w1 ⟨g, rfl, hI, hB⟩; have hgl := hI.low (by rw [sortI_length]; exact HL.out); have c0 := hcells _ _ hI 0 (by omega); rw [hlo] at c0; have c1 := hcells _ _ hI m (by omega); rw [hhi] at c1; clear hI)
    go_ret3
    exact ⟨rfl, hB⟩
  have d2 : decide (hi ≤ 1099511627776) = true := by unfold mOff at h2; simp; omega
  have d3 : decide (1099511627776 < hi) = false := by unfold mOff at h2; simp; omega
  rw [keptS_fit (by omega) (by rw [hlast, hhi, hlo]; omega)]
  clear h1 h2
  by_cases h4 : 4 ≤ m + 1
  · obtain ⟨j, rfl⟩ : ∃ j, m = j + 1 := ⟨m - 1, by omega⟩
    have l1 : keptLo l = nth (sortI l) 1 := by unfold keptLo loAt; rw [if_pos (by omega)]
    have l2 : keptHi l = nth (sortI l) j := by unfold keptHi hiAt; rw [if_pos (by omega), ← hn]; rfl
    rw [l1, l2]
    clear l1 l2
    obtain ⟨p, hp⟩ : ∃ x, nth (sortI l) 1 = x := ⟨_, rfl⟩
    obtain ⟨q, hq⟩ : ∃ x, nth (sortI l) j = x := ⟨_, rfl⟩
    rw [hp, hq]
    clear hn hlast h0
    go_enter Try.func11, Try.ntmps11
    go_wp2_with (go_at_call 23; refine HSO.out.mono ?_; rintro e w1 ⟨g, rfl, hI, hB⟩; have hgl := hI.low (by rw [sortI_length]; exact HL.out); have c0 := hcells _ _ hI 0 (by omega); rw [hlo] at c0; have c1 := hcells _ _ hI (j + 1) (by omega); rw [hhi] at c1; have c2 := hcells _ _ hI 1 (by omega); rw [hp] at c2; have c3 := hcells _ _ hI j (by omega); rw [hq] at c3; clear hI)
    go_quiet (fail)
    go_wp2
    go_ret3
    exact ⟨rfl, below_drewN hB _⟩
  · have l1 := (kept_few l (by omega)).1
    have l2 := (kept_few l (by omega)).2
    rw [l1, l2, hlast, hlo, hhi]
    have d4 : decide (4 ≤ (m : Int) + 1) = false := by simp; omega
    clear l1 l2
    clear hn hlast h0
    go_enter Try.func11, Try.ntmps11
    go_wp2_with (go_at_call 23; refine HSO.out.mono ?_; rintro e w1 ⟨g, rfl, hI, hB⟩; have hgl := hI.low (by rw [sortI_length]; exact HL.out); have c0 := hcells _ _ hI 0 (by omega); rw [hlo] at c0; have c1 := hcells _ _ hI m (by omega); rw [hhi] at c1; clear hI)
    go_quiet (fail)
    go_wp2
    go_ret3
    exact ⟨rfl, below_drewN hB _⟩
end Go.Proofs.Ytfncccjiiipfoaa
