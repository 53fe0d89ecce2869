/-
  The document's Kept, Midpoint, Spread. Conditions: those that each theorem names.
-/
import Derived.Test.YtfncccjiiipfoaaFC
namespace Go.Proofs.Ytfncccjiiipfoaa
open Go.RowKit

theorem keptS_none {l : List Int} (h : l.length = 0) : keptS l = (0, 0, 4) := by unfold keptS; rw [if_pos h]
theorem keptS_off {l : List Int} (h : ¬ l.length = 0) (h1 : nth (sortI l) 0 < -mOff ∨ mOff < nth (sortI l) (l.length - 1)) : keptS l = (0, 0, 80) := by unfold keptS; rw [if_neg h, if_pos h1]
theorem keptS_fit {l : List Int} (h : ¬ l.length = 0) (h1 : ¬ (nth (sortI l) 0 < -mOff ∨ mOff < nth (sortI l) (l.length - 1))) : keptS l = (keptLo l, keptHi l, 0) := by unfold keptS; rw [if_neg h, if_neg h1]
theorem keptS_bound (l : List Int) : -mOff ≤ (keptS l).1 ∧ (keptS l).1 ≤ (keptS l).2.1 ∧ (keptS l).2.1 ≤ mOff := by
  unfold keptS
  split
  · unfold mOff; decide
  · split
    · unfold mOff; decide
    · rename_i h0 h1
      have h3 := sort_rises l (Nat.zero_le (loAt l.length)) (loAt_lt (by omega))
      have h4 := sort_rises l (loAt_hiAt (n := l.length)) (hiAt_lt (by omega))
      have h5 := sort_rises l (i := hiAt l.length) (j := l.length - 1) (by have := hiAt_lt (n := l.length) (by omega); omega) (by omega)
      show -mOff ≤ keptLo l ∧ keptLo l ≤ keptHi l ∧ keptHi l ≤ mOff
      unfold keptLo keptHi; omega

/-- What Kept answers. -/
def keptV (r : Int × Int × Int) : Value := .tuple #[.int .i64 r.1, .int .i64 r.2.1, .int .i64 r.2.2]

set_option maxRecDepth 4000 in
set_option maxHeartbeats 2000000 in
theorem rkept_any (A : Option Addr) (n c : Nat) (l : List Int) (w : World) (hn : n = l.length) (hm : n ≤ 65536) (hA : Ints w.heap.size w A l) :
    Calls Try.prog 12 #[.slice A n c] w fun e w' => e = .returned (keptV (keptS l)) ∧ Below w.heap.size w w' := by
  by_cases h0 : n = 0
  · subst h0
    rw [keptS_none hn.symm]
    clear hA hn
    go_enter Try.func12, Try.ntmps12
    go_wp2
    go_ret3
    exact ⟨rfl, Below.refl _ _⟩
  have d0 : decide ((n : Int) = 0) = false := by simp; omega
  have d0' : ((n : Int) == 0) = false := by simp; omega
  have hlo := rleast_any A n c l w hn (by unfold maxLen; omega) (by omega) hA
  have hhi := rmost_any A n c l w hn (by unfold maxLen; omega) (by omega) hA
  by_cases h1 : nth (sortI l) 0 < -mOff
  · rw [keptS_off (by omega) (.inl h1)]
    generalize nth (sortI l) 0 = lo at *
    unfold mOff at h1
    have HLO := Lib.hid hlo; clear hlo hhi hA hn
    go_enter Try.func12, Try.ntmps12
    go_wp2_with (go_at_call 24; refine HLO.out.mono ?_; rintro e w1 ⟨rfl, rfl⟩)
    go_ret3
    exact ⟨rfl, Below.refl _ _⟩
  have d1 : decide (nth (sortI l) 0 < -1099511627776) = false := by unfold mOff at h1; simp; omega
  by_cases h2 : mOff < nth (sortI l) (l.length - 1)
  · rw [keptS_off (by omega) (.inr h2)]
    generalize nth (sortI l) 0 = lo at *
    generalize nth (sortI l) (l.length - 1) = hi at *
    unfold mOff at h2
    have HLO := Lib.hid hlo; have HHI := Lib.hid hhi; clear hlo hhi hA hn h1
    go_enter Try.func12, Try.ntmps12
    go_wp2_with (first | (go_at_call 24; refine HLO.out.mono ?_; rintro e w1 ⟨rfl, rfl⟩) | (go_at_call 25; refine HHI.out.mono ?_; rintro e w1 ⟨rfl, rfl⟩))
    go_ret3
    exact ⟨rfl, Below.refl _ _⟩
  have d2 : decide (nth (sortI l) (l.length - 1) ≤ 1099511627776) = true := by unfold mOff at h2; simp; omega
  have d2' : decide (1099511627776 < nth (sortI l) (l.length - 1)) = false := by unfold mOff at h2; simp; omega
  rw [keptS_fit (by omega) (by omega)]
  by_cases h4 : 4 ≤ n
  · have hw := without_any A n c l (nth (sortI l) 0) w hn hm hA
    have hml := fun w1 (h : Below w.heap.size w w1) => rmost_any A n c l w1 hn (by unfold maxLen; omega) (by omega) ((hA.below h).mono h.size)
    have hmi : 0 < l.length := by omega
    have hk := kept_ref l (by omega)
    have hle : (l.erase (nth (sortI l) 0)).length ≤ n := by rw [hn]; exact List.length_erase_le
    have hw2 := fun B d w1 (h : Ints w1.heap.size w1 B (l.erase (nth (sortI l) 0))) => without_any B _ d (l.erase (nth (sortI l) 0)) (nth (sortI l) (l.length - 1)) w1 rfl (by omega) h
    generalize nth (sortI l) 0 = lo at *
    generalize nth (sortI l) (l.length - 1) = hi at *
    generalize hl1 : l.erase lo = l1 at *
    generalize hl2 : l1.erase hi = l2 at *
    obtain ⟨hk0, hk1, hk2⟩ := hk
    rw [← hk1, ← hk2]
    have HN2 : l2.length = n - 2 := by omega
    have hlo2 := fun B d w2 (h : Ints w2.heap.size w2 B l2) => rleast_any B _ d l2 w2 rfl (by unfold maxLen; omega) (by omega) h
    have hhi2 := fun B d w2 (h : Ints w2.heap.size w2 B l2) => rmost_any B _ d l2 w2 rfl (by unfold maxLen; omega) (by omega) h
    have HLO := Lib.hid hlo; have HW := Lib.hid hw; have HW2 := Lib.hid hw2; have HML := Lib.hid hml; have HLO2 := Lib.hid hlo2; have HHI2 := Lib.hid hhi2
    have d4 : decide (4 ≤ (n : Int)) = true := by simp; omega
    have d5 : decide (hi ≤ 1099511627776) = true := d2
    have d6 : decide (1099511627776 < hi) = false := d2'
    clear hlo hhi hw hw2 hml hlo2 hhi2 hA hn h1 h2 hk0 hk1 hk2 hl1 hl2 hle HN2 d2 d2' hmi
    generalize nth (sortI l2) 0 = a at *
    generalize nth (sortI l2) (l2.length - 1) = b at *
    go_enter Try.func12, Try.ntmps12
    go_wp2_with (first
      | (have _ := hI2; go_at_call 25; refine (HHI2.out _ _ _ hI2).mono ?_; rintro e w6 ⟨rfl, rfl⟩)
      | (have _ := hI2; go_at_call 24; refine (HLO2.out _ _ _ hI2).mono ?_; rintro e w5 ⟨rfl, rfl⟩)
      | (have _ := hI; go_at_call 26; refine (HW2.out _ _ _ hI).mono ?_; rintro e w4 ⟨B2, d2, rfl, ho2, hB2⟩; obtain ⟨B3, d3, e3, -, -, hI2⟩ := ints_own ho2; injection e3 with e3 e4 e5; subst e3; subst e5)
      | (have _ := hI; go_at_call 25; refine (HML.out _ hB).mono ?_; rintro e w3 ⟨rfl, rfl⟩)
      | (go_at_call 26; refine HW.out.mono ?_; rintro e w2 ⟨B, d, rfl, ho, hB⟩; obtain ⟨B', d', e1, -, -, hI⟩ := ints_own ho; injection e1 with e1 e2 e3; subst e1; subst e3)
      | (go_at_call 25; refine (HML.out _ (Below.refl _ _)).mono ?_; rintro e w3 ⟨rfl, rfl⟩)
      | (go_at_call 24; refine HLO.out.mono ?_; rintro e w1 ⟨rfl, rfl⟩))
    go_ret3
    exact ⟨rfl, hB.trans (hB2.mono hB.size)⟩
  · have hk := kept_few l (by omega)
    rw [hk.1, hk.2]
    generalize nth (sortI l) 0 = lo at *
    generalize nth (sortI l) (l.length - 1) = hi at *
    have d4 : decide (4 ≤ (n : Int)) = false := by simp; omega
    have HLO := Lib.hid hlo; have HHI := Lib.hid hhi; clear hlo hhi hA hn h1 h2 hk
    go_enter Try.func12, Try.ntmps12
    go_wp2_with (first | (go_at_call 24; refine HLO.out.mono ?_; rintro e w1 ⟨rfl, rfl⟩) | (go_at_call 25; refine HHI.out.mono ?_; rintro e w1 ⟨rfl, rfl⟩))
    go_ret3
    exact ⟨rfl, Below.refl _ _⟩
end Go.Proofs.Ytfncccjiiipfoaa
