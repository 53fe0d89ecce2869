/-
  Settle, of package fta and of the document: clocks behind some rounds in which nothing is seen wrong. Conditions: those that each theorem names.
-/
import Derived.Test.YtfncccjiiipfoaaFU
namespace Go.Proofs.Ytfncccjiiipfoaa
open Go.RowKit

theorem stepsS_length (rows : List (List Int)) (cs : List Int) (h : cs.length ≤ 8) : ∀ k, (stepsS rows k cs).length ≤ 8 := by
  intro k
  induction k with
  | zero => exact h
  | succ k ih =>
    show (roundS (stepsS rows k cs) rows).1.length ≤ 8
    unfold roundS
    split
    · exact Nat.zero_le _
    · split
      · exact Nat.zero_le _
      · show (roundL _ _).length ≤ 8
        rw [roundL_length]; exact ih
theorem settleS_arg {cs : List Int} {r : Int} (h : ¬ (0 ≤ r ∧ r ≤ 64 ∧ 4 ≤ cs.length ∧ cs.length ≤ 8)) : settleS cs r = ([], 2) := by unfold settleS; rw [if_pos h]
theorem settleS_off {cs : List Int} {r : Int} (h : 0 ≤ r ∧ r ≤ 64 ∧ 4 ≤ cs.length ∧ cs.length ≤ 8) (h2 : offS cs = true) : settleS cs r = ([], 80) := by unfold settleS; rw [if_neg (fun e => e h), if_pos h2]
theorem settleS_fit {cs : List Int} {r : Int} (h : 0 ≤ r ∧ r ≤ 64 ∧ 4 ≤ cs.length ∧ cs.length ≤ 8) (h2 : offS cs = false) : settleS cs r = (stepsS (zeroR cs.length) r.toNat cs, 0) := by unfold settleS; rw [if_neg (fun e => e h), if_neg (by rw [h2]; decide)]

set_option maxRecDepth 8000 in
set_option maxHeartbeats 8000000 in
theorem settle_any (A : Option Addr) (n c : Nat) (cs : List Int) (r : Int) (w : World) (hn : n = cs.length) (hm : n ≤ maxLen) (hA : Ints w.heap.size w A cs) :
    Calls Try.prog 21 #[.slice A n c, .int .i64 r] w fun e w' => ∃ B d, e = .returned (roundV B d (settleS cs r)) ∧ Ints w'.heap.size w' B (settleS cs r).1 ∧ Below w.heap.size w w' := by
  have hcl := fun w => isCluster_any A n c w
  have hof := isOff_any A n c cs w hn hm hA
  unfold roundV
  by_cases h1 : 0 ≤ r
  · have d1 : decide (r < 0) = false := by simp; omega
    by_cases h2 : r ≤ 64
    · have d2 : decide (64 < r) = false := by simp; omega
      by_cases h3 : 4 ≤ n ∧ n ≤ 8
      · have q1 : (decide (4 ≤ n) && decide (n ≤ 8)) = true := by simp [h3]
        rw [q1] at hcl
        have off := settleS_off (cs := cs) (r := r)
        have fit := settleS_fit (cs := cs) (r := r)
        rw [← hn] at off fit
        replace off := off ⟨h1, h2, h3.1, h3.2⟩
        replace fit := fit ⟨h1, h2, h3.1, h3.2⟩
        cases hq : offS cs with
        | true =>
          rw [off hq]
          rw [hq] at hof
          have HCL := Lib.hid hcl; have HOF := Lib.hid hof
          clear off fit hcl hof hA hn hq q1
          go_enter Try.func21, Try.ntmps21
          go_wp2_with (first
            | (go_at_call 29; refine (HCL.out _).mono ?_; rintro e w1 ⟨rfl, rfl⟩)
            | (go_at_call 31; refine HOF.out.mono ?_; rintro e w2 ⟨rfl, rfl⟩))
          go_ret2
          exact ⟨none, 0, rfl, ints_nil _ _, Below.refl _ _⟩
        | false =>
          rw [fit hq]
          rw [hq] at hof
          have hcopy := jcopy_any A n c cs w hn (by omega) hA (fun e => by
            obtain ⟨b, off, h, -⟩ := hA (by rintro rfl; simp at hn; omega)
            rw [e] at h; cases h)
          have hright := fun w1 => right_any n w1 h3.2
          have hz0 : stepsS (zeroR n) 0 cs = cs := rfl
          have hsl := stepsS_length (zeroR n) cs (by omega)
          have hrd : ∀ (B X : Option Addr) (d xc k g : Nat) (w1 : World), Ints w1.heap.size w1 B (stepsS (zeroR n) k cs) → RowsJ w1.heap.size w1 X (zrows g n) → Calls Try.prog 19 #[.slice B (stepsS (zeroR n) k cs).length d, .slice X n xc] w1 fun e w' => ∃ B2 d2, e = .returned (.tuple #[.slice B2 (stepsS (zeroR n) (k + 1) cs).length d2, .int .i64 (roundS (stepsS (zeroR n) k cs) (zeroR n)).2]) ∧ Ints w'.heap.size w' B2 (stepsS (zeroR n) (k + 1) cs) ∧ Below w1.heap.size w1 w' := fun B X d xc k g w1 hI hR => by
            have := round_any B X (stepsS (zeroR n) k cs).length d n xc (stepsS (zeroR n) k cs) (zrows g n) w1 rfl (by have := hsl k; unfold maxLen; omega) hI (by unfold zrows; simp) (by unfold maxLen; omega) hR
            rw [zrows_l] at this
            exact this
          generalize hst : stepsS (zeroR n) = st at *
          have HCL := Lib.hid hcl; have HOF := Lib.hid hof; have HCO := Lib.hid hcopy; have HRI := Lib.hid hright; have HRD := Lib.hid hrd; have HZ := Lib.hid hz0; have HN := Lib.hid hn
          clear off fit hcl hof hA hn hq q1 hcopy hright hrd hz0 hsl hst
          go_enter Try.func21, Try.ntmps21
          go_wp2_with (first
            | (go_at_call 29; refine (HCL.out _).mono ?_; rintro e w1 ⟨rfl, rfl⟩)
            | (go_at_call 31; refine HOF.out.mono ?_; rintro e w2 ⟨rfl, rfl⟩)
            | (go_at_call 10; refine HCO.out.mono ?_; rintro e w1 ⟨B, d, rfl, -, -, -, hI, hB⟩)
            | (go_at_call 35; refine (HRI.out _).mono ?_; rintro e w2 ⟨rfl, hR, hC⟩; have hI2 := (hI.below hC).mono hC.size; have hB2 := hB.trans (hC.mono hB.size); clear hC hI hB))
          generalize w1.heap.size = g at *
          have e0 : n = (st 0 cs).length := by rw [HZ.out]; exact HN.out
          rw [← HZ.out] at hI2
          have HE := Lib.hid e0; clear e0
          go_loopw [6, 27] (fun ov i wr => ∃ (k : Nat) (B : Option Addr) (d : Nat), (k : Int) ≤ r ∧ i = .int .i64 k ∧ ov = .slice B (st k cs).length d ∧ Ints wr.heap.size wr B (st k cs) ∧ RowsJ wr.heap.size wr (some ⟨g, 0, none⟩) (zrows g n) ∧ Below w.heap.size w wr) (fun _ i _ => r.toNat - (intOf i).toNat)
          case atStart => exact ⟨0, B, d, by omega, rfl, by rw [← HE.out], hI2, hR, hB2⟩
          case round =>
            obtain ⟨k, B', d', hk, rfl, rfl, hI, hR', hB⟩ := hrel
            clear hI2 hR hB2
            by_cases hlt : (k : Int) < r
            · have hc := HRD.out B' (some ⟨g, 0, none⟩) d' n k g _ hI hR'
              have HC := Lib.hid hc; clear hc
              generalize (roundS (st k cs) (zeroR n)).2 = er at *
              generalize (st k cs).length = ln at *
              generalize hl2 : (st (k + 1) cs).length = ln2 at *
              have HL2 := Lib.hid hl2; clear hl2
              go_wp2_with (go_at_call 19; refine HC.out.mono ?_; rintro e w3 ⟨B3, d3, rfl, hI3, hC3⟩; have hR3 := (hR'.below hC3).mono hC3.size; have hB3 := hB.trans (hC3.mono hB.size); clear hC3 hI hR' hB)
              go_roundw
              case rel => exact ⟨k + 1, B3, d3, by omega, by go_num, by rw [HL2.out], hI3, hR3, hB3⟩
              case measure => simp [intOf]; omega
            · have hkr : r.toNat = k := by omega
              rw [hkr]
              go_wp2
              go_ret2
              exact ⟨B', ⟨d', rfl⟩, hI, hB⟩
      · have q1 : (decide (4 ≤ n) && decide (n ≤ 8)) = false := by rw [Bool.and_eq_false_iff]; simp; omega
        rw [q1] at hcl
        rw [settleS_arg (fun h => h3 ⟨by omega, by omega⟩)]
        have HCL := Lib.hid hcl
        clear q1 hA hn hcl hof h3
        go_enter Try.func21, Try.ntmps21
        go_wp2_with (first
          | (go_at_call 29; refine (HCL.out _).mono ?_; rintro e w1 ⟨rfl, rfl⟩))
        go_ret2
        exact ⟨none, 0, rfl, ints_nil _ _, Below.refl _ _⟩
    · have d2 : decide (64 < r) = true := by simp; omega
      rw [settleS_arg (fun h => h2 h.2.1)]
      clear hA hn hcl hof h2
      go_enter Try.func21, Try.ntmps21
      go_wp2
      go_ret2
      exact ⟨none, 0, rfl, ints_nil _ _, Below.refl _ _⟩
  · have d1 : decide (r < 0) = true := by simp; omega
    rw [settleS_arg (fun h => h1 h.1)]
    clear hA hn hcl hof h1
    go_enter Try.func21, Try.ntmps21
    go_wp2
    go_ret2
    exact ⟨none, 0, rfl, ints_nil _ _, Below.refl _ _⟩
end Go.Proofs.Ytfncccjiiipfoaa
