/-
  The program's Find. Conditions: rows that can be read, of up to 65,536 samples.
-/
import Derived.Test.YtdmedhklcicpeaaW4
import Derived.Test.YtdmedhklcicpeaaS7
namespace Go.Proofs.Ytdmedhklcicpeaa
open Go.RowKit

set_option maxRecDepth 4000 in
set_option maxHeartbeats 400000 in
theorem absolute_any (n : Int) (w : World) (h0 : -4611686018427387904 ≤ n) (h1 : n ≤ 4611686018427387904) : Calls Try.prog 73 #[.int .i64 n] w fun e w' => e = .returned (.int .i64 (absS n)) ∧ w = w' := by
  unfold absS
  have hw : IntKind.i64.wrap (-n) = -n := IntWalk.i64_in _ (by omega)
  have e : (if n < 0 then -n else n) = (if -n > n then -n else n) := by split <;> split <;> omega
  rw [e]
  clear e
  go_enter Try.func73, Try.ntmps73
  go_wp2
  all_goals
    go_ret
    exact ⟨rfl, rfl⟩

set_option maxRecDepth 4000 in
set_option maxHeartbeats 4000000 in
theorem quartersOf_any (x y : Int) (w : World) (hx0 : -4194304 ≤ x) (hx1 : x ≤ 4194304) (hy0 : -4194304 ≤ y) (hy1 : y ≤ 4194304) :
    Calls Try.prog 53 #[.agg #[.int .i64 x, .int .i64 y]] w fun e w' => e = .returned (.int .i64 (quartS (x, y))) ∧ Below w.heap.size w w' := by
  have h1 := fun (w1 : World) => absolute_any x w1 (by omega) (by omega)
  have h2 := fun (w1 : World) => absolute_any y w1 (by omega) (by omega)
  unfold quartS
  dsimp only
  have hax : 0 ≤ absS x ∧ absS x ≤ 4194304 := by unfold absS; split <;> omega
  have hay : 0 ≤ absS y ∧ absS y ≤ 4194304 := by unfold absS; split <;> omega
  generalize absS x = ax at *
  generalize absS y = ay at *
  have H1 := Lib.hid h1; have H2 := Lib.hid h2; clear h1 h2
  have fin : ∀ m, Below w.heap.size w ((w.alloc (.cells #[.int .i64 x, .int .i64 y] 38)).drewN m) := fun m => below_drewN ((Below.refl _ _).alloc (Nat.le_refl _) _) m
  have HF := Lib.hid fin; clear fin
  have hwn : IntKind.i64.wrap (-x) = -x := IntWalk.i64_in _ (by omega)
  obtain ⟨R, hR⟩ : ∃ R, R = if 0 < x ∧ ay ≤ x then (0 : Int) else if 0 < y ∧ ax ≤ y then 1 else if x < 0 ∧ ay ≤ -x then 2 else 3 := ⟨_, rfl⟩
  rw [← hR]
  have HR := Lib.hid hR; clear hR
  go_enter Try.func53, Try.ntmps53
  go_wp2
  go_quiet (fail)
  have HFQ := Lib.hid (HF.out nq)
  generalize (w.alloc (.cells #[.int .i64 x, .int .i64 y] 38)).drewN nq = w2 at *
  by_cases a1 : 0 < x
  · have d1 : decide (0 < x) = true := by simpa using a1
    have d3 : decide (x < 0) = false := by simp; omega
    by_cases b1 : ay ≤ x
    · have d2 : decide (ay ≤ x) = true := by simpa using b1
      go_wp2_with (go_at_call 73; refine (H2.out _).mono ?_; rintro e w1 ⟨rfl, rfl⟩)
      go_ret
      rw [HR.out, if_pos (by omega)]
      exact ⟨rfl, HFQ.out⟩
    · have d2 : decide (ay ≤ x) = false := by simpa using b1
      by_cases c1 : 0 < y
      · have d4 : decide (0 < y) = true := by simpa using c1
        by_cases e1 : ax ≤ y
        · have d5 : decide (ax ≤ y) = true := by simpa using e1
          go_wp2_with fail
          refine (H2.out _).mono ?_
          rintro e w1 ⟨rfl, rfl⟩
          go_wp2_with fail
          refine (H1.out _).mono ?_
          rintro e w1 ⟨rfl, rfl⟩
          go_wp2
          go_ret
          rw [HR.out, if_neg (by omega), if_pos (by omega)]
          exact ⟨rfl, HFQ.out⟩
        · have d5 : decide (ax ≤ y) = false := by simpa using e1
          go_wp2_with fail
          refine (H2.out _).mono ?_
          rintro e w1 ⟨rfl, rfl⟩
          go_wp2_with fail
          refine (H1.out _).mono ?_
          rintro e w1 ⟨rfl, rfl⟩
          go_wp2
          go_ret
          rw [HR.out, if_neg (by omega), if_neg (by omega), if_neg (by omega)]
          exact ⟨rfl, HFQ.out⟩
      · have d4 : decide (0 < y) = false := by simpa using c1
        go_wp2_with (go_at_call 73; refine (H2.out _).mono ?_; rintro e w1 ⟨rfl, rfl⟩)
        go_ret
        rw [HR.out, if_neg (by omega), if_neg (by omega), if_neg (by omega)]
        exact ⟨rfl, HFQ.out⟩
  · have d1 : decide (0 < x) = false := by simpa using a1
    by_cases c1 : 0 < y
    · have d4 : decide (0 < y) = true := by simpa using c1
      by_cases e1 : ax ≤ y
      · have d5 : decide (ax ≤ y) = true := by simpa using e1
        go_wp2_with (go_at_call 73; refine (H1.out _).mono ?_; rintro e w1 ⟨rfl, rfl⟩)
        go_ret
        rw [HR.out, if_neg (by omega), if_pos (by omega)]
        exact ⟨rfl, HFQ.out⟩
      · have d5 : decide (ax ≤ y) = false := by simpa using e1
        by_cases g1 : x < 0
        · have d6 : decide (x < 0) = true := by simpa using g1
          go_wp2_with fail
          refine (H1.out _).mono ?_
          rintro e w1 ⟨rfl, rfl⟩
          go_wp2_with fail
          refine (H2.out _).mono ?_
          rintro e w1 ⟨rfl, rfl⟩
          by_cases k1 : ay ≤ -x
          · have d7 : decide (ay ≤ -x) = true := by simpa using k1
            go_wp2
            go_ret
            rw [HR.out, if_neg (by omega), if_neg (by omega), if_pos (by omega)]
            exact ⟨rfl, HFQ.out⟩
          · have d7 : decide (ay ≤ -x) = false := by simpa using k1
            go_wp2
            go_ret
            rw [HR.out, if_neg (by omega), if_neg (by omega), if_neg (by omega)]
            exact ⟨rfl, HFQ.out⟩
        · have d6 : decide (x < 0) = false := by simpa using g1
          go_wp2_with (go_at_call 73; refine (H1.out _).mono ?_; rintro e w1 ⟨rfl, rfl⟩)
          go_ret
          rw [HR.out, if_neg (by omega), if_neg (by omega), if_neg (by omega)]
          exact ⟨rfl, HFQ.out⟩
    · have d4 : decide (0 < y) = false := by simpa using c1
      by_cases g1 : x < 0
      · have d6 : decide (x < 0) = true := by simpa using g1
        go_wp2_with fail
        refine (H2.out _).mono ?_
        rintro e w1 ⟨rfl, rfl⟩
        by_cases k1 : ay ≤ -x
        · have d7 : decide (ay ≤ -x) = true := by simpa using k1
          go_wp2
          go_ret
          rw [HR.out, if_neg (by omega), if_neg (by omega), if_pos (by omega)]
          exact ⟨rfl, HFQ.out⟩
        · have d7 : decide (ay ≤ -x) = false := by simpa using k1
          go_wp2
          go_ret
          rw [HR.out, if_neg (by omega), if_neg (by omega), if_neg (by omega)]
          exact ⟨rfl, HFQ.out⟩
      · have d6 : decide (x < 0) = false := by simpa using g1
        go_wp2
        go_ret
        rw [HR.out, if_neg (by omega), if_neg (by omega), if_neg (by omega)]
        exact ⟨rfl, HFQ.out⟩

theorem match_beyond (l : List Sp) (k : Nat) (h : (l.length : Int) - 8 < (k : Int)) : (matchS l (k : Int)).2.2 = false := by
  unfold matchS
  rw [if_pos (.inr (.inl h))]

set_option maxRecDepth 4000 in
set_option maxHeartbeats 2000000 in
theorem find_any (A : Option Addr) (n c : Nat) (l : List Sp) (fr : Int) (w : World) (hn : n = l.length) (hm : n ≤ 65536) (hcap : n ≤ c) (hA : Smps w.heap.size w A l) :
    Calls Try.prog 26 #[.slice A n c, .int .i64 fr] w fun e w' => e = .returned (.tuple #[.int .i64 (findS l fr).1, .int .i64 (findS l fr).2.1, .int .i64 (findS l fr).2.2]) ∧ Below w.heap.size w w' := by
  have hma := fun (w1 : World) (k : Nat) (h : Below w.heap.size w w1) => match_any A n c l (k : Nat) w1 hn hm hcap ((hA.below h).mono h.size)
  have HMA := Lib.hid hma; have HN := Lib.hid hn; clear hma hA hn
  by_cases h0 : fr < 0
  · have e : findS l fr = (0, 0, 2) := by unfold findS; rw [if_pos h0]
    rw [e]
    have hd : decide (fr < 0) = true := by simpa using h0
    go_enter Try.func26, Try.ntmps26
    go_wp2
    exact bodyPost_ret (v := .tuple #[.int .i64 0, .int .i64 0, .int .i64 2]) (by simp [results, Try.results26, go_sem]) rfl ⟨rfl, Below.refl _ _⟩
  · have hd : decide (fr < 0) = false := by simpa using h0
    obtain ⟨f, rfl⟩ := Int.eq_ofNat_of_zero_le (show 0 ≤ fr by omega)
    obtain ⟨R, hR⟩ : ∃ R, R = findS l (f : Nat) := ⟨_, rfl⟩
    rw [← hR]
    have HR := Lib.hid hR; clear hR
    go_enter Try.func26, Try.ntmps26
    go_wp2
    go_loopw [7] (fun i wr => ∃ k : Nat, f ≤ k ∧ i = .int .i64 k ∧ (∀ j, f ≤ j → j < k → (matchS l j).2.2 = false) ∧ Below w.heap.size w wr)
      (fun i _ => n - (intOf i).toNat)
    case atStart => exact ⟨f, Nat.le_refl _, rfl, fun j h1 h2 => by omega, Below.refl _ _⟩
    case round =>
      obtain ⟨k, hfk, rfl, hno, hBr⟩ := hrel
      have HNO := Lib.hid hno; clear hno
      by_cases hlt : (k : Int) ≤ (n : Int) - 8
      · have hd1 : decide ((k : Int) ≤ (n : Int) - 8) = true := by simpa using hlt
        have hmc := HMA.out wr k hBr
        have hbd := match_bound l (k : Nat)
        have hso := find_some l f k hfk (by have := HN.out; omega) HNO.out
        generalize hmm : matchS l (k : Nat) = mm at *
        obtain ⟨⟨mI, mQ⟩, mn, mb⟩ := mm
        dsimp only at hmc hbd hso
        have HMC := Lib.hid hmc; clear hmc
        cases mb
        · have hno2 : ∀ j, f ≤ j → j < k + 1 → (matchS l j).2.2 = false := fun j h1 h2 => by
            rcases Nat.lt_or_ge j k with h | h
            · exact HNO.out j h1 h
            · obtain rfl : j = k := by omega
              rw [hmm]
          have HNO2 := Lib.hid hno2
          clear hno2 hso hmm
          go_wp2_with fail
          refine HMC.out.mono ?_
          rintro e w2 ⟨rfl, hB2⟩
          go_wp2
          go_roundw
          case rel => exact ⟨k + 1, by omega, by go_num, HNO2.out, (hBr.trans (hB2.mono hBr.size)).alloc (hBr.trans (hB2.mono hBr.size)).size _⟩
          case measure => simp [intOf]; omega
        · have hr := hso rfl
          have hqu := fun (w1 : World) => quartersOf_any mI mQ w1 hbd.1.1 hbd.1.2 hbd.2.1 hbd.2.2
          generalize quartS (mI, mQ) = qq at *
          have HRR := Lib.hid hr; have HQ := Lib.hid hqu
          clear hr hqu hso hmm
          go_wp2_with fail
          refine HMC.out.mono ?_
          rintro e w2 ⟨rfl, hB2⟩
          have bw2 := (hBr.trans (hB2.mono hBr.size)).alloc (hBr.trans (hB2.mono hBr.size)).size (.cells #[.int .i64 mI, .int .i64 mQ] 38)
          go_wp2_with fail
          refine (HQ.out _).mono ?_
          rintro e w3 ⟨rfl, hB3⟩
          go_wp2
          exact bodyPost_ret (v := .tuple #[.int .i64 k, .int .i64 qq, .int .i64 0]) (by simp [results, Try.results26, go_sem]) rfl ⟨by rw [HR.out, HRR.out], bw2.trans (hB3.mono bw2.size)⟩
      · have hr := find_none l f (fun j h1 h2 => by
          rcases Nat.lt_or_ge j k with h | h
          · exact HNO.out j h1 h
          · exact match_beyond l j (by have := HN.out; omega))
        have HRR := Lib.hid hr; clear hr
        have hd0 : decide ((k : Int) ≤ (n : Int) - 8) = false := by simpa using hlt
        go_wp2
        exact bodyPost_ret (v := .tuple #[.int .i64 0, .int .i64 0, .int .i64 4]) (by simp [results, Try.results26, go_sem]) rfl ⟨by rw [HR.out, HRR.out], hBr⟩
end Go.Proofs.Ytdmedhklcicpeaa
