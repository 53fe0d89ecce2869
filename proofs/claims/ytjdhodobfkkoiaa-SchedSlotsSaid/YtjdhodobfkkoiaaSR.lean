/-
  Next of package sched and of the document, at all arguments. No condition.
-/
import Derived.Test.YtjdhodobfkkoiaaSQ
namespace Go.Proofs.Ytjdhodobfkkoiaa
open Go.RowKit

theorem first_div {a b n t : Int} (hb : 1 ≤ b) (h : a < t) : (t - a + b - 1) / b = firstS (a, b, n) t := by
  unfold firstS; dsimp only
  rw [if_neg (by omega), show t - a + b - 1 = (t - a - 1) + 1 * b by omega, Int.add_mul_ediv_right _ _ (by omega)]
set_option maxRecDepth 8000 in
set_option maxHeartbeats 2000000 in
theorem next_any (a b n t pos : Int) (w : World) : Calls Try.prog 31 #[vG a b n, .int .i64 t, .int .i64 pos] w fun e w' => e = .returned (.tuple #[.int .i64 (nextS (a, b, n) t pos).2, .int .i64 (nextS (a, b, n) t pos).1]) ∧ Below w.heap.size w w' := by
  have h1 := fun W => checkG_any a b n W
  simp only [chkG_if] at h1
  unfold nextS; dsimp only
  by_cases hx : okG (a, b, n)
  · simp only [hx, if_true] at h1 ⊢
    by_cases c0 : pos < 0
    · rw [if_pos c0]
      have d0_0 : decide (pos < 0) = true := by simp; omega
      have h2 := fun W => isMoment_any t W
      have H1 := Lib.hid h1; have H2 := Lib.hid h2; clear h1 h2
      obtain ⟨k1, k2, bc⟩ := bx2 w #[.int .i64 a, .int .i64 b, .int .i64 n] #[.int .i64 pos] 41 3
      go_enter Try.func31, Try.ntmps31
      go_wp2_with fail
      generalize (w.alloc (.cells #[.int .i64 a, .int .i64 b, .int .i64 n] 41)).alloc (.cells #[.int .i64 pos] 3) = u1 at *
      refine (H1.out _).mono ?_
      rintro e w1 ⟨rfl, hC⟩
      dsimp only
      replace k1 := k1.on hC; replace k2 := k2.on hC; replace bc := bc.trans (hC.mono bc.size); clear hC
      obtain ⟨pk1_0, pk1_1, pk1_2, pk1_0f, pk1_1f, pk1_2f⟩ := k1.three
      obtain ⟨pk2_0, pk2_0f⟩ := k2.one
      go_wp2
      clear pk1_0 pk1_1 pk1_2 pk1_0f pk1_1f pk1_2f pk2_0 pk2_0f
      go_ret2
      exact ⟨rfl, bc⟩
    rw [if_neg c0]
    have d0_0 : decide (pos < 0) = false := by simp; omega
    by_cases c1 : n ≤ pos
    · rw [if_pos c1]
      have d1_0 : decide (n ≤ pos) = true := by simp; omega
      have h2 := fun W => isMoment_any t W
      have H1 := Lib.hid h1; have H2 := Lib.hid h2; clear h1 h2
      obtain ⟨k1, k2, bc⟩ := bx2 w #[.int .i64 a, .int .i64 b, .int .i64 n] #[.int .i64 pos] 41 3
      go_enter Try.func31, Try.ntmps31
      go_wp2_with fail
      generalize (w.alloc (.cells #[.int .i64 a, .int .i64 b, .int .i64 n] 41)).alloc (.cells #[.int .i64 pos] 3) = u1 at *
      refine (H1.out _).mono ?_
      rintro e w1 ⟨rfl, hC⟩
      dsimp only
      replace k1 := k1.on hC; replace k2 := k2.on hC; replace bc := bc.trans (hC.mono bc.size); clear hC
      obtain ⟨pk1_0, pk1_1, pk1_2, pk1_0f, pk1_1f, pk1_2f⟩ := k1.three
      obtain ⟨pk2_0, pk2_0f⟩ := k2.one
      go_wp2
      clear pk1_0 pk1_1 pk1_2 pk1_0f pk1_1f pk1_2f pk2_0 pk2_0f
      go_ret2
      exact ⟨rfl, bc⟩
    rw [if_neg c1]
    have d1_0 : decide (n ≤ pos) = false := by simp; omega
    by_cases c2 : t < 0
    · rw [if_pos c2]
      have d2_0 : decide (t < 0) = true := by simp; omega
      have h2 := fun W => isMoment_any t W
      have hb : (decide (0 ≤ t) && decide (t ≤ 1099511627776)) = false := by simp; omega
      rw [hb] at h2; clear hb
      have H1 := Lib.hid h1; have H2 := Lib.hid h2; clear h1 h2
      obtain ⟨k1, k2, bc⟩ := bx2 w #[.int .i64 a, .int .i64 b, .int .i64 n] #[.int .i64 pos] 41 3
      go_enter Try.func31, Try.ntmps31
      go_wp2_with fail
      generalize (w.alloc (.cells #[.int .i64 a, .int .i64 b, .int .i64 n] 41)).alloc (.cells #[.int .i64 pos] 3) = u1 at *
      refine (H1.out _).mono ?_
      rintro e w1 ⟨rfl, hC⟩
      dsimp only
      replace k1 := k1.on hC; replace k2 := k2.on hC; replace bc := bc.trans (hC.mono bc.size); clear hC
      obtain ⟨pk1_0, pk1_1, pk1_2, pk1_0f, pk1_1f, pk1_2f⟩ := k1.three
      obtain ⟨pk2_0, pk2_0f⟩ := k2.one
      go_wp2_with (go_at_call 45; refine (H2.out _).mono ?_; rintro e w2 ⟨rfl, rfl⟩)
      clear pk1_0 pk1_1 pk1_2 pk1_0f pk1_1f pk1_2f pk2_0 pk2_0f
      go_ret2
      exact ⟨rfl, bc⟩
    rw [if_neg c2]
    have d2_0 : decide (t < 0) = false := by simp; omega
    by_cases c3 : 1099511627776 < t
    · rw [if_pos c3]
      have d3_0 : decide (1099511627776 < t) = true := by simp; omega
      have h2 := fun W => isMoment_any t W
      have hb : (decide (0 ≤ t) && decide (t ≤ 1099511627776)) = false := by simp; omega
      rw [hb] at h2; clear hb
      have H1 := Lib.hid h1; have H2 := Lib.hid h2; clear h1 h2
      obtain ⟨k1, k2, bc⟩ := bx2 w #[.int .i64 a, .int .i64 b, .int .i64 n] #[.int .i64 pos] 41 3
      go_enter Try.func31, Try.ntmps31
      go_wp2_with fail
      generalize (w.alloc (.cells #[.int .i64 a, .int .i64 b, .int .i64 n] 41)).alloc (.cells #[.int .i64 pos] 3) = u1 at *
      refine (H1.out _).mono ?_
      rintro e w1 ⟨rfl, hC⟩
      dsimp only
      replace k1 := k1.on hC; replace k2 := k2.on hC; replace bc := bc.trans (hC.mono bc.size); clear hC
      obtain ⟨pk1_0, pk1_1, pk1_2, pk1_0f, pk1_1f, pk1_2f⟩ := k1.three
      obtain ⟨pk2_0, pk2_0f⟩ := k2.one
      go_wp2_with (go_at_call 45; refine (H2.out _).mono ?_; rintro e w2 ⟨rfl, rfl⟩)
      clear pk1_0 pk1_1 pk1_2 pk1_0f pk1_1f pk1_2f pk2_0 pk2_0f
      go_ret2
      exact ⟨rfl, bc⟩
    rw [if_neg c3]
    have d3_0 : decide (1099511627776 < t) = false := by simp; omega
    exact next_yes a b n t pos w hx ⟨by omega, by omega⟩ ⟨by omega, by omega⟩
  · simp only [hx, if_false] at h1 ⊢
    have H1 := Lib.hid h1; clear h1
    obtain ⟨k1, k2, bc⟩ := bx2 w #[.int .i64 a, .int .i64 b, .int .i64 n] #[.int .i64 pos] 41 3
    go_enter Try.func31, Try.ntmps31
    go_wp2_with fail
    generalize (w.alloc (.cells #[.int .i64 a, .int .i64 b, .int .i64 n] 41)).alloc (.cells #[.int .i64 pos] 3) = u1 at *
    refine (H1.out _).mono ?_
    rintro e w1 ⟨rfl, hC⟩
    dsimp only
    replace k1 := k1.on hC; replace k2 := k2.on hC; replace bc := bc.trans (hC.mono bc.size); clear hC
    obtain ⟨pk1_0, pk1_1, pk1_2, pk1_0f, pk1_1f, pk1_2f⟩ := k1.three
    obtain ⟨pk2_0, pk2_0f⟩ := k2.one
    go_wp2
    clear pk1_0 pk1_1 pk1_2 pk1_0f pk1_1f pk1_2f pk2_0 pk2_0f
    go_ret2
    exact ⟨rfl, bc⟩
set_option maxRecDepth 8000 in
set_option maxHeartbeats 2000000 in
theorem rnext_any (a b n t pos : Int) (w : World) : Calls Try.prog 32 #[vG a b n, .int .i64 t, .int .i64 pos] w fun e w' => e = .returned (.tuple #[.int .i64 (nextS (a, b, n) t pos).2, .int .i64 (nextS (a, b, n) t pos).1]) ∧ Below w.heap.size w w' := by
  have h1 := fun W => rcheckG_any a b n W
  simp only [chkG_if] at h1
  unfold nextS; dsimp only
  by_cases hx : okG (a, b, n)
  · simp only [hx, if_true] at h1 ⊢
    by_cases c0 : pos < 0
    · rw [if_pos c0]
      have d0_0 : decide (pos < 0) = true := by simp; omega
      have H1 := Lib.hid h1; clear h1
      obtain ⟨k1, bc⟩ := bx1 w #[.int .i64 a, .int .i64 b, .int .i64 n] 41
      go_enter Try.func32, Try.ntmps32
      go_wp2_with fail
      generalize w.alloc (.cells #[.int .i64 a, .int .i64 b, .int .i64 n] 41) = u1 at *
      refine (H1.out _).mono ?_
      rintro e w1 ⟨rfl, hC⟩
      dsimp only
      replace k1 := k1.on hC; replace bc := bc.trans (hC.mono bc.size); clear hC
      obtain ⟨pk1_0, pk1_1, pk1_2, pk1_0f, pk1_1f, pk1_2f⟩ := k1.three
      go_wp2
      clear pk1_0 pk1_1 pk1_2 pk1_0f pk1_1f pk1_2f
      go_ret2
      exact ⟨rfl, bc⟩
    rw [if_neg c0]
    have d0_0 : decide (pos < 0) = false := by simp; omega
    by_cases c1 : n ≤ pos
    · rw [if_pos c1]
      have d1_0 : decide (n ≤ pos) = true := by simp; omega
      have H1 := Lib.hid h1; clear h1
      obtain ⟨k1, bc⟩ := bx1 w #[.int .i64 a, .int .i64 b, .int .i64 n] 41
      go_enter Try.func32, Try.ntmps32
      go_wp2_with fail
      generalize w.alloc (.cells #[.int .i64 a, .int .i64 b, .int .i64 n] 41) = u1 at *
      refine (H1.out _).mono ?_
      rintro e w1 ⟨rfl, hC⟩
      dsimp only
      replace k1 := k1.on hC; replace bc := bc.trans (hC.mono bc.size); clear hC
      obtain ⟨pk1_0, pk1_1, pk1_2, pk1_0f, pk1_1f, pk1_2f⟩ := k1.three
      go_wp2
      clear pk1_0 pk1_1 pk1_2 pk1_0f pk1_1f pk1_2f
      go_ret2
      exact ⟨rfl, bc⟩
    rw [if_neg c1]
    have d1_0 : decide (n ≤ pos) = false := by simp; omega
    by_cases c2 : t < 0
    · rw [if_pos c2]
      have d2_0 : decide (t < 0) = true := by simp; omega
      have H1 := Lib.hid h1; clear h1
      obtain ⟨k1, bc⟩ := bx1 w #[.int .i64 a, .int .i64 b, .int .i64 n] 41
      go_enter Try.func32, Try.ntmps32
      go_wp2_with fail
      generalize w.alloc (.cells #[.int .i64 a, .int .i64 b, .int .i64 n] 41) = u1 at *
      refine (H1.out _).mono ?_
      rintro e w1 ⟨rfl, hC⟩
      dsimp only
      replace k1 := k1.on hC; replace bc := bc.trans (hC.mono bc.size); clear hC
      obtain ⟨pk1_0, pk1_1, pk1_2, pk1_0f, pk1_1f, pk1_2f⟩ := k1.three
      go_wp2
      clear pk1_0 pk1_1 pk1_2 pk1_0f pk1_1f pk1_2f
      go_ret2
      exact ⟨rfl, bc⟩
    rw [if_neg c2]
    have d2_0 : decide (t < 0) = false := by simp; omega
    by_cases c3 : 1099511627776 < t
    · rw [if_pos c3]
      have d3_0 : decide (1099511627776 < t) = true := by simp; omega
      have H1 := Lib.hid h1; clear h1
      obtain ⟨k1, bc⟩ := bx1 w #[.int .i64 a, .int .i64 b, .int .i64 n] 41
      go_enter Try.func32, Try.ntmps32
      go_wp2_with fail
      generalize w.alloc (.cells #[.int .i64 a, .int .i64 b, .int .i64 n] 41) = u1 at *
      refine (H1.out _).mono ?_
      rintro e w1 ⟨rfl, hC⟩
      dsimp only
      replace k1 := k1.on hC; replace bc := bc.trans (hC.mono bc.size); clear hC
      obtain ⟨pk1_0, pk1_1, pk1_2, pk1_0f, pk1_1f, pk1_2f⟩ := k1.three
      go_wp2
      clear pk1_0 pk1_1 pk1_2 pk1_0f pk1_1f pk1_2f
      go_ret2
      exact ⟨rfl, bc⟩
    rw [if_neg c3]
    have d3_0 : decide (1099511627776 < t) = false := by simp; omega
    obtain ⟨⟨o0, o1⟩, ⟨o2, o3⟩, o4, o5⟩ := hx
    dsimp only at o0 o1 o2 o3 o4 o5
    obtain ⟨f1, -, f3⟩ := first_bound (n := n) (t := t) o0 o2 (by omega)
    have hfd := first_div (a := a) (b := b) (n := n) (t := t) o2
    have hf0 : t ≤ a → firstS (a, b, n) t = 0 := fun h => by unfold firstS; rw [if_pos h]
    generalize firstS (a, b, n) t = k0 at *
    obtain ⟨hh0, hh1⟩ := hop_in (k0 := k0) (pos := pos) (n := n) (by omega)
    have hhit := hop_hit (k0 := k0) (n := n) (pos := pos) (by omega) (by omega)
    have hfst := fun (j : Int) => hop_first (k0 := k0) (n := n) (pos := pos) (j := j) (by omega)
    generalize hop k0 n pos = hp at *
    obtain ⟨K, rfl⟩ := Int.eq_ofNat_of_zero_le f1
    obtain ⟨J, rfl⟩ := Int.eq_ofNat_of_zero_le hh0
    have HH := Lib.hid hhit; have HF := Lib.hid hfst; have H1 := Lib.hid h1; clear hhit hfst h1
    have e1 : IntKind.i64.wrap (t - a) = t - a := IntWalk.i64_in _ (by omega)
    have e2 : IntKind.i64.wrap (t - a + b) = t - a + b := IntWalk.i64_in _ (by omega)
    have e3 : IntKind.i64.wrap (t - a + b - 1) = t - a + b - 1 := IntWalk.i64_in _ (by omega)
    have hb0 : b ≠ 0 := by omega
    have hn0 : n ≠ 0 := by omega
    have e4 : a < t → IntKind.i64.wrap ((t - a + b - 1).tdiv b) = (K : Int) := fun h => by rw [quo_in (by omega) (by omega) o2]; exact hfd h
    clear hfd hh0 f1
    obtain ⟨k1, bc⟩ := bx1 w #[.int .i64 a, .int .i64 b, .int .i64 n] 41
    go_enter Try.func32, Try.ntmps32
    go_wp2_with fail
    generalize w.alloc (.cells #[.int .i64 a, .int .i64 b, .int .i64 n] 41) = u1 at *
    refine (H1.out _).mono ?_
    rintro e w1 ⟨rfl, hC⟩
    dsimp only
    replace k1 := k1.on hC; replace bc := bc.trans (hC.mono bc.size); clear hC
    obtain ⟨p0, p1, p2, -, -, -⟩ := k1.three
    have step : ∀ (W : World → Prop), True := fun _ => trivial
    clear step
    by_cases hta : a < t
    · have d9 : decide (a < t) = true := by simpa using hta
      have e5 := e4 hta
      clear e4 hf0
      go_wp2
      go_loopw [8] (fun i wr => ∃ m : Nat, m ≤ J ∧ i = .int .i64 ((K : Int) + (m : Int)) ∧ w1 = wr)
        (fun i _ => K + J - (intOf i).toNat)
      case atStart => exact ⟨0, by omega, by simp, rfl⟩
      case round =>
        obtain ⟨m, hm, rfl, rfl⟩ := hrel
        have hd : ((K : Int) + (m : Int)).tmod n = ((K : Int) + (m : Int)) % n := Int.tmod_eq_emod_of_nonneg (by omega)
        have hm1 : 0 ≤ ((K : Int) + (m : Int)) % n ∧ ((K : Int) + (m : Int)) % n < n := ⟨Int.emod_nonneg _ hn0, Int.emod_lt_of_pos _ (by omega)⟩
        have hwr : IntKind.i64.wrap (((K : Int) + (m : Int)) % n) = ((K : Int) + (m : Int)) % n := IntWalk.i64_in _ (by omega)
        have hw1 : IntKind.i64.wrap ((K : Int) + (m : Int) + 1) = (K : Int) + (m : Int) + 1 := IntWalk.i64_in _ (by omega)
        by_cases hmJ : m = J
        · subst hmJ
          have hh := HH.out
          rw [hh] at hd hwr
          have db : (pos != pos) = false := by simp
          clear hh hm1
          go_wp2
          go_ret2
          exact ⟨rfl, bc⟩
        · have hr : ((K : Int) + (m : Int)) % n ≠ pos := fun h => by have := HF.out (m : Int) (by omega) h; omega
          have db : (((K : Int) + (m : Int)) % n != pos) = true := by simpa using hr
          clear hr
          generalize ((K : Int) + (m : Int)) % n = r at *
          go_wp2
          go_roundw
          case rel => exact ⟨m + 1, by omega, by go_num, trivial⟩
          case measure => simp [intOf]; omega
    · have d9 : decide (a < t) = false := by simpa using hta
      have hK : (K : Int) = 0 := hf0 (by omega)
      clear e4 hf0
      obtain rfl : K = 0 := by omega
      have hh0 : (J : Int) % n = pos := by simpa using HH.out
      have hf1 : ∀ j : Int, 0 ≤ j → j % n = pos → (J : Int) ≤ j := fun j h1 h2 => HF.out j h1 (by simpa using h2)
      clear HH HF
      have HH := Lib.hid hh0; have HF := Lib.hid hf1; clear hh0 hf1
      go_wp2
      go_loopw [8] (fun i wr => ∃ m : Nat, m ≤ J ∧ i = .int .i64 (m : Int) ∧ w1 = wr)
        (fun i _ => J - (intOf i).toNat)
      case atStart => exact ⟨0, by omega, rfl, rfl⟩
      case round =>
        obtain ⟨m, hm, rfl, rfl⟩ := hrel
        have hd : (m : Int).tmod n = (m : Int) % n := Int.tmod_eq_emod_of_nonneg (by omega)
        have hm1 : 0 ≤ (m : Int) % n ∧ (m : Int) % n < n := ⟨Int.emod_nonneg _ hn0, Int.emod_lt_of_pos _ (by omega)⟩
        have hwr : IntKind.i64.wrap ((m : Int) % n) = (m : Int) % n := IntWalk.i64_in _ (by omega)
        have hw1 : IntKind.i64.wrap ((m : Int) + 1) = (m : Int) + 1 := IntWalk.i64_in _ (by omega)
        by_cases hmJ : m = J
        · subst hmJ
          have hh := HH.out
          rw [hh] at hd hwr
          have db : (pos != pos) = false := by simp
          clear hh hm1
          go_wp2
          go_ret2
          exact ⟨by simp, bc⟩
        · have hr : (m : Int) % n ≠ pos := fun h => by have := HF.out (m : Int) (by omega) h; omega
          have db : ((m : Int) % n != pos) = true := by simpa using hr
          clear hr
          generalize (m : Int) % n = r at *
          go_wp2
          go_roundw
          case rel => exact ⟨m + 1, by omega, by go_num, trivial⟩
          case measure => simp [intOf]; omega
  · simp only [hx, if_false] at h1 ⊢
    have H1 := Lib.hid h1; clear h1
    obtain ⟨k1, bc⟩ := bx1 w #[.int .i64 a, .int .i64 b, .int .i64 n] 41
    go_enter Try.func32, Try.ntmps32
    go_wp2_with fail
    generalize w.alloc (.cells #[.int .i64 a, .int .i64 b, .int .i64 n] 41) = u1 at *
    refine (H1.out _).mono ?_
    rintro e w1 ⟨rfl, hC⟩
    dsimp only
    replace k1 := k1.on hC; replace bc := bc.trans (hC.mono bc.size); clear hC
    obtain ⟨pk1_0, pk1_1, pk1_2, pk1_0f, pk1_1f, pk1_2f⟩ := k1.three
    go_wp2
    clear pk1_0 pk1_1 pk1_2 pk1_0f pk1_1f pk1_2f
    go_ret2
    exact ⟨rfl, bc⟩
end Go.Proofs.Ytjdhodobfkkoiaa
