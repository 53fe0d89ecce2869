/-
  The document's functions of package phasor over rows of samples: may all be, one turned, two bits as a sample. Conditions: those that each theorem names.
-/
import Derived.Test.YtdmedhklcicpeaaS1
namespace Go.Proofs.Ytdmedhklcicpeaa
open Go.RowKit

theorem all_take_may (l : List Sp) (k : Nat) (h : k < l.length) : (l.take (k + 1)).all mayS = ((l.take k).all mayS && mayS (l[k]?.getD (0, 0))) := by
  rw [List.take_add_one, List.getElem?_eq_getElem h, List.all_append]; simp
theorem not_all_may (l : List Sp) (k : Nat) (h : k < l.length) (hm : mayS (l[k]?.getD (0, 0)) = false) : l.all mayS = false := by
  rw [List.all_eq_false]
  refine ⟨l[k], List.getElem_mem h, ?_⟩
  rw [List.getElem?_eq_getElem h] at hm
  simpa using hm

set_option maxRecDepth 4000 in
set_option maxHeartbeats 1000000 in
theorem rmays_any (A : Option Addr) (n c : Nat) (l : List Sp) (w : World) (hn : n = l.length) (hm : n ≤ maxLen) (hA : Smps w.heap.size w A l) :
    Calls Try.prog 48 #[.slice A n c] w fun e w' => e = .returned (.bool (l.all mayS)) ∧ Below w.heap.size w w' := by
  unfold maxLen at hm
  have HN := Lib.hid hn; have HA := Lib.hid hA; clear hn hA
  obtain ⟨R, hR⟩ : ∃ R, R = l.all mayS := ⟨_, rfl⟩
  rw [← hR]
  have HR := Lib.hid hR; clear hR
  go_enter Try.func48, Try.ntmps48
  go_wp2
  go_loopw [3] (fun i wr => ∃ k : Nat, k ≤ n ∧ i = .int .i64 k ∧ (l.take k).all mayS = true ∧ Below w.heap.size w wr)
    (fun i _ => n - (intOf i).toNat)
  case atStart => exact ⟨0, by omega, rfl, rfl, Below.refl _ _⟩
  case round =>
    obtain ⟨k, hk, rfl, hall, hBr⟩ := hrel
    have HALL := Lib.hid hall; clear hall
    by_cases hlt : k < n
    · have hkl : k < l.length := by have := HN.out; omega
      obtain ⟨b, off, rfl, hbl, hc0, hc1⟩ := (HA.out.below hBr).at_ hkl
      have hts := all_take_may l k hkl
      have hno := not_all_may l k hkl
      have hbs : b < wr.heap.size := Nat.lt_of_lt_of_le hbl hBr.size
      generalize l[k]?.getD (0, 0) = s at *
      obtain ⟨x, y⟩ := s
      dsimp only at hc0 hc1
      have hmy := rmay_any x y wr
      by_cases hms : mayS (x, y) = true
      · rw [hms] at hmy
        rw [hms, HALL.out] at hts
        have HTS := Lib.hid hts; have HMY := Lib.hid hmy
        clear hts hno hms hmy hkl
        go_wp2_with (go_at_call 72; refine HMY.out.mono ?_; rintro e w2 ⟨rfl, hB2⟩)
        go_roundw
        case rel => exact ⟨k + 1, by omega, by go_num, HTS.out, hBr.trans (hB2.mono hBr.size)⟩
        case measure => simp [intOf]; omega
      · rw [Bool.not_eq_true] at hms
        rw [hms] at hmy
        have hr := hno hms
        have HG := Lib.hid hr; have HMY := Lib.hid hmy
        clear hts hno hms hmy hr hkl
        go_wp2_with (go_at_call 72; refine HMY.out.mono ?_; rintro e w2 ⟨rfl, hB2⟩)
        go_ret
        rw [HR.out, HG.out]
        exact ⟨rfl, hBr.trans (hB2.mono hBr.size)⟩
    · have htk : l.take k = l := List.take_of_length_le (by have := HN.out; omega)
      have hall := HALL.out
      rw [htk] at hall
      have HG := Lib.hid hall; clear hall
      go_wp2
      go_ret
      rw [HR.out, HG.out]
      exact ⟨rfl, hBr⟩

set_option maxRecDepth 4000 in
set_option maxHeartbeats 1000000 in
theorem rturned_any (x y q : Int) (w : World) (hs : mayS (x, y) = true) :
    Calls Try.prog 49 #[.agg #[.int .i64 x, .int .i64 y], .int .i64 q] w fun e w' => e = .returned (.agg #[.int .i64 (turn1 (x, y) q).1, .int .i64 (turn1 (x, y) q).2]) ∧ Below w.heap.size w w' := by
  obtain ⟨⟨hx0, hx1⟩, hy0, hy1⟩ := (mayS_iff _).1 hs
  dsimp only at hx0 hx1 hy0 hy1
  clear hs
  obtain ⟨t, ht⟩ : ∃ t, q.tmod 4 = t := ⟨_, rfl⟩
  have htl : -4 < t ∧ t < 4 := by
    rw [← ht]
    have h1 := Int.tmod_lt_of_pos q (show (0 : Int) < 4 by decide)
    have h2 := Int.lt_tmod_of_pos q (show (0 : Int) < 4 by decide)
    omega
  have hr : (t + 4) % 4 = q % 4 := by
    rw [← ht]
    have := Int.tmod_add_mul_tdiv q 4
    omega
  have hr2 : (t + 4).tmod 4 = q % 4 := by rw [Int.tmod_eq_emod_of_nonneg (by omega)]; exact hr
  have hc : q % 4 = 0 ∨ q % 4 = 1 ∨ q % 4 = 2 ∨ q % 4 = 3 := by omega
  have hv := hc
  obtain ⟨ht0, ht1⟩ := htl
  rcases hc with h0 | h0 | h0 | h0
  · have e : turn1 (x, y) q = (x, y) := by unfold turn1; rw [h0]; simp
    rw [e]; rw [h0] at hr hr2
    clear e h0 hv
    go_enter Try.func49, Try.ntmps49
    go_wp2
    exact bodyPost_ret (v := .agg #[.int .i64 x, .int .i64 y]) (by simp [results, Try.results49, go_sem]) rfl ⟨rfl, ((Below.refl _ _).alloc (Nat.le_refl _) _).alloc (by simp) _⟩
  · have e : turn1 (x, y) q = ((-y), x) := by unfold turn1; rw [h0]; simp
    rw [e]; rw [h0] at hr hr2
    clear e h0 hv
    go_enter Try.func49, Try.ntmps49
    go_wp2
    exact bodyPost_ret (v := .agg #[.int .i64 (-y), .int .i64 x]) (by simp [results, Try.results49, go_sem]) rfl ⟨rfl, ((Below.refl _ _).alloc (Nat.le_refl _) _).alloc (by simp) _⟩
  · have e : turn1 (x, y) q = ((-x), (-y)) := by unfold turn1; rw [h0]; simp
    rw [e]; rw [h0] at hr hr2
    clear e h0 hv
    go_enter Try.func49, Try.ntmps49
    go_wp2
    exact bodyPost_ret (v := .agg #[.int .i64 (-x), .int .i64 (-y)]) (by simp [results, Try.results49, go_sem]) rfl ⟨rfl, ((Below.refl _ _).alloc (Nat.le_refl _) _).alloc (by simp) _⟩
  · have e : turn1 (x, y) q = (y, (-x)) := by unfold turn1; rw [h0]; simp
    rw [e]; rw [h0] at hr hr2
    clear e h0 hv
    go_enter Try.func49, Try.ntmps49
    go_wp2
    exact bodyPost_ret (v := .agg #[.int .i64 y, .int .i64 (-x)]) (by simp [results, Try.results49, go_sem]) rfl ⟨rfl, ((Below.refl _ _).alloc (Nat.le_refl _) _).alloc (by simp) _⟩

set_option maxRecDepth 4000 in
set_option maxHeartbeats 400000 in
theorem rtwo_any (a b : Bool) (amp : Int) (w : World) (h0 : 1 ≤ amp) (h1 : amp ≤ 65536) :
    Calls Try.prog 70 #[.bool a, .bool b, .int .i64 amp] w fun e w' => e = .returned (.agg #[.int .i64 (twoS a b amp).1, .int .i64 (twoS a b amp).2]) ∧ Below w.heap.size w w' := by
  unfold twoS
  cases a <;> cases b
  all_goals
    dsimp only
    go_enter Try.func70, Try.ntmps70
    go_wp2
    refine bodyPost_ret (v := .agg #[.int .i64 _, .int .i64 _]) (by simp [results, Try.results70, go_sem]; exact ⟨rfl, rfl⟩) rfl ⟨by simp, ((Below.refl _ _).alloc (Nat.le_refl _) _).alloc (by simp) _⟩

set_option maxRecDepth 4000 in
set_option maxHeartbeats 400000 in
theorem rabs_any (n : Int) (w : World) (h0 : -4611686018427387904 ≤ n) (h1 : n ≤ 4611686018427387904) : Calls Try.prog 74 #[.int .i64 n] w fun e w' => e = .returned (.int .i64 (if n < 0 then -n else n)) ∧ w = w' := by
  by_cases h : n < 0
  · rw [if_pos h]
    go_enter Try.func74, Try.ntmps74
    go_wp2
    go_ret
    exact ⟨rfl, rfl⟩
  · rw [if_neg h]
    go_enter Try.func74, Try.ntmps74
    go_wp2
    go_ret
    exact ⟨rfl, rfl⟩
end Go.Proofs.Ytdmedhklcicpeaa
