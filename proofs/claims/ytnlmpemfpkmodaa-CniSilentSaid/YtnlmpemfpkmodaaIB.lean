/-
  Check of the document of layer 12. Condition: an interface that can be read. (Printed by tools/gen12b.py; laid ahead.)
-/
import Derived.Test.YtnlmpemfpkmodaaIA
namespace Go.Proofs.Ytnlmpemfpkmodaa
open Go.RowKit

set_option maxRecDepth 100000 in
set_option maxHeartbeats 4000000 in
theorem rchkCn_any (s : Cn) (v u : Sl3) (w : World) (h : CnOk w.heap.size w s v u) : Calls Try.prog 14 #[.agg (cCn s v u)] w fun e w' => e = .returned (.int .i64 (chkCn s)) ∧ Below w.heap.size w w' := by
  obtain ⟨R, hR⟩ : ∃ R, R = chkCn s := ⟨_, rfl⟩
  rw [← hR]
  have hno : ¬ okCn s → R = 120 := fun hh => by rw [hR]; exact chkCn_no hh
  have hyes : okCn s → R = 0 := fun hh => by rw [hR]; exact chkCn_yes hh
  clear hR
  have hbn := h.out.bn; have hmn := h.mn; have hM := h.ms
  clear h
  obtain ⟨id, out, ms, life, want⟩ := s
  obtain ⟨A, n, c⟩ := v
  obtain ⟨B, m, d⟩ := u
  dsimp only [cCn] at *
  unfold okCn headCn at hno hyes
  dsimp only at hno hyes
  by_cases c0 : 4 ≤ m
  rotate_left
  · obtain rfl : R = 120 := hno (fun hh => c0 (by have := hh.1.1; omega))
    have d0 : decide ((m : Int) < 4) = true := by simp; omega
    clear hno hyes hmn hbn
    clear hM
    obtain ⟨kb, bc⟩ := bx1 w #[.int .i64 id, .slice A n c, .slice B m d, .int .i64 life, .int .i64 want] 25
    obtain ⟨k0, k1, k2, k3, k4⟩ := kb.fiveI
    go_enter Try.func14, Try.ntmps14
    go_wp2
    go_ret
    exact ⟨rfl, bc⟩
  have d0 : decide ((m : Int) < 4) = false := by simp; omega
  by_cases c1 : m ≤ 8
  rotate_left
  · obtain rfl : R = 120 := hno (fun hh => c1 (by have := hh.1.2.1; omega))
    have d1 : decide (8 < (m : Int)) = true := by simp; omega
    clear hno hyes hmn hbn
    clear hM
    obtain ⟨kb, bc⟩ := bx1 w #[.int .i64 id, .slice A n c, .slice B m d, .int .i64 life, .int .i64 want] 25
    obtain ⟨k0, k1, k2, k3, k4⟩ := kb.fiveI
    go_enter Try.func14, Try.ntmps14
    go_wp2
    go_ret
    exact ⟨rfl, bc⟩
  have d1 : decide (8 < (m : Int)) = false := by simp; omega
  by_cases c2 : 0 ≤ id
  rotate_left
  · obtain rfl : R = 120 := hno (fun hh => c2 (by have := hh.1.2.2.1; omega))
    have d2 : decide (id < 0) = true := by simp; omega
    clear hno hyes hmn hbn
    clear hM
    obtain ⟨kb, bc⟩ := bx1 w #[.int .i64 id, .slice A n c, .slice B m d, .int .i64 life, .int .i64 want] 25
    obtain ⟨k0, k1, k2, k3, k4⟩ := kb.fiveI
    go_enter Try.func14, Try.ntmps14
    go_wp2
    go_ret
    exact ⟨rfl, bc⟩
  have d2 : decide (id < 0) = false := by simp; omega
  by_cases c3 : id < (m : Int)
  rotate_left
  · obtain rfl : R = 120 := hno (fun hh => c3 (by have := hh.1.2.2.2.1; omega))
    have d3 : decide ((m : Int) ≤ id) = true := by simp; omega
    clear hno hyes hmn hbn
    clear hM
    obtain ⟨kb, bc⟩ := bx1 w #[.int .i64 id, .slice A n c, .slice B m d, .int .i64 life, .int .i64 want] 25
    obtain ⟨k0, k1, k2, k3, k4⟩ := kb.fiveI
    go_enter Try.func14, Try.ntmps14
    go_wp2
    go_ret
    exact ⟨rfl, bc⟩
  have d3 : decide ((m : Int) ≤ id) = false := by simp; omega
  by_cases c4 : n ≤ 8
  rotate_left
  · obtain rfl : R = 120 := hno (fun hh => c4 (by have := hh.1.2.2.2.2.1; omega))
    have d4 : decide (8 < (n : Int)) = true := by simp; omega
    clear hno hyes hmn hbn
    clear hM
    obtain ⟨kb, bc⟩ := bx1 w #[.int .i64 id, .slice A n c, .slice B m d, .int .i64 life, .int .i64 want] 25
    obtain ⟨k0, k1, k2, k3, k4⟩ := kb.fiveI
    go_enter Try.func14, Try.ntmps14
    go_wp2
    go_ret
    exact ⟨rfl, bc⟩
  have d4 : decide (8 < (n : Int)) = false := by simp; omega
  by_cases c5 : 0 ≤ life
  rotate_left
  · obtain rfl : R = 120 := hno (fun hh => c5 (by have := hh.1.2.2.2.2.2.1; omega))
    have d5 : decide (life < 0) = true := by simp; omega
    clear hno hyes hmn hbn
    clear hM
    obtain ⟨kb, bc⟩ := bx1 w #[.int .i64 id, .slice A n c, .slice B m d, .int .i64 life, .int .i64 want] 25
    obtain ⟨k0, k1, k2, k3, k4⟩ := kb.fiveI
    go_enter Try.func14, Try.ntmps14
    go_wp2
    go_ret
    exact ⟨rfl, bc⟩
  have d5 : decide (life < 0) = false := by simp; omega
  by_cases c6 : life ≤ 4
  rotate_left
  · obtain rfl : R = 120 := hno (fun hh => c6 (by have := hh.1.2.2.2.2.2.2.1; omega))
    have d6 : decide (4 < life) = true := by simp; omega
    clear hno hyes hmn hbn
    clear hM
    obtain ⟨kb, bc⟩ := bx1 w #[.int .i64 id, .slice A n c, .slice B m d, .int .i64 life, .int .i64 want] 25
    obtain ⟨k0, k1, k2, k3, k4⟩ := kb.fiveI
    go_enter Try.func14, Try.ntmps14
    go_wp2
    go_ret
    exact ⟨rfl, bc⟩
  have d6 : decide (4 < life) = false := by simp; omega
  by_cases c7 : -1 ≤ want
  rotate_left
  · obtain rfl : R = 120 := hno (fun hh => c7 (by have := hh.1.2.2.2.2.2.2.2.1; omega))
    have d7 : decide (want < -1) = true := by simp; omega
    clear hno hyes hmn hbn
    clear hM
    obtain ⟨kb, bc⟩ := bx1 w #[.int .i64 id, .slice A n c, .slice B m d, .int .i64 life, .int .i64 want] 25
    obtain ⟨k0, k1, k2, k3, k4⟩ := kb.fiveI
    go_enter Try.func14, Try.ntmps14
    go_wp2
    go_ret
    exact ⟨rfl, bc⟩
  have d7 : decide (want < -1) = false := by simp; omega
  by_cases c8 : want < 4
  rotate_left
  · obtain rfl : R = 120 := hno (fun hh => c8 (by have := hh.1.2.2.2.2.2.2.2.2; omega))
    have d8 : decide (4 ≤ want) = true := by simp; omega
    clear hno hyes hmn hbn
    clear hM
    obtain ⟨kb, bc⟩ := bx1 w #[.int .i64 id, .slice A n c, .slice B m d, .int .i64 life, .int .i64 want] 25
    obtain ⟨k0, k1, k2, k3, k4⟩ := kb.fiveI
    go_enter Try.func14, Try.ntmps14
    go_wp2
    go_ret
    exact ⟨rfl, bc⟩
  have d8 : decide (4 ≤ want) = false := by simp; omega
  replace hyes : (∀ k, k < ms.length → okMs (ms[k]?.getD default)) → R = 0 := fun hh => hyes ⟨⟨by omega, by omega, by omega, by omega, by omega, by omega, by omega, by omega, by omega⟩, hh⟩
  replace hno : ¬ (∀ k, k < ms.length → okMs (ms[k]?.getD default)) → R = 120 := fun hh => hno (fun k => hh k.2)
  rw [← hmn] at hyes hno
  have HY := Lib.hid hyes; have HN := Lib.hid hno; have HM := Lib.hid hM; have HMN := Lib.hid hmn; clear hyes hno hM hmn hbn
  obtain ⟨kb, bc⟩ := bx1 w #[.int .i64 id, .slice A n c, .slice B m d, .int .i64 life, .int .i64 want] 25
  obtain ⟨k0, k1, k2, k3, k4⟩ := kb.fiveI
  go_enter Try.func14, Try.ntmps14
  go_wp2_with fail
  clear k0 k1 k2 k3 k4
  generalize w.alloc (.cells #[.int .i64 id, .slice A n c, .slice B m d, .int .i64 life, .int .i64 want] 25) = u1 at *
  go_loopw [4] (fun i wr => ∃ k : Nat, k ≤ m ∧ i = .int .i64 k ∧ (∀ j, j < k → okMs (ms[j]?.getD default)) ∧ Blk wr w.heap.size 25 #[.int .i64 id, .slice A n c, .slice B m d, .int .i64 life, .int .i64 want] ∧ Below w.heap.size w wr)
    (fun i _ => m - (intOf i).toNat)
  case atStart => exact ⟨0, by omega, rfl, fun j hj => by omega, kb, bc⟩
  case round =>
    clear kb bc
    obtain ⟨k, hk, rfl, hall, kb, bc⟩ := hrel
    obtain ⟨k0, k1, k2, k3, k4⟩ := kb.fiveI
    have hsz := bc.size
    by_cases hlt : k < m
    · have hlt2 : (k : Int) < (m : Int) := by omega
      obtain ⟨b, off, rfl, hb, v, ⟨e0, e1⟩, hv⟩ := (HM.out.below bc).at_ (k := k) (by have := HMN.out; omega)
      have hvn := hv.bn
      have hstep : okMs (ms[k]?.getD default) → ∀ j, j < k + 1 → okMs (ms[j]?.getD default) := fun h1 j hj => by
        rcases Nat.lt_or_ge j k with h2 | h2
        · exact hall j h2
        · obtain rfl : j = k := by omega
          exact h1
      have hbad : ¬ okMs (ms[k]?.getD default) → R = 120 := fun h1 => HN.out (fun h2 => h1 (h2 k hlt))
      clear hall hv
      unfold okMs at hstep hbad
      generalize (ms[k]?.getD default).g = g at *
      obtain ⟨vA, vn, vc⟩ := v
      dsimp only at e0 hvn
      have HS := Lib.hid hstep; have HB := Lib.hid hbad; clear hstep hbad
      by_cases q1 : vn ≤ 8
      rotate_left
      · obtain rfl : R = 120 := HB.out (fun hh => q1 (by omega))
        have e2 : decide (8 < (vn : Int)) = true := by simp; omega
        clear HB HS HY HN hvn
        go_wp2
        go_ret
        exact ⟨rfl, bc⟩
      have e2 : decide (8 < (vn : Int)) = false := by simp; omega
      by_cases q2 : 0 ≤ g
      rotate_left
      · obtain rfl : R = 120 := HB.out (fun hh => q2 (by omega))
        have e3 : decide (g < 0) = true := by simp; omega
        clear HB HS HY HN hvn
        go_wp2
        go_ret
        exact ⟨rfl, bc⟩
      have e3 : decide (g < 0) = false := by simp; omega
      by_cases q3 : g ≤ 255
      rotate_left
      · obtain rfl : R = 120 := HB.out (fun hh => q3 (by omega))
        have e4 : decide (255 < g) = true := by simp; omega
        clear HB HS HY HN hvn
        go_wp2
        go_ret
        exact ⟨rfl, bc⟩
      have e4 : decide (255 < g) = false := by simp; omega
      have hnew := Lib.hid (HS.out ⟨by omega, q2, q3⟩)
      clear HB HS hvn
      go_wp2
      go_roundw
      case rel => exact ⟨k + 1, by omega, by go_num, hnew.out, kb, bc⟩
      case measure => simp [intOf]; omega
    · obtain rfl : k = m := by omega
      obtain rfl : R = 0 := HY.out hall
      clear hall
      go_wp2
      go_ret
      exact ⟨rfl, bc⟩
end Go.Proofs.Ytnlmpemfpkmodaa
