/-
  Spans and grids in plain Lean, and the small functions of package sched and of the document's: which may be, what two spans have both, whether they meet, whether one lies in the other. No condition.
-/
import Derived.Test.YtjdhodobfkkoiaaSZ
namespace Go.Proofs.Ytjdhodobfkkoiaa
open Go.RowKit

abbrev vS (x y : Int) : Value := .agg #[.int .i64 x, .int .i64 y]

/-- May a span be? -/
def okS (s : Sp) : Prop := 0 ≤ s.1 ∧ s.1 ≤ s.2 ∧ s.2 ≤ 1099511627776
instance (s : Sp) : Decidable (okS s) := by unfold okS; infer_instance
def chkS (s : Sp) : Int := if s.1 < 0 then 60 else if s.2 < s.1 then 60 else if 1099511627776 < s.2 then 60 else 0
theorem chkS_ok {s : Sp} (h : okS s) : chkS s = 0 := by
  obtain ⟨h0, h1, h2⟩ := h
  unfold chkS; rw [if_neg (by omega), if_neg (by omega), if_neg (by omega)]
theorem chkS_no {s : Sp} (h : ¬ okS s) : chkS s = 60 := by
  unfold okS at h; unfold chkS
  split
  · rfl
  · split
    · rfl
    · split
      · rfl
      · omega
theorem chkS_if (s : Sp) : chkS s = if okS s then 0 else 60 := by
  by_cases h : okS s
  · rw [if_pos h, chkS_ok h]
  · rw [if_neg h, chkS_no h]
/-- What two spans have both. -/
def bothS (a b : Sp) : Sp := (max a.1 b.1, min a.2 b.2)
def meetsS (a b : Sp) : Bool := decide (okS a) && (decide (okS b) && decide ((bothS a b).1 < (bothS a b).2))
def withinS (a b : Sp) : Bool := decide (okS a) && (decide (okS b) && (decide (b.1 ≤ a.1) && decide (a.2 ≤ b.2)))

set_option maxRecDepth 4000 in
set_option maxHeartbeats 400000 in
theorem scheck_any (x y : Int) (w : World) : Calls Try.prog 12 #[vS x y] w fun e w' => e = .returned (.int .i64 (chkS (x, y))) ∧ Below w.heap.size w w' := by
  unfold chkS
  dsimp only
  have hB := Lib.hid (Below.al w (.cells #[.int .i64 x, .int .i64 y] 23))
  by_cases h0 : x < 0
  · rw [if_pos h0]
    have d0_0 : decide (x < 0) = true := by simp; omega
    go_enter Try.func12, Try.ntmps12
    go_wp2
    go_ret
    exact ⟨rfl, hB.out⟩
  rw [if_neg h0]
  have d0_0 : decide (x < 0) = false := by simp; omega
  by_cases h1 : y < x
  · rw [if_pos h1]
    have d1_0 : decide (y < x) = true := by simp; omega
    go_enter Try.func12, Try.ntmps12
    go_wp2
    go_ret
    exact ⟨rfl, hB.out⟩
  rw [if_neg h1]
  have d1_0 : decide (y < x) = false := by simp; omega
  by_cases h2 : 1099511627776 < y
  · rw [if_pos h2]
    have d2_0 : decide (1099511627776 < y) = true := by simp; omega
    go_enter Try.func12, Try.ntmps12
    go_wp2
    go_ret
    exact ⟨rfl, hB.out⟩
  rw [if_neg h2]
  have d2_0 : decide (1099511627776 < y) = false := by simp; omega
  go_enter Try.func12, Try.ntmps12
  go_wp2
  go_ret
  exact ⟨rfl, hB.out⟩
set_option maxRecDepth 4000 in
set_option maxHeartbeats 400000 in
theorem rscheck_any (x y : Int) (w : World) : Calls Try.prog 13 #[vS x y] w fun e w' => e = .returned (.int .i64 (chkS (x, y))) ∧ Below w.heap.size w w' := by
  unfold chkS
  dsimp only
  have hB := Lib.hid (Below.al w (.cells #[.int .i64 x, .int .i64 y] 23))
  by_cases h0 : x < 0
  · rw [if_pos h0]
    have d0_0 : decide (x < 0) = true := by simp; omega
    go_enter Try.func13, Try.ntmps13
    go_wp2
    go_ret
    exact ⟨rfl, hB.out⟩
  rw [if_neg h0]
  have d0_0 : decide (x < 0) = false := by simp; omega
  by_cases h1 : y < x
  · rw [if_pos h1]
    have d1_0 : decide (y < x) = true := by simp; omega
    go_enter Try.func13, Try.ntmps13
    go_wp2
    go_ret
    exact ⟨rfl, hB.out⟩
  rw [if_neg h1]
  have d1_0 : decide (y < x) = false := by simp; omega
  by_cases h2 : 1099511627776 < y
  · rw [if_pos h2]
    have d2_0 : decide (1099511627776 < y) = true := by simp; omega
    go_enter Try.func13, Try.ntmps13
    go_wp2
    go_ret
    exact ⟨rfl, hB.out⟩
  rw [if_neg h2]
  have d2_0 : decide (1099511627776 < y) = false := by simp; omega
  go_enter Try.func13, Try.ntmps13
  go_wp2
  go_ret
  exact ⟨rfl, hB.out⟩
set_option maxRecDepth 4000 in
set_option maxHeartbeats 400000 in
theorem common_any (x y u v : Int) (w : World) : Calls Try.prog 38 #[vS x y, vS u v] w fun e w' => e = .returned (vS (max x u) (min y v)) ∧ Below w.heap.size w w' := by
  have hx := bx3 w #[.int .i64 x, .int .i64 y] #[.int .i64 u, .int .i64 v] #[.int .i64 (max x u), .int .i64 (min y v)] 23 23 23
  have HB := Lib.hid hx.2.2.2; clear hx
  by_cases h1 : x < u
  · by_cases h2 : v < y
    · have e1 : max x u = u := by omega
      have e2 : min y v = v := by omega
      rw [e1, e2] at HB ⊢; clear e1 e2
      go_enter Try.func38, Try.ntmps38
      go_wp2
      exact bodyPost_ret (v := vS _ _) (by simp [results, Try.results38, go_sem]) rfl ⟨rfl, HB.out⟩
    · have e1 : max x u = u := by omega
      have e2 : min y v = y := by omega
      rw [e1, e2] at HB ⊢; clear e1 e2
      go_enter Try.func38, Try.ntmps38
      go_wp2
      exact bodyPost_ret (v := vS _ _) (by simp [results, Try.results38, go_sem]) rfl ⟨rfl, HB.out⟩
  · by_cases h2 : v < y
    · have e1 : max x u = x := by omega
      have e2 : min y v = v := by omega
      rw [e1, e2] at HB ⊢; clear e1 e2
      go_enter Try.func38, Try.ntmps38
      go_wp2
      exact bodyPost_ret (v := vS _ _) (by simp [results, Try.results38, go_sem]) rfl ⟨rfl, HB.out⟩
    · have e1 : max x u = x := by omega
      have e2 : min y v = y := by omega
      rw [e1, e2] at HB ⊢; clear e1 e2
      go_enter Try.func38, Try.ntmps38
      go_wp2
      exact bodyPost_ret (v := vS _ _) (by simp [results, Try.results38, go_sem]) rfl ⟨rfl, HB.out⟩
/-- Two spans that are not the same are told so. -/
theorem agg2_ne {a b c d : Int} (h : ¬ (a = c ∧ b = d)) (W : World) : (binOp .eql 23 (vS a b) (vS c d)).run Try.prog W = .ok (.bool false) W := by
  by_cases h0 : a = c
  · have h1 : b ≠ d := fun e => h ⟨h0, e⟩
    subst h0
    simp [go_sem, h1]
  · simp [go_sem, h0]
end Go.Proofs.Ytjdhodobfkkoiaa
