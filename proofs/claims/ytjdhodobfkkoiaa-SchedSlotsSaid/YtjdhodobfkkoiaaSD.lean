/-
  A slot's span, the first slot from a moment on, the slot of a moment: package sched and the document. No condition but those that each theorem names.
-/
import Derived.Test.YtjdhodobfkkoiaaSC
namespace Go.Proofs.Ytjdhodobfkkoiaa
open Go.RowKit

/-- A slot's span; the slot k, the slot of a moment, as the document says; the first slot that begins no earlier than a moment. -/
def slotAt (g : Gr) (k : Int) : Sp := (g.1 + k * g.2.1, g.1 + k * g.2.1 + g.2.1)
def slotS (g : Gr) (k : Int) : Int × Sp := if okG g then (if k < 0 then (2, (0, 0)) else if (1099511627776 - g.1) / g.2.1 ≤ k then (2, (0, 0)) else (0, slotAt g k)) else (61, (0, 0))
def slotOfS (g : Gr) (t : Int) : Int × Int := if okG g then (if t < g.1 then (4, 0) else if 1099511627776 < t then (4, 0) else (0, (t - g.1) / g.2.1)) else (61, 0)
def firstS (g : Gr) (t : Int) : Int := if t ≤ g.1 then 0 else (t - g.1 - 1) / g.2.1 + 1
theorem slot_room {a b k : Int} (hb : 1 ≤ b) (h : k < (1099511627776 - a) / b) : k * b + b ≤ 1099511627776 - a := by
  have h1 : (k + 1) * b ≤ 1099511627776 - a := (Int.le_ediv_iff_mul_le (by omega)).1 (by omega)
  rw [Int.add_mul, Int.one_mul] at h1
  exact h1
theorem div_small {m b : Int} (hm : 0 ≤ m) (hb : 1 ≤ b) : 0 ≤ m / b ∧ m / b ≤ m := ⟨Int.ediv_nonneg hm (by omega), Int.ediv_le_self _ hm⟩
theorem quo_in {m b : Int} (hm : 0 ≤ m) (hm2 : m ≤ 2305843009213693952) (hb : 1 ≤ b) : IntKind.i64.wrap (m.tdiv b) = m / b := by
  rw [Int.tdiv_eq_ediv_of_nonneg hm]
  have := div_small hm hb
  exact IntWalk.i64_in _ (by omega)
set_option maxRecDepth 8000 in
set_option maxHeartbeats 1000000 in
theorem spanOf_any (a b n k : Int) (w : World) (ha : 0 ≤ a ∧ a ≤ 1099511627776) (hb : 1 ≤ b ∧ b ≤ 16777216) (hk : 0 ≤ k * b ∧ k * b ≤ 1152921504606846976) :
    Calls Try.prog 44 #[vG a b n, .int .i64 k] w fun e w' => e = .returned (vS (slotAt (a, b, n) k).1 (slotAt (a, b, n) k).2) ∧ Below w.heap.size w w' := by
  unfold slotAt; dsimp only
  have e1 : IntKind.i64.wrap (k * b) = k * b := IntWalk.i64_in _ (by omega)
  have e2 : IntKind.i64.wrap (a + k * b) = a + k * b := IntWalk.i64_in _ (by omega)
  have e3 : IntKind.i64.wrap (a + k * b + b) = a + k * b + b := IntWalk.i64_in _ (by omega)
  clear hk ha hb
  obtain ⟨k1, k2, bc⟩ := bx2 w #[.int .i64 a, .int .i64 b, .int .i64 n] #[.int .i64 (a + k * b), .int .i64 (a + k * b + b)] 41 23
  have BC := Lib.hid bc; clear k1 k2 bc
  go_enter Try.func44, Try.ntmps44
  go_wp2
  exact bodyPost_ret (v := vS (a + k * b) (a + k * b + b)) (by simp [results, Try.results44, go_sem]) rfl ⟨rfl, BC.out⟩
set_option maxRecDepth 8000 in
set_option maxHeartbeats 1000000 in
theorem firstSince_any (a b n t : Int) (w : World) (ha : 0 ≤ a) (hb : 1 ≤ b) (ht : t ≤ 1099511627776) :
    Calls Try.prog 53 #[vG a b n, .int .i64 t] w fun e w' => e = .returned (.int .i64 (firstS (a, b, n) t)) ∧ Below w.heap.size w w' := by
  unfold firstS; dsimp only
  have hB := Lib.hid (Below.al w (.cells #[.int .i64 a, .int .i64 b, .int .i64 n] 41))
  by_cases h : t ≤ a
  · rw [if_pos h]
    have d0 : decide (t ≤ a) = true := by simpa using h
    clear h
    go_enter Try.func53, Try.ntmps53
    go_wp2
    go_ret
    exact ⟨rfl, hB.out⟩
  · rw [if_neg h]
    have d0 : decide (t ≤ a) = false := by simpa using h
    have e1 : IntKind.i64.wrap (t - a) = t - a := IntWalk.i64_in _ (by omega)
    have e2 : IntKind.i64.wrap (t - a - 1) = t - a - 1 := IntWalk.i64_in _ (by omega)
    have e3 : IntKind.i64.wrap ((t - a - 1).tdiv b) = (t - a - 1) / b := quo_in (by omega) (by omega) hb
    have e4 : IntKind.i64.wrap ((t - a - 1) / b + 1) = (t - a - 1) / b + 1 := IntWalk.i64_in _ (by have := div_small (m := t - a - 1) (b := b) (by omega) hb; omega)
    have hb0 : b ≠ 0 := by omega
    clear h
    go_enter Try.func53, Try.ntmps53
    go_wp2
    go_ret
    exact ⟨rfl, hB.out⟩
set_option maxRecDepth 8000 in
set_option maxHeartbeats 1000000 in
theorem slot_any (a b n k : Int) (w : World) : Calls Try.prog 27 #[vG a b n, .int .i64 k] w fun e w' => e = .returned (.tuple #[vS (slotS (a, b, n) k).2.1 (slotS (a, b, n) k).2.2, .int .i64 (slotS (a, b, n) k).1]) ∧ Below w.heap.size w w' := by
  have h1 := fun W => checkG_any a b n W
  simp only [chkG_if] at h1
  unfold slotS; dsimp only
  by_cases hx : okG (a, b, n)
  · simp only [hx, if_true] at h1 ⊢
    obtain ⟨⟨o0, o1⟩, ⟨o2, o3⟩, o4, o5⟩ := hx
    dsimp only at o0 o1 o2 o3 o4 o5
    have e1 : IntKind.i64.wrap (1099511627776 - a) = 1099511627776 - a := IntWalk.i64_in _ (by omega)
    have e2 : IntKind.i64.wrap ((1099511627776 - a).tdiv b) = (1099511627776 - a) / b := quo_in (by omega) (by omega) o2
    have hb0 : b ≠ 0 := by omega
    by_cases c0 : k < 0
    · rw [if_pos c0]
      have d0_0 : decide (k < 0) = true := by simp; omega
      have H1 := Lib.hid h1; clear h1
      obtain ⟨k1, k2, bc⟩ := bx2 w #[.int .i64 a, .int .i64 b, .int .i64 n] #[.int .i64 0, .int .i64 0] 41 23
      go_enter Try.func27, Try.ntmps27
      go_wp2_with fail
      generalize (w.alloc (.cells #[.int .i64 a, .int .i64 b, .int .i64 n] 41)).alloc (.cells #[.int .i64 0, .int .i64 0] 23) = u1 at *
      refine (H1.out _).mono ?_
      rintro e w1 ⟨rfl, hC⟩
      dsimp only
      replace k1 := k1.on hC; replace k2 := k2.on hC; replace bc := bc.trans (hC.mono bc.size); clear hC
      obtain ⟨pk1_0, pk1_1, pk1_2, pk1_0f, pk1_1f, pk1_2f⟩ := k1.three
      obtain ⟨pk2_0, pk2_1, pk2_0f, pk2_1f⟩ := k2.two
      go_wp2
      exact bodyPost_ret (v := .tuple #[vS (0) (0), .int .i64 (2)]) (by simp [results, Try.results27, go_sem, pk2_0, pk2_1]) rfl ⟨rfl, (by first | exact bc | exact Below.off bc bc.size (by omega) (st2 _ _ _ _))⟩
    rw [if_neg c0]
    have d0_0 : decide (k < 0) = false := by simp; omega
    by_cases c1 : (1099511627776 - a) / b ≤ k
    · rw [if_pos c1]
      have d1_0 : decide ((1099511627776 - a) / b ≤ k) = true := by simp; omega
      have H1 := Lib.hid h1; clear h1
      obtain ⟨k1, k2, bc⟩ := bx2 w #[.int .i64 a, .int .i64 b, .int .i64 n] #[.int .i64 0, .int .i64 0] 41 23
      go_enter Try.func27, Try.ntmps27
      go_wp2_with fail
      generalize (w.alloc (.cells #[.int .i64 a, .int .i64 b, .int .i64 n] 41)).alloc (.cells #[.int .i64 0, .int .i64 0] 23) = u1 at *
      refine (H1.out _).mono ?_
      rintro e w1 ⟨rfl, hC⟩
      dsimp only
      replace k1 := k1.on hC; replace k2 := k2.on hC; replace bc := bc.trans (hC.mono bc.size); clear hC
      obtain ⟨pk1_0, pk1_1, pk1_2, pk1_0f, pk1_1f, pk1_2f⟩ := k1.three
      obtain ⟨pk2_0, pk2_1, pk2_0f, pk2_1f⟩ := k2.two
      go_wp2
      exact bodyPost_ret (v := .tuple #[vS (0) (0), .int .i64 (2)]) (by simp [results, Try.results27, go_sem, pk2_0, pk2_1]) rfl ⟨rfl, (by first | exact bc | exact Below.off bc bc.size (by omega) (st2 _ _ _ _))⟩
    rw [if_neg c1]
    have d1_0 : decide ((1099511627776 - a) / b ≤ k) = false := by simp; omega
    have H1 := Lib.hid h1; clear h1
    have hr := slot_room (a := a) (b := b) (k := k) (by omega) (by omega)
    have hk0 : 0 ≤ k * b := Int.mul_nonneg (by omega) (by omega)
    have h2 := fun W => spanOf_any a b n k W ⟨by omega, by omega⟩ ⟨by omega, by omega⟩ ⟨hk0, by omega⟩
    unfold slotAt at h2 ⊢; dsimp only at h2 ⊢
    generalize a + k * b = f0 at *; generalize f0 + b = f1 at *
    have H2 := Lib.hid h2; clear h2 hr hk0
    obtain ⟨k1, k2, bc⟩ := bx2 w #[.int .i64 a, .int .i64 b, .int .i64 n] #[.int .i64 0, .int .i64 0] 41 23
    go_enter Try.func27, Try.ntmps27
    go_wp2_with fail
    generalize (w.alloc (.cells #[.int .i64 a, .int .i64 b, .int .i64 n] 41)).alloc (.cells #[.int .i64 0, .int .i64 0] 23) = u1 at *
    refine (H1.out _).mono ?_
    rintro e w1 ⟨rfl, hC⟩
    dsimp only
    replace k1 := k1.on hC; replace k2 := k2.on hC; replace bc := bc.trans (hC.mono bc.size); clear hC
    obtain ⟨pk1_0, pk1_1, pk1_2, pk1_0f, pk1_1f, pk1_2f⟩ := k1.three
    obtain ⟨pk2_0, pk2_1, pk2_0f, pk2_1f⟩ := k2.two
    go_wp2_with fail
    clear pk1_0 pk1_1 pk1_2 pk1_0f pk1_1f pk1_2f pk2_0 pk2_1 pk2_0f pk2_1f
    refine (H2.out _).mono ?_
    rintro e w2 ⟨rfl, hC⟩
    dsimp only
    replace k1 := k1.on hC; replace k2 := k2.on hC; replace bc := bc.trans (hC.mono bc.size); clear hC
    obtain ⟨pk1_0, pk1_1, pk1_2, pk1_0f, pk1_1f, pk1_2f⟩ := k1.three
    obtain ⟨pk2_0, pk2_1, pk2_0f, pk2_1f⟩ := k2.two
    go_wp2
    exact bodyPost_ret (v := .tuple #[vS (f0) (f1), .int .i64 (0)]) (by simp [results, Try.results27, go_sem, pk2_0, pk2_1]) rfl ⟨rfl, (by first | exact bc | exact Below.off bc bc.size (by omega) (st2 _ _ _ _))⟩
  · simp only [hx, if_false] at h1 ⊢
    have H1 := Lib.hid h1; clear h1
    obtain ⟨k1, k2, bc⟩ := bx2 w #[.int .i64 a, .int .i64 b, .int .i64 n] #[.int .i64 0, .int .i64 0] 41 23
    go_enter Try.func27, Try.ntmps27
    go_wp2_with fail
    generalize (w.alloc (.cells #[.int .i64 a, .int .i64 b, .int .i64 n] 41)).alloc (.cells #[.int .i64 0, .int .i64 0] 23) = u1 at *
    refine (H1.out _).mono ?_
    rintro e w1 ⟨rfl, hC⟩
    dsimp only
    replace k1 := k1.on hC; replace k2 := k2.on hC; replace bc := bc.trans (hC.mono bc.size); clear hC
    obtain ⟨pk1_0, pk1_1, pk1_2, pk1_0f, pk1_1f, pk1_2f⟩ := k1.three
    obtain ⟨pk2_0, pk2_1, pk2_0f, pk2_1f⟩ := k2.two
    go_wp2
    exact bodyPost_ret (v := .tuple #[vS (0) (0), .int .i64 (61)]) (by simp [results, Try.results27, go_sem, pk2_0, pk2_1]) rfl ⟨rfl, (by first | exact bc | exact Below.off bc bc.size (by omega) (st2 _ _ _ _))⟩
set_option maxRecDepth 8000 in
set_option maxHeartbeats 1000000 in
theorem rslot_any (a b n k : Int) (w : World) : Calls Try.prog 28 #[vG a b n, .int .i64 k] w fun e w' => e = .returned (.tuple #[vS (slotS (a, b, n) k).2.1 (slotS (a, b, n) k).2.2, .int .i64 (slotS (a, b, n) k).1]) ∧ Below w.heap.size w w' := by
  have h1 := fun W => rcheckG_any a b n W
  simp only [chkG_if] at h1
  unfold slotS; dsimp only
  by_cases hx : okG (a, b, n)
  · simp only [hx, if_true] at h1 ⊢
    obtain ⟨⟨o0, o1⟩, ⟨o2, o3⟩, o4, o5⟩ := hx
    dsimp only at o0 o1 o2 o3 o4 o5
    have e1 : IntKind.i64.wrap (1099511627776 - a) = 1099511627776 - a := IntWalk.i64_in _ (by omega)
    have e2 : IntKind.i64.wrap ((1099511627776 - a).tdiv b) = (1099511627776 - a) / b := quo_in (by omega) (by omega) o2
    have hb0 : b ≠ 0 := by omega
    by_cases c0 : k < 0
    · rw [if_pos c0]
      have d0_0 : decide (k < 0) = true := by simp; omega
      have H1 := Lib.hid h1; clear h1
      obtain ⟨k1, k2, bc⟩ := bx2 w #[.int .i64 a, .int .i64 b, .int .i64 n] #[.int .i64 0, .int .i64 0] 41 23
      go_enter Try.func28, Try.ntmps28
      go_wp2_with fail
      generalize (w.alloc (.cells #[.int .i64 a, .int .i64 b, .int .i64 n] 41)).alloc (.cells #[.int .i64 0, .int .i64 0] 23) = u1 at *
      refine (H1.out _).mono ?_
      rintro e w1 ⟨rfl, hC⟩
      dsimp only
      replace k1 := k1.on hC; replace k2 := k2.on hC; replace bc := bc.trans (hC.mono bc.size); clear hC
      obtain ⟨pk1_0, pk1_1, pk1_2, pk1_0f, pk1_1f, pk1_2f⟩ := k1.three
      obtain ⟨pk2_0, pk2_1, pk2_0f, pk2_1f⟩ := k2.two
      go_wp2
      exact bodyPost_ret (v := .tuple #[vS (0) (0), .int .i64 (2)]) (by simp [results, Try.results28, go_sem, pk2_0, pk2_1]) rfl ⟨rfl, (by first | exact bc | exact Below.off bc bc.size (by omega) (st2 _ _ _ _))⟩
    rw [if_neg c0]
    have d0_0 : decide (k < 0) = false := by simp; omega
    by_cases c1 : (1099511627776 - a) / b ≤ k
    · rw [if_pos c1]
      have d1_0 : decide ((1099511627776 - a) / b ≤ k) = true := by simp; omega
      have H1 := Lib.hid h1; clear h1
      obtain ⟨k1, k2, bc⟩ := bx2 w #[.int .i64 a, .int .i64 b, .int .i64 n] #[.int .i64 0, .int .i64 0] 41 23
      go_enter Try.func28, Try.ntmps28
      go_wp2_with fail
      generalize (w.alloc (.cells #[.int .i64 a, .int .i64 b, .int .i64 n] 41)).alloc (.cells #[.int .i64 0, .int .i64 0] 23) = u1 at *
      refine (H1.out _).mono ?_
      rintro e w1 ⟨rfl, hC⟩
      dsimp only
      replace k1 := k1.on hC; replace k2 := k2.on hC; replace bc := bc.trans (hC.mono bc.size); clear hC
      obtain ⟨pk1_0, pk1_1, pk1_2, pk1_0f, pk1_1f, pk1_2f⟩ := k1.three
      obtain ⟨pk2_0, pk2_1, pk2_0f, pk2_1f⟩ := k2.two
      go_wp2
      exact bodyPost_ret (v := .tuple #[vS (0) (0), .int .i64 (2)]) (by simp [results, Try.results28, go_sem, pk2_0, pk2_1]) rfl ⟨rfl, (by first | exact bc | exact Below.off bc bc.size (by omega) (st2 _ _ _ _))⟩
    rw [if_neg c1]
    have d1_0 : decide ((1099511627776 - a) / b ≤ k) = false := by simp; omega
    have H1 := Lib.hid h1; clear h1
    have hr := slot_room (a := a) (b := b) (k := k) (by omega) (by omega)
    have hk0 : 0 ≤ k * b := Int.mul_nonneg (by omega) (by omega)
    unfold slotAt; dsimp only
    have e5 : IntKind.i64.wrap (k * b) = k * b := IntWalk.i64_in _ (by omega)
    have e6 : IntKind.i64.wrap (a + k * b) = a + k * b := IntWalk.i64_in _ (by omega)
    have e7 : IntKind.i64.wrap (a + k * b + b) = a + k * b + b := IntWalk.i64_in _ (by omega)
    clear hr hk0
    obtain ⟨k1, k2, bc⟩ := bx2 w #[.int .i64 a, .int .i64 b, .int .i64 n] #[.int .i64 0, .int .i64 0] 41 23
    go_enter Try.func28, Try.ntmps28
    go_wp2_with fail
    generalize (w.alloc (.cells #[.int .i64 a, .int .i64 b, .int .i64 n] 41)).alloc (.cells #[.int .i64 0, .int .i64 0] 23) = u1 at *
    refine (H1.out _).mono ?_
    rintro e w1 ⟨rfl, hC⟩
    dsimp only
    replace k1 := k1.on hC; replace k2 := k2.on hC; replace bc := bc.trans (hC.mono bc.size); clear hC
    obtain ⟨pk1_0, pk1_1, pk1_2, pk1_0f, pk1_1f, pk1_2f⟩ := k1.three
    obtain ⟨pk2_0, pk2_1, pk2_0f, pk2_1f⟩ := k2.two
    go_wp2
    exact bodyPost_ret (v := .tuple #[vS (a + k * b) (a + k * b + b), .int .i64 (0)]) (by simp [results, Try.results28, go_sem, pk2_0, pk2_1]) rfl ⟨rfl, (by first | exact bc | exact Below.off bc bc.size (by omega) (st2 _ _ _ _))⟩
  · simp only [hx, if_false] at h1 ⊢
    have H1 := Lib.hid h1; clear h1
    obtain ⟨k1, k2, bc⟩ := bx2 w #[.int .i64 a, .int .i64 b, .int .i64 n] #[.int .i64 0, .int .i64 0] 41 23
    go_enter Try.func28, Try.ntmps28
    go_wp2_with fail
    generalize (w.alloc (.cells #[.int .i64 a, .int .i64 b, .int .i64 n] 41)).alloc (.cells #[.int .i64 0, .int .i64 0] 23) = u1 at *
    refine (H1.out _).mono ?_
    rintro e w1 ⟨rfl, hC⟩
    dsimp only
    replace k1 := k1.on hC; replace k2 := k2.on hC; replace bc := bc.trans (hC.mono bc.size); clear hC
    obtain ⟨pk1_0, pk1_1, pk1_2, pk1_0f, pk1_1f, pk1_2f⟩ := k1.three
    obtain ⟨pk2_0, pk2_1, pk2_0f, pk2_1f⟩ := k2.two
    go_wp2
    exact bodyPost_ret (v := .tuple #[vS (0) (0), .int .i64 (61)]) (by simp [results, Try.results28, go_sem, pk2_0, pk2_1]) rfl ⟨rfl, (by first | exact bc | exact Below.off bc bc.size (by omega) (st2 _ _ _ _))⟩
set_option maxRecDepth 8000 in
set_option maxHeartbeats 1000000 in
theorem sslotOf_any (a b n t : Int) (w : World) : Calls Try.prog 29 #[vG a b n, .int .i64 t] w fun e w' => e = .returned (.tuple #[.int .i64 (slotOfS (a, b, n) t).2, .int .i64 (slotOfS (a, b, n) t).1]) ∧ Below w.heap.size w w' := by
  have h1 := fun W => checkG_any a b n W
  simp only [chkG_if] at h1
  unfold slotOfS; dsimp only
  by_cases hx : okG (a, b, n)
  · simp only [hx, if_true] at h1 ⊢
    obtain ⟨⟨o0, o1⟩, ⟨o2, o3⟩, o4, o5⟩ := hx
    dsimp only at o0 o1 o2 o3 o4 o5
    by_cases c0 : t < a
    · rw [if_pos c0]
      have d0_0 : decide (t < a) = true := by simp; omega
      have H1 := Lib.hid h1; clear h1
      obtain ⟨k1, bc⟩ := bx1 w #[.int .i64 a, .int .i64 b, .int .i64 n] 41
      go_enter Try.func29, Try.ntmps29
      go_wp2_with fail
      generalize w.alloc (.cells #[.int .i64 a, .int .i64 b, .int .i64 n] 41) = u1 at *
      refine (H1.out _).mono ?_
      rintro e w1 ⟨rfl, hC⟩
      dsimp only
      replace k1 := k1.on hC; replace bc := bc.trans (hC.mono bc.size); clear hC
      obtain ⟨pk1_0, pk1_1, pk1_2, pk1_0f, pk1_1f, pk1_2f⟩ := k1.three
      go_wp2
      clear pk1_0 pk1_1 pk1_2 pk1_0f pk1_1f pk1_2f
      go_ret2
      exact ⟨rfl, bc⟩
    rw [if_neg c0]
    have d0_0 : decide (t < a) = false := by simp; omega
    by_cases c1 : 1099511627776 < t
    · rw [if_pos c1]
      have d1_0 : decide (1099511627776 < t) = true := by simp; omega
      have H1 := Lib.hid h1; clear h1
      obtain ⟨k1, bc⟩ := bx1 w #[.int .i64 a, .int .i64 b, .int .i64 n] 41
      go_enter Try.func29, Try.ntmps29
      go_wp2_with fail
      generalize w.alloc (.cells #[.int .i64 a, .int .i64 b, .int .i64 n] 41) = u1 at *
      refine (H1.out _).mono ?_
      rintro e w1 ⟨rfl, hC⟩
      dsimp only
      replace k1 := k1.on hC; replace bc := bc.trans (hC.mono bc.size); clear hC
      obtain ⟨pk1_0, pk1_1, pk1_2, pk1_0f, pk1_1f, pk1_2f⟩ := k1.three
      go_wp2
      clear pk1_0 pk1_1 pk1_2 pk1_0f pk1_1f pk1_2f
      go_ret2
      exact ⟨rfl, bc⟩
    rw [if_neg c1]
    have d1_0 : decide (1099511627776 < t) = false := by simp; omega
    have e1 : IntKind.i64.wrap (t - a) = t - a := IntWalk.i64_in _ (by omega)
    have e2 : IntKind.i64.wrap ((t - a).tdiv b) = (t - a) / b := quo_in (by omega) (by omega) o2
    have hb0 : b ≠ 0 := by omega
    have H1 := Lib.hid h1; clear h1
    obtain ⟨k1, bc⟩ := bx1 w #[.int .i64 a, .int .i64 b, .int .i64 n] 41
    go_enter Try.func29, Try.ntmps29
    go_wp2_with fail
    generalize w.alloc (.cells #[.int .i64 a, .int .i64 b, .int .i64 n] 41) = u1 at *
    refine (H1.out _).mono ?_
    rintro e w1 ⟨rfl, hC⟩
    dsimp only
    replace k1 := k1.on hC; replace bc := bc.trans (hC.mono bc.size); clear hC
    obtain ⟨pk1_0, pk1_1, pk1_2, pk1_0f, pk1_1f, pk1_2f⟩ := k1.three
    go_wp2
    clear pk1_0 pk1_1 pk1_2 pk1_0f pk1_1f pk1_2f
    go_ret2
    exact ⟨rfl, bc⟩
  · simp only [hx, if_false] at h1 ⊢
    have H1 := Lib.hid h1; clear h1
    obtain ⟨k1, bc⟩ := bx1 w #[.int .i64 a, .int .i64 b, .int .i64 n] 41
    go_enter Try.func29, Try.ntmps29
    go_wp2_with fail
    generalize w.alloc (.cells #[.int .i64 a, .int .i64 b, .int .i64 n] 41) = u1 at *
    refine (H1.out _).mono ?_
    rintro e w1 ⟨rfl, hC⟩
    dsimp only
    replace k1 := k1.on hC; replace bc := bc.trans (hC.mono bc.size); clear hC
    obtain ⟨pk1_0, pk1_1, pk1_2, pk1_0f, pk1_1f, pk1_2f⟩ := k1.three
    go_wp2
    clear pk1_0 pk1_1 pk1_2 pk1_0f pk1_1f pk1_2f
    go_ret2
    exact ⟨rfl, bc⟩
set_option maxRecDepth 8000 in
set_option maxHeartbeats 1000000 in
theorem rslotOf_any (a b n t : Int) (w : World) : Calls Try.prog 30 #[vG a b n, .int .i64 t] w fun e w' => e = .returned (.tuple #[.int .i64 (slotOfS (a, b, n) t).2, .int .i64 (slotOfS (a, b, n) t).1]) ∧ Below w.heap.size w w' := by
  have h1 := fun W => rcheckG_any a b n W
  simp only [chkG_if] at h1
  unfold slotOfS; dsimp only
  by_cases hx : okG (a, b, n)
  · simp only [hx, if_true] at h1 ⊢
    obtain ⟨⟨o0, o1⟩, ⟨o2, o3⟩, o4, o5⟩ := hx
    dsimp only at o0 o1 o2 o3 o4 o5
    by_cases c0 : t < a
    · rw [if_pos c0]
      have d0_0 : decide (t < a) = true := by simp; omega
      have H1 := Lib.hid h1; clear h1
      obtain ⟨k1, bc⟩ := bx1 w #[.int .i64 a, .int .i64 b, .int .i64 n] 41
      go_enter Try.func30, Try.ntmps30
      go_wp2_with fail
      generalize w.alloc (.cells #[.int .i64 a, .int .i64 b, .int .i64 n] 41) = u1 at *
      refine (H1.out _).mono ?_
      rintro e w1 ⟨rfl, hC⟩
      dsimp only
      replace k1 := k1.on hC; replace bc := bc.trans (hC.mono bc.size); clear hC
      obtain ⟨pk1_0, pk1_1, pk1_2, pk1_0f, pk1_1f, pk1_2f⟩ := k1.three
      go_wp2
      clear pk1_0 pk1_1 pk1_2 pk1_0f pk1_1f pk1_2f
      go_ret2
      exact ⟨rfl, bc⟩
    rw [if_neg c0]
    have d0_0 : decide (t < a) = false := by simp; omega
    by_cases c1 : 1099511627776 < t
    · rw [if_pos c1]
      have d1_0 : decide (1099511627776 < t) = true := by simp; omega
      have H1 := Lib.hid h1; clear h1
      obtain ⟨k1, bc⟩ := bx1 w #[.int .i64 a, .int .i64 b, .int .i64 n] 41
      go_enter Try.func30, Try.ntmps30
      go_wp2_with fail
      generalize w.alloc (.cells #[.int .i64 a, .int .i64 b, .int .i64 n] 41) = u1 at *
      refine (H1.out _).mono ?_
      rintro e w1 ⟨rfl, hC⟩
      dsimp only
      replace k1 := k1.on hC; replace bc := bc.trans (hC.mono bc.size); clear hC
      obtain ⟨pk1_0, pk1_1, pk1_2, pk1_0f, pk1_1f, pk1_2f⟩ := k1.three
      go_wp2
      clear pk1_0 pk1_1 pk1_2 pk1_0f pk1_1f pk1_2f
      go_ret2
      exact ⟨rfl, bc⟩
    rw [if_neg c1]
    have d1_0 : decide (1099511627776 < t) = false := by simp; omega
    have e1 : IntKind.i64.wrap (t - a) = t - a := IntWalk.i64_in _ (by omega)
    have e2 : IntKind.i64.wrap ((t - a).tdiv b) = (t - a) / b := quo_in (by omega) (by omega) o2
    have hb0 : b ≠ 0 := by omega
    have H1 := Lib.hid h1; clear h1
    obtain ⟨k1, bc⟩ := bx1 w #[.int .i64 a, .int .i64 b, .int .i64 n] 41
    go_enter Try.func30, Try.ntmps30
    go_wp2_with fail
    generalize w.alloc (.cells #[.int .i64 a, .int .i64 b, .int .i64 n] 41) = u1 at *
    refine (H1.out _).mono ?_
    rintro e w1 ⟨rfl, hC⟩
    dsimp only
    replace k1 := k1.on hC; replace bc := bc.trans (hC.mono bc.size); clear hC
    obtain ⟨pk1_0, pk1_1, pk1_2, pk1_0f, pk1_1f, pk1_2f⟩ := k1.three
    go_wp2
    clear pk1_0 pk1_1 pk1_2 pk1_0f pk1_1f pk1_2f
    go_ret2
    exact ⟨rfl, bc⟩
  · simp only [hx, if_false] at h1 ⊢
    have H1 := Lib.hid h1; clear h1
    obtain ⟨k1, bc⟩ := bx1 w #[.int .i64 a, .int .i64 b, .int .i64 n] 41
    go_enter Try.func30, Try.ntmps30
    go_wp2_with fail
    generalize w.alloc (.cells #[.int .i64 a, .int .i64 b, .int .i64 n] 41) = u1 at *
    refine (H1.out _).mono ?_
    rintro e w1 ⟨rfl, hC⟩
    dsimp only
    replace k1 := k1.on hC; replace bc := bc.trans (hC.mono bc.size); clear hC
    obtain ⟨pk1_0, pk1_1, pk1_2, pk1_0f, pk1_1f, pk1_2f⟩ := k1.three
    go_wp2
    clear pk1_0 pk1_1 pk1_2 pk1_0f pk1_1f pk1_2f
    go_ret2
    exact ⟨rfl, bc⟩
end Go.Proofs.Ytjdhodobfkkoiaa
