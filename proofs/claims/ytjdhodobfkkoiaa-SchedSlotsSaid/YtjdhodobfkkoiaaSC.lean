/-
  Small functions of package sched and of the document: whether spans meet, or lie in each other; a span later on; which grids may be; a slot, and the slot of a moment. No condition.
-/
import Derived.Test.YtjdhodobfkkoiaaSB
namespace Go.Proofs.Ytjdhodobfkkoiaa
open Go.RowKit

set_option maxRecDepth 8000 in
set_option maxHeartbeats 1000000 in
theorem rmeets_any (x y u v : Int) (w : World) : Calls Try.prog 15 #[vS x y, vS u v] w fun e w' => e = .returned (.bool (meetsS (x, y) (u, v))) ∧ Below w.heap.size w w' := by
  have h1 := fun W => rscheck_any x y W
  have h2 := fun W => rscheck_any u v W
  simp only [chkS_if] at h1 h2
  unfold meetsS; try dsimp only
  by_cases hx : okS (x, y)
  · simp only [hx, if_true, decide_true, Bool.true_and] at h1 ⊢
    by_cases hu : okS (u, v)
    · simp only [hu, if_true, decide_true, Bool.true_and] at h2 ⊢
      unfold bothS; dsimp only
      by_cases c1 : x < u
      · rw [show max x u = u by omega]
        by_cases c2 : v < y
        · rw [show min y v = v by omega]
          have H1 := Lib.hid h1; have H2 := Lib.hid h2; clear h1 h2 hx hu
          obtain ⟨k1, k2, bc⟩ := bx2 w #[.int .i64 x, .int .i64 y] #[.int .i64 u, .int .i64 v] 23 23
          go_enter Try.func15, Try.ntmps15
          go_wp2_with fail
          generalize (w.alloc (.cells #[.int .i64 x, .int .i64 y] 23)).alloc (.cells #[.int .i64 u, .int .i64 v] 23) = u1 at *
          refine (H1.out _).mono ?_
          rintro e w1 ⟨rfl, hC⟩
          dsimp only
          replace k1 := k1.on hC; replace k2 := k2.on hC; replace bc := bc.trans (hC.mono bc.size); clear hC
          obtain ⟨pk1_0, pk1_1, pk1_0f, pk1_1f⟩ := k1.two
          obtain ⟨pk2_0, pk2_1, pk2_0f, pk2_1f⟩ := k2.two
          go_wp2_with fail
          clear pk1_0 pk1_1 pk1_0f pk1_1f pk2_0 pk2_1 pk2_0f pk2_1f
          refine (H2.out _).mono ?_
          rintro e w2 ⟨rfl, hC⟩
          dsimp only
          replace k1 := k1.on hC; replace k2 := k2.on hC; replace bc := bc.trans (hC.mono bc.size); clear hC
          obtain ⟨pk1_0, pk1_1, pk1_0f, pk1_1f⟩ := k1.two
          obtain ⟨pk2_0, pk2_1, pk2_0f, pk2_1f⟩ := k2.two
          go_wp2
          clear pk1_0 pk1_1 pk1_0f pk1_1f pk2_0 pk2_1 pk2_0f pk2_1f
          go_ret
          exact ⟨rfl, bc⟩
        · rw [show min y v = y by omega]
          have H1 := Lib.hid h1; have H2 := Lib.hid h2; clear h1 h2 hx hu
          obtain ⟨k1, k2, bc⟩ := bx2 w #[.int .i64 x, .int .i64 y] #[.int .i64 u, .int .i64 v] 23 23
          go_enter Try.func15, Try.ntmps15
          go_wp2_with fail
          generalize (w.alloc (.cells #[.int .i64 x, .int .i64 y] 23)).alloc (.cells #[.int .i64 u, .int .i64 v] 23) = u1 at *
          refine (H1.out _).mono ?_
          rintro e w1 ⟨rfl, hC⟩
          dsimp only
          replace k1 := k1.on hC; replace k2 := k2.on hC; replace bc := bc.trans (hC.mono bc.size); clear hC
          obtain ⟨pk1_0, pk1_1, pk1_0f, pk1_1f⟩ := k1.two
          obtain ⟨pk2_0, pk2_1, pk2_0f, pk2_1f⟩ := k2.two
          go_wp2_with fail
          clear pk1_0 pk1_1 pk1_0f pk1_1f pk2_0 pk2_1 pk2_0f pk2_1f
          refine (H2.out _).mono ?_
          rintro e w2 ⟨rfl, hC⟩
          dsimp only
          replace k1 := k1.on hC; replace k2 := k2.on hC; replace bc := bc.trans (hC.mono bc.size); clear hC
          obtain ⟨pk1_0, pk1_1, pk1_0f, pk1_1f⟩ := k1.two
          obtain ⟨pk2_0, pk2_1, pk2_0f, pk2_1f⟩ := k2.two
          go_wp2
          clear pk1_0 pk1_1 pk1_0f pk1_1f pk2_0 pk2_1 pk2_0f pk2_1f
          go_ret
          exact ⟨rfl, bc⟩
      · rw [show max x u = x by omega]
        by_cases c2 : v < y
        · rw [show min y v = v by omega]
          have H1 := Lib.hid h1; have H2 := Lib.hid h2; clear h1 h2 hx hu
          obtain ⟨k1, k2, bc⟩ := bx2 w #[.int .i64 x, .int .i64 y] #[.int .i64 u, .int .i64 v] 23 23
          go_enter Try.func15, Try.ntmps15
          go_wp2_with fail
          generalize (w.alloc (.cells #[.int .i64 x, .int .i64 y] 23)).alloc (.cells #[.int .i64 u, .int .i64 v] 23) = u1 at *
          refine (H1.out _).mono ?_
          rintro e w1 ⟨rfl, hC⟩
          dsimp only
          replace k1 := k1.on hC; replace k2 := k2.on hC; replace bc := bc.trans (hC.mono bc.size); clear hC
          obtain ⟨pk1_0, pk1_1, pk1_0f, pk1_1f⟩ := k1.two
          obtain ⟨pk2_0, pk2_1, pk2_0f, pk2_1f⟩ := k2.two
          go_wp2_with fail
          clear pk1_0 pk1_1 pk1_0f pk1_1f pk2_0 pk2_1 pk2_0f pk2_1f
          refine (H2.out _).mono ?_
          rintro e w2 ⟨rfl, hC⟩
          dsimp only
          replace k1 := k1.on hC; replace k2 := k2.on hC; replace bc := bc.trans (hC.mono bc.size); clear hC
          obtain ⟨pk1_0, pk1_1, pk1_0f, pk1_1f⟩ := k1.two
          obtain ⟨pk2_0, pk2_1, pk2_0f, pk2_1f⟩ := k2.two
          go_wp2
          clear pk1_0 pk1_1 pk1_0f pk1_1f pk2_0 pk2_1 pk2_0f pk2_1f
          go_ret
          exact ⟨rfl, bc⟩
        · rw [show min y v = y by omega]
          have H1 := Lib.hid h1; have H2 := Lib.hid h2; clear h1 h2 hx hu
          obtain ⟨k1, k2, bc⟩ := bx2 w #[.int .i64 x, .int .i64 y] #[.int .i64 u, .int .i64 v] 23 23
          go_enter Try.func15, Try.ntmps15
          go_wp2_with fail
          generalize (w.alloc (.cells #[.int .i64 x, .int .i64 y] 23)).alloc (.cells #[.int .i64 u, .int .i64 v] 23) = u1 at *
          refine (H1.out _).mono ?_
          rintro e w1 ⟨rfl, hC⟩
          dsimp only
          replace k1 := k1.on hC; replace k2 := k2.on hC; replace bc := bc.trans (hC.mono bc.size); clear hC
          obtain ⟨pk1_0, pk1_1, pk1_0f, pk1_1f⟩ := k1.two
          obtain ⟨pk2_0, pk2_1, pk2_0f, pk2_1f⟩ := k2.two
          go_wp2_with fail
          clear pk1_0 pk1_1 pk1_0f pk1_1f pk2_0 pk2_1 pk2_0f pk2_1f
          refine (H2.out _).mono ?_
          rintro e w2 ⟨rfl, hC⟩
          dsimp only
          replace k1 := k1.on hC; replace k2 := k2.on hC; replace bc := bc.trans (hC.mono bc.size); clear hC
          obtain ⟨pk1_0, pk1_1, pk1_0f, pk1_1f⟩ := k1.two
          obtain ⟨pk2_0, pk2_1, pk2_0f, pk2_1f⟩ := k2.two
          go_wp2
          clear pk1_0 pk1_1 pk1_0f pk1_1f pk2_0 pk2_1 pk2_0f pk2_1f
          go_ret
          exact ⟨rfl, bc⟩
    · simp only [hu, if_false, decide_false, Bool.false_and] at h2 ⊢
      have H1 := Lib.hid h1; have H2 := Lib.hid h2; clear h1 h2 hx hu
      obtain ⟨k1, k2, bc⟩ := bx2 w #[.int .i64 x, .int .i64 y] #[.int .i64 u, .int .i64 v] 23 23
      go_enter Try.func15, Try.ntmps15
      go_wp2_with fail
      generalize (w.alloc (.cells #[.int .i64 x, .int .i64 y] 23)).alloc (.cells #[.int .i64 u, .int .i64 v] 23) = u1 at *
      refine (H1.out _).mono ?_
      rintro e w1 ⟨rfl, hC⟩
      dsimp only
      replace k1 := k1.on hC; replace k2 := k2.on hC; replace bc := bc.trans (hC.mono bc.size); clear hC
      obtain ⟨pk1_0, pk1_1, pk1_0f, pk1_1f⟩ := k1.two
      obtain ⟨pk2_0, pk2_1, pk2_0f, pk2_1f⟩ := k2.two
      go_wp2_with fail
      clear pk1_0 pk1_1 pk1_0f pk1_1f pk2_0 pk2_1 pk2_0f pk2_1f
      refine (H2.out _).mono ?_
      rintro e w2 ⟨rfl, hC⟩
      dsimp only
      replace k1 := k1.on hC; replace k2 := k2.on hC; replace bc := bc.trans (hC.mono bc.size); clear hC
      obtain ⟨pk1_0, pk1_1, pk1_0f, pk1_1f⟩ := k1.two
      obtain ⟨pk2_0, pk2_1, pk2_0f, pk2_1f⟩ := k2.two
      go_wp2
      clear pk1_0 pk1_1 pk1_0f pk1_1f pk2_0 pk2_1 pk2_0f pk2_1f
      go_ret
      exact ⟨rfl, bc⟩
  · simp only [hx, if_false, decide_false, Bool.false_and] at h1 ⊢
    have H1 := Lib.hid h1; have H2 := Lib.hid h2; clear h1 h2 hx
    obtain ⟨k1, k2, bc⟩ := bx2 w #[.int .i64 x, .int .i64 y] #[.int .i64 u, .int .i64 v] 23 23
    go_enter Try.func15, Try.ntmps15
    go_wp2_with fail
    generalize (w.alloc (.cells #[.int .i64 x, .int .i64 y] 23)).alloc (.cells #[.int .i64 u, .int .i64 v] 23) = u1 at *
    refine (H1.out _).mono ?_
    rintro e w1 ⟨rfl, hC⟩
    dsimp only
    replace k1 := k1.on hC; replace k2 := k2.on hC; replace bc := bc.trans (hC.mono bc.size); clear hC
    go_wp2
    go_ret
    exact ⟨rfl, bc⟩
set_option maxRecDepth 8000 in
set_option maxHeartbeats 1000000 in
theorem rwithin_any (x y u v : Int) (w : World) : Calls Try.prog 17 #[vS x y, vS u v] w fun e w' => e = .returned (.bool (withinS (x, y) (u, v))) ∧ Below w.heap.size w w' := by
  have h1 := fun W => rscheck_any x y W
  have h2 := fun W => rscheck_any u v W
  simp only [chkS_if] at h1 h2
  unfold withinS; try dsimp only
  by_cases hx : okS (x, y)
  · simp only [hx, if_true, decide_true, Bool.true_and] at h1 ⊢
    by_cases hu : okS (u, v)
    · simp only [hu, if_true, decide_true, Bool.true_and] at h2 ⊢
      by_cases c1 : u ≤ x
      · have d1 : decide (u ≤ x) = true := by simpa using c1
        rw [d1, Bool.true_and]
        have H1 := Lib.hid h1; have H2 := Lib.hid h2; clear h1 h2 hx hu
        obtain ⟨k1, k2, bc⟩ := bx2 w #[.int .i64 x, .int .i64 y] #[.int .i64 u, .int .i64 v] 23 23
        go_enter Try.func17, Try.ntmps17
        go_wp2_with fail
        generalize (w.alloc (.cells #[.int .i64 x, .int .i64 y] 23)).alloc (.cells #[.int .i64 u, .int .i64 v] 23) = u1 at *
        refine (H1.out _).mono ?_
        rintro e w1 ⟨rfl, hC⟩
        dsimp only
        replace k1 := k1.on hC; replace k2 := k2.on hC; replace bc := bc.trans (hC.mono bc.size); clear hC
        obtain ⟨pk1_0, pk1_1, pk1_0f, pk1_1f⟩ := k1.two
        obtain ⟨pk2_0, pk2_1, pk2_0f, pk2_1f⟩ := k2.two
        go_wp2_with fail
        clear pk1_0 pk1_1 pk1_0f pk1_1f pk2_0 pk2_1 pk2_0f pk2_1f
        refine (H2.out _).mono ?_
        rintro e w2 ⟨rfl, hC⟩
        dsimp only
        replace k1 := k1.on hC; replace k2 := k2.on hC; replace bc := bc.trans (hC.mono bc.size); clear hC
        obtain ⟨pk1_0, pk1_1, pk1_0f, pk1_1f⟩ := k1.two
        obtain ⟨pk2_0, pk2_1, pk2_0f, pk2_1f⟩ := k2.two
        go_wp2
        clear pk1_0 pk1_1 pk1_0f pk1_1f pk2_0 pk2_1 pk2_0f pk2_1f
        go_ret
        exact ⟨rfl, bc⟩
      · have d1 : decide (u ≤ x) = false := by simpa using c1
        rw [d1, Bool.false_and]
        have H1 := Lib.hid h1; have H2 := Lib.hid h2; clear h1 h2 hx hu
        obtain ⟨k1, k2, bc⟩ := bx2 w #[.int .i64 x, .int .i64 y] #[.int .i64 u, .int .i64 v] 23 23
        go_enter Try.func17, Try.ntmps17
        go_wp2_with fail
        generalize (w.alloc (.cells #[.int .i64 x, .int .i64 y] 23)).alloc (.cells #[.int .i64 u, .int .i64 v] 23) = u1 at *
        refine (H1.out _).mono ?_
        rintro e w1 ⟨rfl, hC⟩
        dsimp only
        replace k1 := k1.on hC; replace k2 := k2.on hC; replace bc := bc.trans (hC.mono bc.size); clear hC
        obtain ⟨pk1_0, pk1_1, pk1_0f, pk1_1f⟩ := k1.two
        obtain ⟨pk2_0, pk2_1, pk2_0f, pk2_1f⟩ := k2.two
        go_wp2_with fail
        clear pk1_0 pk1_1 pk1_0f pk1_1f pk2_0 pk2_1 pk2_0f pk2_1f
        refine (H2.out _).mono ?_
        rintro e w2 ⟨rfl, hC⟩
        dsimp only
        replace k1 := k1.on hC; replace k2 := k2.on hC; replace bc := bc.trans (hC.mono bc.size); clear hC
        obtain ⟨pk1_0, pk1_1, pk1_0f, pk1_1f⟩ := k1.two
        obtain ⟨pk2_0, pk2_1, pk2_0f, pk2_1f⟩ := k2.two
        go_wp2
        clear pk1_0 pk1_1 pk1_0f pk1_1f pk2_0 pk2_1 pk2_0f pk2_1f
        go_ret
        exact ⟨rfl, bc⟩
    · simp only [hu, if_false, decide_false, Bool.false_and] at h2 ⊢
      have H1 := Lib.hid h1; have H2 := Lib.hid h2; clear h1 h2 hx hu
      obtain ⟨k1, k2, bc⟩ := bx2 w #[.int .i64 x, .int .i64 y] #[.int .i64 u, .int .i64 v] 23 23
      go_enter Try.func17, Try.ntmps17
      go_wp2_with fail
      generalize (w.alloc (.cells #[.int .i64 x, .int .i64 y] 23)).alloc (.cells #[.int .i64 u, .int .i64 v] 23) = u1 at *
      refine (H1.out _).mono ?_
      rintro e w1 ⟨rfl, hC⟩
      dsimp only
      replace k1 := k1.on hC; replace k2 := k2.on hC; replace bc := bc.trans (hC.mono bc.size); clear hC
      obtain ⟨pk1_0, pk1_1, pk1_0f, pk1_1f⟩ := k1.two
      obtain ⟨pk2_0, pk2_1, pk2_0f, pk2_1f⟩ := k2.two
      go_wp2_with fail
      clear pk1_0 pk1_1 pk1_0f pk1_1f pk2_0 pk2_1 pk2_0f pk2_1f
      refine (H2.out _).mono ?_
      rintro e w2 ⟨rfl, hC⟩
      dsimp only
      replace k1 := k1.on hC; replace k2 := k2.on hC; replace bc := bc.trans (hC.mono bc.size); clear hC
      obtain ⟨pk1_0, pk1_1, pk1_0f, pk1_1f⟩ := k1.two
      obtain ⟨pk2_0, pk2_1, pk2_0f, pk2_1f⟩ := k2.two
      go_wp2
      clear pk1_0 pk1_1 pk1_0f pk1_1f pk2_0 pk2_1 pk2_0f pk2_1f
      go_ret
      exact ⟨rfl, bc⟩
  · simp only [hx, if_false, decide_false, Bool.false_and] at h1 ⊢
    have H1 := Lib.hid h1; have H2 := Lib.hid h2; clear h1 h2 hx
    obtain ⟨k1, k2, bc⟩ := bx2 w #[.int .i64 x, .int .i64 y] #[.int .i64 u, .int .i64 v] 23 23
    go_enter Try.func17, Try.ntmps17
    go_wp2_with fail
    generalize (w.alloc (.cells #[.int .i64 x, .int .i64 y] 23)).alloc (.cells #[.int .i64 u, .int .i64 v] 23) = u1 at *
    refine (H1.out _).mono ?_
    rintro e w1 ⟨rfl, hC⟩
    dsimp only
    replace k1 := k1.on hC; replace k2 := k2.on hC; replace bc := bc.trans (hC.mono bc.size); clear hC
    go_wp2
    go_ret
    exact ⟨rfl, bc⟩
set_option maxRecDepth 8000 in
set_option maxHeartbeats 1000000 in
theorem shift_any (x y by_ : Int) (w : World) : Calls Try.prog 9 #[vS x y, .int .i64 by_] w fun e w' => e = .returned (.tuple #[vS (shiftS (x, y) by_).2.1 (shiftS (x, y) by_).2.2, .int .i64 (shiftS (x, y) by_).1]) ∧ Below w.heap.size w w' := by
  have h1 := fun W => scheck_any x y W
  simp only [chkS_if] at h1
  unfold shiftS; dsimp only
  by_cases hx : okS (x, y)
  · simp only [hx, if_true] at h1 ⊢
    obtain ⟨o0, o1, o2⟩ := hx
    dsimp only at o0 o1 o2
    have e0 : IntKind.i64.wrap (-x) = -x := IntWalk.i64_in _ (by omega)
    have e1 : IntKind.i64.wrap (1099511627776 - y) = 1099511627776 - y := IntWalk.i64_in _ (by omega)
    by_cases c0 : by_ < -x
    · rw [if_pos c0]
      have d0_0 : decide (by_ < -x) = true := by simp; omega
      have H1 := Lib.hid h1; clear h1
      obtain ⟨k1, k2, bc⟩ := bx2 w #[.int .i64 x, .int .i64 y] #[.int .i64 0, .int .i64 0] 23 23
      go_enter Try.func9, Try.ntmps9
      go_wp2_with fail
      generalize (w.alloc (.cells #[.int .i64 x, .int .i64 y] 23)).alloc (.cells #[.int .i64 0, .int .i64 0] 23) = u1 at *
      refine (H1.out _).mono ?_
      rintro e w1 ⟨rfl, hC⟩
      dsimp only
      replace k1 := k1.on hC; replace k2 := k2.on hC; replace bc := bc.trans (hC.mono bc.size); clear hC
      obtain ⟨pk1_0, pk1_1, pk1_0f, pk1_1f⟩ := k1.two
      obtain ⟨pk2_0, pk2_1, pk2_0f, pk2_1f⟩ := k2.two
      go_wp2
      exact bodyPost_ret (v := .tuple #[vS (0) (0), .int .i64 (60)]) (by simp [results, Try.results9, go_sem, pk2_0, pk2_1]) rfl ⟨rfl, (by first | exact bc | exact Below.off bc bc.size (by omega) (st2 _ _ _ _))⟩
    rw [if_neg c0]
    have d0_0 : decide (by_ < -x) = false := by simp; omega
    by_cases c1 : 1099511627776 - y < by_
    · rw [if_pos c1]
      have d1_0 : decide (1099511627776 - y < by_) = true := by simp; omega
      have H1 := Lib.hid h1; clear h1
      obtain ⟨k1, k2, bc⟩ := bx2 w #[.int .i64 x, .int .i64 y] #[.int .i64 0, .int .i64 0] 23 23
      go_enter Try.func9, Try.ntmps9
      go_wp2_with fail
      generalize (w.alloc (.cells #[.int .i64 x, .int .i64 y] 23)).alloc (.cells #[.int .i64 0, .int .i64 0] 23) = u1 at *
      refine (H1.out _).mono ?_
      rintro e w1 ⟨rfl, hC⟩
      dsimp only
      replace k1 := k1.on hC; replace k2 := k2.on hC; replace bc := bc.trans (hC.mono bc.size); clear hC
      obtain ⟨pk1_0, pk1_1, pk1_0f, pk1_1f⟩ := k1.two
      obtain ⟨pk2_0, pk2_1, pk2_0f, pk2_1f⟩ := k2.two
      go_wp2
      exact bodyPost_ret (v := .tuple #[vS (0) (0), .int .i64 (60)]) (by simp [results, Try.results9, go_sem, pk2_0, pk2_1]) rfl ⟨rfl, (by first | exact bc | exact Below.off bc bc.size (by omega) (st2 _ _ _ _))⟩
    rw [if_neg c1]
    have d1_0 : decide (1099511627776 - y < by_) = false := by simp; omega
    have e2 : IntKind.i64.wrap (x + by_) = x + by_ := IntWalk.i64_in _ (by omega)
    have e3 : IntKind.i64.wrap (y + by_) = y + by_ := IntWalk.i64_in _ (by omega)
    have H1 := Lib.hid h1; clear h1
    obtain ⟨k1, k2, bc⟩ := bx2 w #[.int .i64 x, .int .i64 y] #[.int .i64 0, .int .i64 0] 23 23
    go_enter Try.func9, Try.ntmps9
    go_wp2_with fail
    generalize (w.alloc (.cells #[.int .i64 x, .int .i64 y] 23)).alloc (.cells #[.int .i64 0, .int .i64 0] 23) = u1 at *
    refine (H1.out _).mono ?_
    rintro e w1 ⟨rfl, hC⟩
    dsimp only
    replace k1 := k1.on hC; replace k2 := k2.on hC; replace bc := bc.trans (hC.mono bc.size); clear hC
    obtain ⟨pk1_0, pk1_1, pk1_0f, pk1_1f⟩ := k1.two
    obtain ⟨pk2_0, pk2_1, pk2_0f, pk2_1f⟩ := k2.two
    go_wp2
    exact bodyPost_ret (v := .tuple #[vS (x + by_) (y + by_), .int .i64 (0)]) (by simp [results, Try.results9, go_sem, pk2_0, pk2_1]) rfl ⟨rfl, (by first | exact bc | exact Below.off bc bc.size (by omega) (st2 _ _ _ _))⟩
  · simp only [hx, if_false] at h1 ⊢
    have H1 := Lib.hid h1; clear h1
    obtain ⟨k1, k2, bc⟩ := bx2 w #[.int .i64 x, .int .i64 y] #[.int .i64 0, .int .i64 0] 23 23
    go_enter Try.func9, Try.ntmps9
    go_wp2_with fail
    generalize (w.alloc (.cells #[.int .i64 x, .int .i64 y] 23)).alloc (.cells #[.int .i64 0, .int .i64 0] 23) = u1 at *
    refine (H1.out _).mono ?_
    rintro e w1 ⟨rfl, hC⟩
    dsimp only
    replace k1 := k1.on hC; replace k2 := k2.on hC; replace bc := bc.trans (hC.mono bc.size); clear hC
    obtain ⟨pk1_0, pk1_1, pk1_0f, pk1_1f⟩ := k1.two
    obtain ⟨pk2_0, pk2_1, pk2_0f, pk2_1f⟩ := k2.two
    go_wp2
    exact bodyPost_ret (v := .tuple #[vS (0) (0), .int .i64 (60)]) (by simp [results, Try.results9, go_sem, pk2_0, pk2_1]) rfl ⟨rfl, (by first | exact bc | exact Below.off bc bc.size (by omega) (st2 _ _ _ _))⟩
set_option maxRecDepth 8000 in
set_option maxHeartbeats 1000000 in
theorem rshift_any (x y by_ : Int) (w : World) : Calls Try.prog 10 #[vS x y, .int .i64 by_] w fun e w' => e = .returned (.tuple #[vS (shiftS (x, y) by_).2.1 (shiftS (x, y) by_).2.2, .int .i64 (shiftS (x, y) by_).1]) ∧ Below w.heap.size w w' := by
  have h1 := fun W => rscheck_any x y W
  simp only [chkS_if] at h1
  unfold shiftS; dsimp only
  by_cases hx : okS (x, y)
  · simp only [hx, if_true] at h1 ⊢
    obtain ⟨o0, o1, o2⟩ := hx
    dsimp only at o0 o1 o2
    have e0 : IntKind.i64.wrap (-x) = -x := IntWalk.i64_in _ (by omega)
    have e1 : IntKind.i64.wrap (1099511627776 - y) = 1099511627776 - y := IntWalk.i64_in _ (by omega)
    by_cases c0 : by_ < -x
    · rw [if_pos c0]
      have d0_0 : decide (by_ < -x) = true := by simp; omega
      have H1 := Lib.hid h1; clear h1
      obtain ⟨k1, k2, bc⟩ := bx2 w #[.int .i64 x, .int .i64 y] #[.int .i64 0, .int .i64 0] 23 23
      go_enter Try.func10, Try.ntmps10
      go_wp2_with fail
      generalize (w.alloc (.cells #[.int .i64 x, .int .i64 y] 23)).alloc (.cells #[.int .i64 0, .int .i64 0] 23) = u1 at *
      refine (H1.out _).mono ?_
      rintro e w1 ⟨rfl, hC⟩
      dsimp only
      replace k1 := k1.on hC; replace k2 := k2.on hC; replace bc := bc.trans (hC.mono bc.size); clear hC
      obtain ⟨pk1_0, pk1_1, pk1_0f, pk1_1f⟩ := k1.two
      obtain ⟨pk2_0, pk2_1, pk2_0f, pk2_1f⟩ := k2.two
      go_wp2
      exact bodyPost_ret (v := .tuple #[vS (0) (0), .int .i64 (60)]) (by simp [results, Try.results10, go_sem, pk2_0, pk2_1]) rfl ⟨rfl, (by first | exact bc | exact Below.off bc bc.size (by omega) (st2 _ _ _ _))⟩
    rw [if_neg c0]
    have d0_0 : decide (by_ < -x) = false := by simp; omega
    by_cases c1 : 1099511627776 - y < by_
    · rw [if_pos c1]
      have d1_0 : decide (1099511627776 - y < by_) = true := by simp; omega
      have H1 := Lib.hid h1; clear h1
      obtain ⟨k1, k2, bc⟩ := bx2 w #[.int .i64 x, .int .i64 y] #[.int .i64 0, .int .i64 0] 23 23
      go_enter Try.func10, Try.ntmps10
      go_wp2_with fail
      generalize (w.alloc (.cells #[.int .i64 x, .int .i64 y] 23)).alloc (.cells #[.int .i64 0, .int .i64 0] 23) = u1 at *
      refine (H1.out _).mono ?_
      rintro e w1 ⟨rfl, hC⟩
      dsimp only
      replace k1 := k1.on hC; replace k2 := k2.on hC; replace bc := bc.trans (hC.mono bc.size); clear hC
      obtain ⟨pk1_0, pk1_1, pk1_0f, pk1_1f⟩ := k1.two
      obtain ⟨pk2_0, pk2_1, pk2_0f, pk2_1f⟩ := k2.two
      go_wp2
      exact bodyPost_ret (v := .tuple #[vS (0) (0), .int .i64 (60)]) (by simp [results, Try.results10, go_sem, pk2_0, pk2_1]) rfl ⟨rfl, (by first | exact bc | exact Below.off bc bc.size (by omega) (st2 _ _ _ _))⟩
    rw [if_neg c1]
    have d1_0 : decide (1099511627776 - y < by_) = false := by simp; omega
    have e2 : IntKind.i64.wrap (x + by_) = x + by_ := IntWalk.i64_in _ (by omega)
    have e3 : IntKind.i64.wrap (y + by_) = y + by_ := IntWalk.i64_in _ (by omega)
    have H1 := Lib.hid h1; clear h1
    obtain ⟨k1, k2, bc⟩ := bx2 w #[.int .i64 x, .int .i64 y] #[.int .i64 0, .int .i64 0] 23 23
    go_enter Try.func10, Try.ntmps10
    go_wp2_with fail
    generalize (w.alloc (.cells #[.int .i64 x, .int .i64 y] 23)).alloc (.cells #[.int .i64 0, .int .i64 0] 23) = u1 at *
    refine (H1.out _).mono ?_
    rintro e w1 ⟨rfl, hC⟩
    dsimp only
    replace k1 := k1.on hC; replace k2 := k2.on hC; replace bc := bc.trans (hC.mono bc.size); clear hC
    obtain ⟨pk1_0, pk1_1, pk1_0f, pk1_1f⟩ := k1.two
    obtain ⟨pk2_0, pk2_1, pk2_0f, pk2_1f⟩ := k2.two
    go_wp2
    exact bodyPost_ret (v := .tuple #[vS (x + by_) (y + by_), .int .i64 (0)]) (by simp [results, Try.results10, go_sem, pk2_0, pk2_1]) rfl ⟨rfl, (by first | exact bc | exact Below.off bc bc.size (by omega) (st2 _ _ _ _))⟩
  · simp only [hx, if_false] at h1 ⊢
    have H1 := Lib.hid h1; clear h1
    obtain ⟨k1, k2, bc⟩ := bx2 w #[.int .i64 x, .int .i64 y] #[.int .i64 0, .int .i64 0] 23 23
    go_enter Try.func10, Try.ntmps10
    go_wp2_with fail
    generalize (w.alloc (.cells #[.int .i64 x, .int .i64 y] 23)).alloc (.cells #[.int .i64 0, .int .i64 0] 23) = u1 at *
    refine (H1.out _).mono ?_
    rintro e w1 ⟨rfl, hC⟩
    dsimp only
    replace k1 := k1.on hC; replace k2 := k2.on hC; replace bc := bc.trans (hC.mono bc.size); clear hC
    obtain ⟨pk1_0, pk1_1, pk1_0f, pk1_1f⟩ := k1.two
    obtain ⟨pk2_0, pk2_1, pk2_0f, pk2_1f⟩ := k2.two
    go_wp2
    exact bodyPost_ret (v := .tuple #[vS (0) (0), .int .i64 (60)]) (by simp [results, Try.results10, go_sem, pk2_0, pk2_1]) rfl ⟨rfl, (by first | exact bc | exact Below.off bc bc.size (by omega) (st2 _ _ _ _))⟩
set_option maxRecDepth 8000 in
set_option maxHeartbeats 1000000 in
theorem isMoment_any (a : Int) (w : World) : Calls Try.prog 45 #[.int .i64 a] w fun e w' => e = .returned (.bool (decide (0 ≤ a) && decide (a ≤ 1099511627776))) ∧ w = w' := by
  by_cases h0 : 0 ≤ a
  · have d0 : decide (0 ≤ a) = true := by simpa using h0
    rw [d0, Bool.true_and]
    go_enter Try.func45, Try.ntmps45
    go_wp2
    go_ret
    exact ⟨rfl, rfl⟩
  · have d0 : decide (0 ≤ a) = false := by simpa using h0
    rw [d0, Bool.false_and]
    go_enter Try.func45, Try.ntmps45
    go_wp2
    go_ret
    exact ⟨rfl, rfl⟩
set_option maxRecDepth 8000 in
set_option maxHeartbeats 1000000 in
theorem checkG_any (a b n : Int) (w : World) : Calls Try.prog 33 #[vG a b n] w fun e w' => e = .returned (.int .i64 (chkG (a, b, n))) ∧ Below w.heap.size w w' := by
  unfold chkG; dsimp only
  by_cases h0 : a < 0
  · rw [if_pos h0]
    have d0_0 : decide (a < 0) = true := by simp; omega
    have hM := fun W => isMoment_any a W
    have hb : (decide (0 ≤ a) && decide (a ≤ 1099511627776)) = false := by simp; omega
    rw [hb] at hM
    have HM := Lib.hid hM; clear hM hb
    obtain ⟨k1, bc⟩ := bx1 w #[.int .i64 a, .int .i64 b, .int .i64 n] 41
    have BC := Lib.hid bc; clear bc k1
    go_enter Try.func33, Try.ntmps33
    go_wp2_with (go_at_call 45; refine (HM.out _).mono ?_; rintro e w1 ⟨rfl, rfl⟩)
    go_ret
    exact ⟨rfl, BC.out⟩
  rw [if_neg h0]
  have d0_0 : decide (a < 0) = false := by simp; omega
  by_cases h1 : 1099511627776 < a
  · rw [if_pos h1]
    have d1_0 : decide (1099511627776 < a) = true := by simp; omega
    have hM := fun W => isMoment_any a W
    have hb : (decide (0 ≤ a) && decide (a ≤ 1099511627776)) = false := by simp; omega
    rw [hb] at hM
    have HM := Lib.hid hM; clear hM hb
    obtain ⟨k1, bc⟩ := bx1 w #[.int .i64 a, .int .i64 b, .int .i64 n] 41
    have BC := Lib.hid bc; clear bc k1
    go_enter Try.func33, Try.ntmps33
    go_wp2_with (go_at_call 45; refine (HM.out _).mono ?_; rintro e w1 ⟨rfl, rfl⟩)
    go_ret
    exact ⟨rfl, BC.out⟩
  rw [if_neg h1]
  have d1_0 : decide (1099511627776 < a) = false := by simp; omega
  by_cases h2 : b < 1
  · rw [if_pos h2]
    have d2_0 : decide (b < 1) = true := by simp; omega
    have hM := fun W => isMoment_any a W
    have hb : (decide (0 ≤ a) && decide (a ≤ 1099511627776)) = true := by simp; omega
    rw [hb] at hM
    have HM := Lib.hid hM; clear hM hb
    obtain ⟨k1, bc⟩ := bx1 w #[.int .i64 a, .int .i64 b, .int .i64 n] 41
    have BC := Lib.hid bc; clear bc k1
    go_enter Try.func33, Try.ntmps33
    go_wp2_with (go_at_call 45; refine (HM.out _).mono ?_; rintro e w1 ⟨rfl, rfl⟩)
    go_ret
    exact ⟨rfl, BC.out⟩
  rw [if_neg h2]
  have d2_0 : decide (b < 1) = false := by simp; omega
  by_cases h3 : 16777216 < b
  · rw [if_pos h3]
    have d3_0 : decide (16777216 < b) = true := by simp; omega
    have hM := fun W => isMoment_any a W
    have hb : (decide (0 ≤ a) && decide (a ≤ 1099511627776)) = true := by simp; omega
    rw [hb] at hM
    have HM := Lib.hid hM; clear hM hb
    obtain ⟨k1, bc⟩ := bx1 w #[.int .i64 a, .int .i64 b, .int .i64 n] 41
    have BC := Lib.hid bc; clear bc k1
    go_enter Try.func33, Try.ntmps33
    go_wp2_with (go_at_call 45; refine (HM.out _).mono ?_; rintro e w1 ⟨rfl, rfl⟩)
    go_ret
    exact ⟨rfl, BC.out⟩
  rw [if_neg h3]
  have d3_0 : decide (16777216 < b) = false := by simp; omega
  by_cases h4 : n < 4
  · rw [if_pos h4]
    have d4_0 : decide (n < 4) = true := by simp; omega
    have hM := fun W => isMoment_any a W
    have hb : (decide (0 ≤ a) && decide (a ≤ 1099511627776)) = true := by simp; omega
    rw [hb] at hM
    have HM := Lib.hid hM; clear hM hb
    obtain ⟨k1, bc⟩ := bx1 w #[.int .i64 a, .int .i64 b, .int .i64 n] 41
    have BC := Lib.hid bc; clear bc k1
    go_enter Try.func33, Try.ntmps33
    go_wp2_with (go_at_call 45; refine (HM.out _).mono ?_; rintro e w1 ⟨rfl, rfl⟩)
    go_ret
    exact ⟨rfl, BC.out⟩
  rw [if_neg h4]
  have d4_0 : decide (n < 4) = false := by simp; omega
  by_cases h5 : 8 < n
  · rw [if_pos h5]
    have d5_0 : decide (8 < n) = true := by simp; omega
    have hM := fun W => isMoment_any a W
    have hb : (decide (0 ≤ a) && decide (a ≤ 1099511627776)) = true := by simp; omega
    rw [hb] at hM
    have HM := Lib.hid hM; clear hM hb
    obtain ⟨k1, bc⟩ := bx1 w #[.int .i64 a, .int .i64 b, .int .i64 n] 41
    have BC := Lib.hid bc; clear bc k1
    go_enter Try.func33, Try.ntmps33
    go_wp2_with (go_at_call 45; refine (HM.out _).mono ?_; rintro e w1 ⟨rfl, rfl⟩)
    go_ret
    exact ⟨rfl, BC.out⟩
  rw [if_neg h5]
  have d5_0 : decide (8 < n) = false := by simp; omega
  have hM := fun W => isMoment_any a W
  have hb : (decide (0 ≤ a) && decide (a ≤ 1099511627776)) = true := by simp; omega
  rw [hb] at hM
  have HM := Lib.hid hM; clear hM hb
  obtain ⟨k1, bc⟩ := bx1 w #[.int .i64 a, .int .i64 b, .int .i64 n] 41
  have BC := Lib.hid bc; clear bc k1
  go_enter Try.func33, Try.ntmps33
  go_wp2_with (go_at_call 45; refine (HM.out _).mono ?_; rintro e w1 ⟨rfl, rfl⟩)
  go_ret
  exact ⟨rfl, BC.out⟩
set_option maxRecDepth 8000 in
set_option maxHeartbeats 1000000 in
theorem rcheckG_any (a b n : Int) (w : World) : Calls Try.prog 34 #[vG a b n] w fun e w' => e = .returned (.int .i64 (chkG (a, b, n))) ∧ Below w.heap.size w w' := by
  unfold chkG; dsimp only
  by_cases h0 : a < 0
  · rw [if_pos h0]
    have d0_0 : decide (a < 0) = true := by simp; omega
    obtain ⟨k1, bc⟩ := bx1 w #[.int .i64 a, .int .i64 b, .int .i64 n] 41
    have BC := Lib.hid bc; clear bc k1
    go_enter Try.func34, Try.ntmps34
    go_wp2
    go_ret
    exact ⟨rfl, BC.out⟩
  rw [if_neg h0]
  have d0_0 : decide (a < 0) = false := by simp; omega
  by_cases h1 : 1099511627776 < a
  · rw [if_pos h1]
    have d1_0 : decide (1099511627776 < a) = true := by simp; omega
    obtain ⟨k1, bc⟩ := bx1 w #[.int .i64 a, .int .i64 b, .int .i64 n] 41
    have BC := Lib.hid bc; clear bc k1
    go_enter Try.func34, Try.ntmps34
    go_wp2
    go_ret
    exact ⟨rfl, BC.out⟩
  rw [if_neg h1]
  have d1_0 : decide (1099511627776 < a) = false := by simp; omega
  by_cases h2 : b < 1
  · rw [if_pos h2]
    have d2_0 : decide (b < 1) = true := by simp; omega
    obtain ⟨k1, bc⟩ := bx1 w #[.int .i64 a, .int .i64 b, .int .i64 n] 41
    have BC := Lib.hid bc; clear bc k1
    go_enter Try.func34, Try.ntmps34
    go_wp2
    go_ret
    exact ⟨rfl, BC.out⟩
  rw [if_neg h2]
  have d2_0 : decide (b < 1) = false := by simp; omega
  by_cases h3 : 16777216 < b
  · rw [if_pos h3]
    have d3_0 : decide (16777216 < b) = true := by simp; omega
    obtain ⟨k1, bc⟩ := bx1 w #[.int .i64 a, .int .i64 b, .int .i64 n] 41
    have BC := Lib.hid bc; clear bc k1
    go_enter Try.func34, Try.ntmps34
    go_wp2
    go_ret
    exact ⟨rfl, BC.out⟩
  rw [if_neg h3]
  have d3_0 : decide (16777216 < b) = false := by simp; omega
  by_cases h4 : n < 4
  · rw [if_pos h4]
    have d4_0 : decide (n < 4) = true := by simp; omega
    obtain ⟨k1, bc⟩ := bx1 w #[.int .i64 a, .int .i64 b, .int .i64 n] 41
    have BC := Lib.hid bc; clear bc k1
    go_enter Try.func34, Try.ntmps34
    go_wp2
    go_ret
    exact ⟨rfl, BC.out⟩
  rw [if_neg h4]
  have d4_0 : decide (n < 4) = false := by simp; omega
  by_cases h5 : 8 < n
  · rw [if_pos h5]
    have d5_0 : decide (8 < n) = true := by simp; omega
    obtain ⟨k1, bc⟩ := bx1 w #[.int .i64 a, .int .i64 b, .int .i64 n] 41
    have BC := Lib.hid bc; clear bc k1
    go_enter Try.func34, Try.ntmps34
    go_wp2
    go_ret
    exact ⟨rfl, BC.out⟩
  rw [if_neg h5]
  have d5_0 : decide (8 < n) = false := by simp; omega
  obtain ⟨k1, bc⟩ := bx1 w #[.int .i64 a, .int .i64 b, .int .i64 n] 41
  have BC := Lib.hid bc; clear bc k1
  go_enter Try.func34, Try.ntmps34
  go_wp2
  go_ret
  exact ⟨rfl, BC.out⟩
end Go.Proofs.Ytjdhodobfkkoiaa
