/-
  The statements of spans, and of what is together, of package sched. No condition.
-/
import Derived.Test.YtjdhodobfkkoiaaSV
namespace Go.Proofs.Ytjdhodobfkkoiaa
open Go.RowKit

theorem within_self (a : Sp) : withinS a a = decide (okS a) := by
  unfold withinS
  cases h : decide (okS a) <;> simp
theorem within_meets {a b c : Sp} (h : withinS a b = true) (h2 : meetsS a c = true) : meetsS b c = true := by
  unfold withinS at h
  unfold meetsS bothS at h2 ⊢
  simp only [Bool.and_eq_true, decide_eq_true_eq] at h h2 ⊢
  obtain ⟨h0, h1, h3, h4⟩ := h
  obtain ⟨_, h5, h6⟩ := h2
  exact ⟨h1, h5, by omega⟩
set_option maxRecDepth 100000 in
set_option maxHeartbeats 4000000 in
theorem spans_law (x y u v by_ : Int) (w : World) : Calls Try.prog 3 #[vS x y, vS u v, .int .i64 by_] w fun e w' => e = .returned (.bool true) ∧ Below w.heap.size w w' := by
  have h1 := fun W => shift_any x y by_ W
  have h2 := fun W => rshift_any x y by_ W
  have h3 := fun W => scheck_any x y W
  have h4 := fun W => rscheck_any x y W
  have h5 := fun W => meets_any x y u v W
  have h6 := fun W => rmeets_any x y u v W
  have h7 := fun W => within_any x y u v W
  have h8 := fun W => rwithin_any x y u v W
  generalize shiftS (x, y) by_ = r at *
  generalize chkS (x, y) = ck at *
  generalize meetsS (x, y) (u, v) = me at *
  generalize withinS (x, y) (u, v) = wi at *
  obtain ⟨er, f0, f1⟩ := r
  dsimp only at h1 h2
  have H1 := Lib.hid h1; have H2 := Lib.hid h2; have H3 := Lib.hid h3; have H4 := Lib.hid h4; have H5 := Lib.hid h5; have H6 := Lib.hid h6; have H7 := Lib.hid h7; have H8 := Lib.hid h8; clear h1 h2 h3 h4 h5 h6 h7 h8
  obtain ⟨k1, k2, bc⟩ := bx2 w #[.int .i64 x, .int .i64 y] #[.int .i64 u, .int .i64 v] 23 23
  go_enter Try.func3, Try.ntmps3
  go_wp2_with fail
  generalize (w.alloc (.cells #[.int .i64 x, .int .i64 y] 23)).alloc (.cells #[.int .i64 u, .int .i64 v] 23) = u1 at *
  refine (H1.out _).mono ?_
  rintro e w1 ⟨rfl, hC⟩
  dsimp only
  replace k1 := k1.on hC; replace k2 := k2.on hC; replace bc := bc.trans (hC.mono bc.size); clear hC
  have z_k3_k1 := k1.lt
  have z_k3_k2 := k2.lt
  have zb_k3 := bc.size
  have k3 := Blk.new w1 23 #[.int .i64 f0, .int .i64 f1]
  have al := Below.al w1 (.cells #[.int .i64 f0, .int .i64 f1] 23)
  replace k1 := k1.on al; replace k2 := k2.on al; replace bc := bc.trans (al.mono bc.size); clear al
  obtain ⟨pk1_0, pk1_1, pk1_0f, pk1_1f⟩ := k1.two
  go_wp2_with fail
  clear pk1_0 pk1_1 pk1_0f pk1_1f
  generalize w1.alloc (.cells #[.int .i64 f0, .int .i64 f1] 23) = u2 at *
  generalize w1.heap.size = g2 at *
  refine (H2.out _).mono ?_
  rintro e w2 ⟨rfl, hC⟩
  dsimp only
  replace k1 := k1.on hC; replace k2 := k2.on hC; replace k3 := k3.on hC; replace bc := bc.trans (hC.mono bc.size); clear hC
  have z_k4_k1 := k1.lt
  have z_k4_k2 := k2.lt
  have z_k4_k3 := k3.lt
  have zb_k4 := bc.size
  have k4 := Blk.new w2 23 #[.int .i64 f0, .int .i64 f1]
  have al := Below.al w2 (.cells #[.int .i64 f0, .int .i64 f1] 23)
  replace k1 := k1.on al; replace k2 := k2.on al; replace k3 := k3.on al; replace bc := bc.trans (al.mono bc.size); clear al
  go_wp2_with fail
  generalize w2.alloc (.cells #[.int .i64 f0, .int .i64 f1] 23) = u3 at *
  generalize w2.heap.size = g3 at *
  obtain ⟨p1, p2⟩ := near_two k1
  obtain ⟨p3, p4⟩ := near_two k2
  obtain ⟨p5, p6⟩ := near_two k3
  obtain ⟨p7, p8⟩ := near_two k4
  have BC := Lib.hid bc; clear k1 k2 k3 k4 bc
  refine wp_region_near (by kernel_rfl) (by kernel_rfl) ?_
  repeat (go_big_quiet_step (first
    | (go_at_call 11; exact near_call (sbegun_any _))
    | (go_at_call 12; exact near_call (H3.out _))
    | (go_at_call 13; exact near_call (H4.out _))
    | (go_at_call 14; exact near_call (H5.out _))
    | (go_at_call 15; exact near_call (H6.out _))
    | (go_at_call 16; exact near_call (H7.out _))
    | (go_at_call 17; exact near_call (H8.out _))))
  refine wpQuiet_nil ?_
  rintro _ ⟨nw, rfl⟩
  go_wp2
  go_ret
  exact ⟨rfl, below_then BC.out nw.h⟩
set_option maxRecDepth 100000 in
set_option maxHeartbeats 4000000 in
theorem together_law (x y u v p q : Int) (w : World) : Calls Try.prog 8 #[vS x y, vS u v, vS p q] w fun e w' => e = .returned (.bool true) ∧ Below w.heap.size w w' := by
  have h1 := fun W => meets_any x y u v W
  have h2 := fun W => meets_any u v x y W
  have h3 := fun W => within_any x y u v W
  have h4 := fun W => meets_any x y p q W
  have h5 := fun W => meets_any u v p q W
  have h6 := fun W => scheck_any x y W
  have h7 := fun W => within_any x y x y W
  rw [meetsS_comm (u, v) (x, y)] at h2
  have hwm := within_meets (a := (x, y)) (b := (u, v)) (c := (p, q))
  rw [within_self] at h7
  simp only [chkS_if] at h6
  generalize meetsS (x, y) (u, v) = m1 at *
  generalize withinS (x, y) (u, v) = wi at *
  generalize meetsS (x, y) (p, q) = m2 at *
  generalize meetsS (u, v) (p, q) = m3 at *
  have hok : (if okS (x, y) then (0 : Int) else 60) = (if decide (okS (x, y)) = true then 0 else 60) := by simp
  rw [hok] at h6
  generalize decide (okS (x, y)) = ok at *
  have H1 := Lib.hid h1; have H2 := Lib.hid h2; have H3 := Lib.hid h3; have H4 := Lib.hid h4; have H5 := Lib.hid h5; have H6 := Lib.hid h6; have H7 := Lib.hid h7; clear h1 h2 h3 h4 h5 h6 h7 hok
  obtain ⟨k1, k2, k3, bc⟩ := bx3 w #[.int .i64 x, .int .i64 y] #[.int .i64 u, .int .i64 v] #[.int .i64 p, .int .i64 q] 23 23 23
  go_enter Try.func8, Try.ntmps8
  go_wp2_with fail
  generalize ((w.alloc (.cells #[.int .i64 x, .int .i64 y] 23)).alloc (.cells #[.int .i64 u, .int .i64 v] 23)).alloc (.cells #[.int .i64 p, .int .i64 q] 23) = u1 at *
  obtain ⟨p1, p2⟩ := near_two k1
  obtain ⟨p3, p4⟩ := near_two k2
  obtain ⟨p5, p6⟩ := near_two k3
  have BC := Lib.hid bc; clear k1 k2 k3 bc
  cases wi with
  | false =>
    clear hwm
    cases ok with
    | false =>
      have h6 := H6.out
      simp only [Bool.false_eq_true, if_false] at h6
      replace H6 := Lib.hid h6; clear h6
      refine wp_region_near (by kernel_rfl) (by kernel_rfl) ?_
      repeat (go_big_quiet_step (first
        | (go_at_call 11; exact near_call (sbegun_any _))
        | (go_at_call 14; with_reducible exact near_call (H1.out _))
        | (go_at_call 14; with_reducible exact near_call (H2.out _))
        | (go_at_call 14; with_reducible exact near_call (H4.out _))
        | (go_at_call 14; with_reducible exact near_call (H5.out _))
        | (go_at_call 16; with_reducible exact near_call (H3.out _))
        | (go_at_call 16; with_reducible exact near_call (H7.out _))
        | (go_at_call 12; with_reducible exact near_call (H6.out _))))
      refine wpQuiet_nil ?_
      rintro _ ⟨nw, rfl⟩
      go_wp2
      go_ret
      exact ⟨rfl, below_then BC.out nw.h⟩
    | true =>
      have h6 := H6.out
      simp only [if_true] at h6
      replace H6 := Lib.hid h6; clear h6
      refine wp_region_near (by kernel_rfl) (by kernel_rfl) ?_
      repeat (go_big_quiet_step (first
        | (go_at_call 11; exact near_call (sbegun_any _))
        | (go_at_call 14; with_reducible exact near_call (H1.out _))
        | (go_at_call 14; with_reducible exact near_call (H2.out _))
        | (go_at_call 14; with_reducible exact near_call (H4.out _))
        | (go_at_call 14; with_reducible exact near_call (H5.out _))
        | (go_at_call 16; with_reducible exact near_call (H3.out _))
        | (go_at_call 16; with_reducible exact near_call (H7.out _))
        | (go_at_call 12; with_reducible exact near_call (H6.out _))))
      refine wpQuiet_nil ?_
      rintro _ ⟨nw, rfl⟩
      go_wp2
      go_ret
      exact ⟨rfl, below_then BC.out nw.h⟩
  | true =>
    have hm := hwm rfl
    clear hwm
    cases m2 with
    | false =>
      clear hm
      cases ok with
      | false =>
        have h6 := H6.out
        simp only [Bool.false_eq_true, if_false] at h6
        replace H6 := Lib.hid h6; clear h6
        refine wp_region_near (by kernel_rfl) (by kernel_rfl) ?_
        repeat (go_big_quiet_step (first
          | (go_at_call 11; exact near_call (sbegun_any _))
          | (go_at_call 14; with_reducible exact near_call (H1.out _))
          | (go_at_call 14; with_reducible exact near_call (H2.out _))
          | (go_at_call 14; with_reducible exact near_call (H4.out _))
          | (go_at_call 14; with_reducible exact near_call (H5.out _))
          | (go_at_call 16; with_reducible exact near_call (H3.out _))
          | (go_at_call 16; with_reducible exact near_call (H7.out _))
          | (go_at_call 12; with_reducible exact near_call (H6.out _))))
        refine wpQuiet_nil ?_
        rintro _ ⟨nw, rfl⟩
        go_wp2
        go_ret
        exact ⟨rfl, below_then BC.out nw.h⟩
      | true =>
        have h6 := H6.out
        simp only [if_true] at h6
        replace H6 := Lib.hid h6; clear h6
        refine wp_region_near (by kernel_rfl) (by kernel_rfl) ?_
        repeat (go_big_quiet_step (first
          | (go_at_call 11; exact near_call (sbegun_any _))
          | (go_at_call 14; with_reducible exact near_call (H1.out _))
          | (go_at_call 14; with_reducible exact near_call (H2.out _))
          | (go_at_call 14; with_reducible exact near_call (H4.out _))
          | (go_at_call 14; with_reducible exact near_call (H5.out _))
          | (go_at_call 16; with_reducible exact near_call (H3.out _))
          | (go_at_call 16; with_reducible exact near_call (H7.out _))
          | (go_at_call 12; with_reducible exact near_call (H6.out _))))
        refine wpQuiet_nil ?_
        rintro _ ⟨nw, rfl⟩
        go_wp2
        go_ret
        exact ⟨rfl, below_then BC.out nw.h⟩
    | true =>
      have hm3 := hm rfl
      subst hm3
      clear hm
      cases ok with
      | false =>
        have h6 := H6.out
        simp only [Bool.false_eq_true, if_false] at h6
        replace H6 := Lib.hid h6; clear h6
        refine wp_region_near (by kernel_rfl) (by kernel_rfl) ?_
        repeat (go_big_quiet_step (first
          | (go_at_call 11; exact near_call (sbegun_any _))
          | (go_at_call 14; with_reducible exact near_call (H1.out _))
          | (go_at_call 14; with_reducible exact near_call (H2.out _))
          | (go_at_call 14; with_reducible exact near_call (H4.out _))
          | (go_at_call 14; with_reducible exact near_call (H5.out _))
          | (go_at_call 16; with_reducible exact near_call (H3.out _))
          | (go_at_call 16; with_reducible exact near_call (H7.out _))
          | (go_at_call 12; with_reducible exact near_call (H6.out _))))
        refine wpQuiet_nil ?_
        rintro _ ⟨nw, rfl⟩
        go_wp2
        go_ret
        exact ⟨rfl, below_then BC.out nw.h⟩
      | true =>
        have h6 := H6.out
        simp only [if_true] at h6
        replace H6 := Lib.hid h6; clear h6
        refine wp_region_near (by kernel_rfl) (by kernel_rfl) ?_
        repeat (go_big_quiet_step (first
          | (go_at_call 11; exact near_call (sbegun_any _))
          | (go_at_call 14; with_reducible exact near_call (H1.out _))
          | (go_at_call 14; with_reducible exact near_call (H2.out _))
          | (go_at_call 14; with_reducible exact near_call (H4.out _))
          | (go_at_call 14; with_reducible exact near_call (H5.out _))
          | (go_at_call 16; with_reducible exact near_call (H3.out _))
          | (go_at_call 16; with_reducible exact near_call (H7.out _))
          | (go_at_call 12; with_reducible exact near_call (H6.out _))))
        refine wpQuiet_nil ?_
        rintro _ ⟨nw, rfl⟩
        go_wp2
        go_ret
        exact ⟨rfl, below_then BC.out nw.h⟩
end Go.Proofs.Ytjdhodobfkkoiaa
