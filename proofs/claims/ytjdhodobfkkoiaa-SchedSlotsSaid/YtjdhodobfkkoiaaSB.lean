/-
  Small functions of package sched and of the document: whether two spans may be, meet, lie in each other; a span later on; which grids may be. No condition.
-/
import Derived.Test.YtjdhodobfkkoiaaSA
namespace Go.Proofs.Ytjdhodobfkkoiaa
open Go.RowKit

theorem neg_in {x : Int} (h0 : 0 ≤ x) (h1 : x ≤ 1099511627776) : IntKind.i64.wrap (-x) = -x := IntWalk.i64_in _ (by omega)
/-- May a grid be? -/
abbrev Gr := Int × Int × Int
def okG (g : Gr) : Prop := (0 ≤ g.1 ∧ g.1 ≤ 1099511627776) ∧ (1 ≤ g.2.1 ∧ g.2.1 ≤ 16777216) ∧ 4 ≤ g.2.2 ∧ g.2.2 ≤ 8
instance (g : Gr) : Decidable (okG g) := by unfold okG; infer_instance
def chkG (g : Gr) : Int := if g.1 < 0 then 61 else if 1099511627776 < g.1 then 61 else if g.2.1 < 1 then 61 else if 16777216 < g.2.1 then 61 else if g.2.2 < 4 then 61 else if 8 < g.2.2 then 61 else 0
theorem chkG_if (g : Gr) : chkG g = if okG g then 0 else 61 := by
  unfold chkG okG
  repeat' split
  all_goals first | rfl | omega
abbrev vG (a b n : Int) : Value := .agg #[.int .i64 a, .int .i64 b, .int .i64 n]
/-- A span later on. -/
def shiftS (s : Sp) (by_ : Int) : Int × Sp := if okS s then (if by_ < -s.1 then (60, (0, 0)) else if 1099511627776 - s.2 < by_ then (60, (0, 0)) else (0, (s.1 + by_, s.2 + by_))) else (60, (0, 0))
set_option maxRecDepth 8000 in
set_option maxHeartbeats 1000000 in
theorem smayBe_any (x y u v : Int) (w : World) : Calls Try.prog 39 #[vS x y, vS u v] w fun e w' => e = .returned (.bool (decide (okS (x, y)) && decide (okS (u, v)))) ∧ Below w.heap.size w w' := by
  have h1 := fun W => scheck_any x y W
  have h2 := fun W => scheck_any u v W
  simp only [chkS_if] at h1 h2
  by_cases hx : okS (x, y)
  · simp only [hx, if_true] at h1 ⊢
    by_cases hu : okS (u, v)
    · simp only [hu, if_true] at h2 ⊢
      have H1 := Lib.hid h1; have H2 := Lib.hid h2; clear h1 h2 hx hu
      obtain ⟨k1, k2, bc⟩ := bx2 w #[.int .i64 x, .int .i64 y] #[.int .i64 u, .int .i64 v] 23 23
      go_enter Try.func39, Try.ntmps39
      go_wp2_with fail
      generalize (w.alloc (.cells #[.int .i64 x, .int .i64 y] 23)).alloc (.cells #[.int .i64 u, .int .i64 v] 23) = u1 at *
      refine (H1.out _).mono ?_
      rintro e w1 ⟨rfl, hC⟩
      dsimp only
      replace k1 := k1.on hC; replace k2 := k2.on hC; replace bc := bc.trans (hC.mono bc.size); clear hC
      clear k1
      obtain ⟨pk2_0, pk2_1, pk2_0f, pk2_1f⟩ := k2.two
      go_wp2_with fail
      clear pk2_0 pk2_1 pk2_0f pk2_1f
      refine (H2.out _).mono ?_
      rintro e w2 ⟨rfl, hC⟩
      dsimp only
      replace k2 := k2.on hC; replace bc := bc.trans (hC.mono bc.size); clear hC
      clear k2
      go_wp2
      go_ret
      exact ⟨rfl, bc⟩
    · simp only [hu, if_false] at h2 ⊢
      have H1 := Lib.hid h1; have H2 := Lib.hid h2; clear h1 h2 hx hu
      obtain ⟨k1, k2, bc⟩ := bx2 w #[.int .i64 x, .int .i64 y] #[.int .i64 u, .int .i64 v] 23 23
      go_enter Try.func39, Try.ntmps39
      go_wp2_with fail
      generalize (w.alloc (.cells #[.int .i64 x, .int .i64 y] 23)).alloc (.cells #[.int .i64 u, .int .i64 v] 23) = u1 at *
      refine (H1.out _).mono ?_
      rintro e w1 ⟨rfl, hC⟩
      dsimp only
      replace k1 := k1.on hC; replace k2 := k2.on hC; replace bc := bc.trans (hC.mono bc.size); clear hC
      clear k1
      obtain ⟨pk2_0, pk2_1, pk2_0f, pk2_1f⟩ := k2.two
      go_wp2_with fail
      clear pk2_0 pk2_1 pk2_0f pk2_1f
      refine (H2.out _).mono ?_
      rintro e w2 ⟨rfl, hC⟩
      dsimp only
      replace k2 := k2.on hC; replace bc := bc.trans (hC.mono bc.size); clear hC
      clear k2
      go_wp2
      go_ret
      exact ⟨rfl, bc⟩
  · simp only [hx, if_false] at h1 ⊢
    have H1 := Lib.hid h1; have H2 := Lib.hid h2; clear h1 h2 hx
    obtain ⟨k1, k2, bc⟩ := bx2 w #[.int .i64 x, .int .i64 y] #[.int .i64 u, .int .i64 v] 23 23
    go_enter Try.func39, Try.ntmps39
    go_wp2_with fail
    generalize (w.alloc (.cells #[.int .i64 x, .int .i64 y] 23)).alloc (.cells #[.int .i64 u, .int .i64 v] 23) = u1 at *
    refine (H1.out _).mono ?_
    rintro e w1 ⟨rfl, hC⟩
    dsimp only
    replace k1 := k1.on hC; replace k2 := k2.on hC; replace bc := bc.trans (hC.mono bc.size); clear hC
    clear k1
    go_wp2
    go_ret
    exact ⟨rfl, bc⟩
set_option maxRecDepth 8000 in
set_option maxHeartbeats 1000000 in
theorem meets_any (x y u v : Int) (w : World) : Calls Try.prog 14 #[vS x y, vS u v] w fun e w' => e = .returned (.bool (meetsS (x, y) (u, v))) ∧ Below w.heap.size w w' := by
  have h1 := fun W => common_any x y u v W
  have h2 := fun W => smayBe_any x y u v W
  unfold meetsS bothS; dsimp only
  rw [← Bool.and_assoc]
  generalize max x u = p at *; generalize min y v = q at *
  generalize (decide (okS (x, y)) && decide (okS (u, v))) = b at *
  have H1 := Lib.hid h1; have H2 := Lib.hid h2; clear h1 h2
  obtain ⟨k1, k2, bc⟩ := bx2 w #[.int .i64 x, .int .i64 y] #[.int .i64 u, .int .i64 v] 23 23
  go_enter Try.func14, Try.ntmps14
  go_wp2_with fail
  generalize (w.alloc (.cells #[.int .i64 x, .int .i64 y] 23)).alloc (.cells #[.int .i64 u, .int .i64 v] 23) = u1 at *
  refine (H1.out _).mono ?_
  rintro e w1 ⟨rfl, hC⟩
  dsimp only
  replace k1 := k1.on hC; replace k2 := k2.on hC; replace bc := bc.trans (hC.mono bc.size); clear hC
  have z_k3_k1 := k1.lt
  have z_k3_k2 := k2.lt
  have zb_k3 := bc.size
  have k3 := Blk.new w1 23 #[.int .i64 p, .int .i64 q]
  have al := Below.al w1 (.cells #[.int .i64 p, .int .i64 q] 23)
  replace k1 := k1.on al; replace k2 := k2.on al; replace bc := bc.trans (al.mono bc.size); clear al
  obtain ⟨pk1_0, pk1_1, pk1_0f, pk1_1f⟩ := k1.two
  obtain ⟨pk2_0, pk2_1, pk2_0f, pk2_1f⟩ := k2.two
  go_wp2_with fail
  clear pk1_0 pk1_1 pk1_0f pk1_1f pk2_0 pk2_1 pk2_0f pk2_1f
  generalize w1.alloc (.cells #[.int .i64 p, .int .i64 q] 23) = u2 at *
  generalize w1.heap.size = g2 at *
  refine (H2.out _).mono ?_
  rintro e w2 ⟨rfl, hC⟩
  dsimp only
  replace k1 := k1.on hC; replace k2 := k2.on hC; replace k3 := k3.on hC; replace bc := bc.trans (hC.mono bc.size); clear hC
  cases b
  · go_wp2
    go_ret
    exact ⟨rfl, bc⟩
  · obtain ⟨a0, a1, -, -⟩ := k3.two
    go_wp2
    go_ret
    exact ⟨rfl, bc⟩
set_option maxRecDepth 8000 in
set_option maxHeartbeats 1000000 in
theorem within_any (x y u v : Int) (w : World) : Calls Try.prog 16 #[vS x y, vS u v] w fun e w' => e = .returned (.bool (withinS (x, y) (u, v))) ∧ Below w.heap.size w w' := by
  have h1 := fun W => smayBe_any x y u v W
  have h2 := fun W => common_any x y u v W
  have hR : withinS (x, y) (u, v) = ((decide (okS (x, y)) && decide (okS (u, v))) && (decide (max x u = x) && decide (min y v = y))) := by
    unfold withinS; dsimp only
    rw [Bool.and_assoc, show decide (u ≤ x) = decide (max x u = x) from by rw [decide_eq_decide]; omega, show decide (y ≤ v) = decide (min y v = y) from by rw [decide_eq_decide]; omega]
  rw [hR]; clear hR
  generalize max x u = p at *; generalize min y v = q at *
  generalize (decide (okS (x, y)) && decide (okS (u, v))) = b at *
  have H1 := Lib.hid h1; have H2 := Lib.hid h2; clear h1 h2
  by_cases hpq : p = x ∧ q = y
  · obtain ⟨rfl, rfl⟩ := hpq
    simp only [decide_true, Bool.and_self, Bool.and_true]
    cases b
    ·
      obtain ⟨k1, k2, bc⟩ := bx2 w #[.int .i64 p, .int .i64 q] #[.int .i64 u, .int .i64 v] 23 23
      go_enter Try.func16, Try.ntmps16
      go_wp2_with fail
      generalize (w.alloc (.cells #[.int .i64 p, .int .i64 q] 23)).alloc (.cells #[.int .i64 u, .int .i64 v] 23) = u1 at *
      obtain ⟨p1, p2⟩ := near_two k1
      obtain ⟨p3, p4⟩ := near_two k2
      have BC := Lib.hid bc; clear k1 k2 bc
      refine wp_region_near (by kernel_rfl) (by kernel_rfl) ?_
      repeat (go_big_quiet_step (first
        | (go_at_call 39; exact near_call (H1.out _))
        | (go_at_call 38; exact near_call (H2.out _))))
      refine wpQuiet_nil ?_
      rintro _ ⟨nw, rfl⟩
      go_wp2
      go_ret
      exact ⟨rfl, below_then BC.out nw.h⟩
    ·
      obtain ⟨k1, k2, bc⟩ := bx2 w #[.int .i64 p, .int .i64 q] #[.int .i64 u, .int .i64 v] 23 23
      go_enter Try.func16, Try.ntmps16
      go_wp2_with fail
      generalize (w.alloc (.cells #[.int .i64 p, .int .i64 q] 23)).alloc (.cells #[.int .i64 u, .int .i64 v] 23) = u1 at *
      obtain ⟨p1, p2⟩ := near_two k1
      obtain ⟨p3, p4⟩ := near_two k2
      have BC := Lib.hid bc; clear k1 k2 bc
      refine wp_region_near (by kernel_rfl) (by kernel_rfl) ?_
      repeat (go_big_quiet_step (first
        | (go_at_call 39; exact near_call (H1.out _))
        | (go_at_call 38; exact near_call (H2.out _))))
      refine wpQuiet_nil ?_
      rintro _ ⟨nw, rfl⟩
      go_wp2
      go_ret
      exact ⟨rfl, below_then BC.out nw.h⟩
  · have hne := agg2_ne hpq
    have hdd : (decide (p = x) && decide (q = y)) = false := by
      rw [← Bool.not_eq_true]; simpa using hpq
    rw [hdd, Bool.and_false]
    have HP := Lib.hid hpq; clear hpq hdd
    cases b
    ·
      obtain ⟨k1, k2, bc⟩ := bx2 w #[.int .i64 x, .int .i64 y] #[.int .i64 u, .int .i64 v] 23 23
      go_enter Try.func16, Try.ntmps16
      go_wp2_with fail
      generalize (w.alloc (.cells #[.int .i64 x, .int .i64 y] 23)).alloc (.cells #[.int .i64 u, .int .i64 v] 23) = u1 at *
      obtain ⟨p1, p2⟩ := near_two k1
      obtain ⟨p3, p4⟩ := near_two k2
      have BC := Lib.hid bc; clear k1 k2 bc
      refine wp_region_near (by kernel_rfl) (by kernel_rfl) ?_
      repeat (go_big_quiet_step (first
        | (go_at_call 39; exact near_call (H1.out _))
        | (go_at_call 38; exact near_call (H2.out _))))
      refine wpQuiet_nil ?_
      rintro _ ⟨nw, rfl⟩
      go_wp2
      go_ret
      exact ⟨rfl, below_then BC.out nw.h⟩
    ·
      obtain ⟨k1, k2, bc⟩ := bx2 w #[.int .i64 x, .int .i64 y] #[.int .i64 u, .int .i64 v] 23 23
      go_enter Try.func16, Try.ntmps16
      go_wp2_with fail
      generalize (w.alloc (.cells #[.int .i64 x, .int .i64 y] 23)).alloc (.cells #[.int .i64 u, .int .i64 v] 23) = u1 at *
      obtain ⟨p1, p2⟩ := near_two k1
      obtain ⟨p3, p4⟩ := near_two k2
      have BC := Lib.hid bc; clear k1 k2 bc
      refine wp_region_near (by kernel_rfl) (by kernel_rfl) ?_
      repeat (go_big_quiet_step (first
        | (go_at_call 39; exact near_call (H1.out _))
        | (go_at_call 38; exact near_call (H2.out _))))
      refine wpQuiet_nil ?_
      rintro _ ⟨nw, rfl⟩
      go_wp2
      go_ret
      exact ⟨rfl, below_then BC.out nw.h⟩
end Go.Proofs.Ytjdhodobfkkoiaa
