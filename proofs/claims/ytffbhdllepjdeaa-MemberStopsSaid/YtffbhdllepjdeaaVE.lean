/-
  Contracts of checkOther, In, New of package member, and of the document's asked, other, In, New. No condition.
-/
import Derived.Test.YtffbhdllepjdeaaVD
namespace Go.Proofs.Ytffbhdllepjdeaa
open Go.RowKit

theorem ask_no {m : MV} {s : Int} (h : ¬ okV m) : askV m s = 90 := if_neg h
theorem ask_oth {m : MV} {s : Int} (h : okV m) (h2 : ¬ othV m s) : askV m s = 2 := by unfold askV; rw [if_pos h, if_neg h2]
theorem ask_ok {m : MV} {s : Int} (h : okV m) (h2 : othV m s) : askV m s = 0 := by unfold askV; rw [if_pos h, if_pos h2]
theorem ok_node {m : MV} (h : okV m) : 4 ≤ m.N ∧ m.N ≤ 8 ∧ 0 ≤ m.I ∧ m.I < m.N ∧ 0 ≤ m.R ∧ m.R < m.N := ⟨h.1.1, h.1.2, h.2.1.1, h.2.1.2, h.2.2.1.1, h.2.2.1.2⟩

set_option maxRecDepth 8000 in
set_option maxHeartbeats 4000000 in
theorem checkOther_any (m : MV) (s : Int) (w : World) : Calls Try.prog 36 #[.agg m.cells, .int .i64 s] w fun e w' => e = .returned (.int .i64 (askV m s)) ∧ Below w.heap.size w w' := by
  have hck := fun W => vcheck_any m W
  obtain ⟨k1, bc⟩ := bx1 w m.cells 23
  by_cases hok : okV m
  · rw [chkV_ok hok] at hck
    have hno := fun W => visNode_any s m.N W
    have hak := fun (h2 : othV m s) => ask_ok hok h2
    have han := fun (h2 : ¬ othV m s) => ask_oth hok h2
    unfold othV at hak han
    generalize askV m s = r at *
    clear hok
    obtain ⟨I, N, S, A, F, G, R⟩ := m
    unfold MV.cells at *
    dsimp only at *
    have HCK := Lib.hid hck; clear hck
    by_cases h0 : 0 ≤ s ∧ s < N
    · rw [decide_eq_true h0] at hno
      have HNO := Lib.hid hno; clear hno
      by_cases h1 : s = I
      · obtain rfl : r = 2 := han (fun h => h.2 h1)
        subst h1
        clear hak han h0
        go_enter Try.func36, Try.ntmps36
        go_wp2_with fail
        refine (HCK.out _).mono ?_
        rintro e w1 ⟨rfl, hB1⟩
        dsimp only
        replace k1 := k1.on hB1; replace bc := below_then bc hB1; clear hB1
        obtain ⟨⟨c0, c1, c2, c3, c4, c5, c6⟩, -⟩ := k1.seven
        go_wp2_with (go_at_call 39; with_reducible refine (HNO.out _).mono ?_; rintro e w2 ⟨rfl, rfl⟩)
        go_ret
        exact ⟨rfl, bc⟩
      · obtain rfl : r = 0 := hak ⟨h0, h1⟩
        have d1 : (s == I) = false := by simpa using h1
        clear hak han h0 h1
        go_enter Try.func36, Try.ntmps36
        go_wp2_with fail
        refine (HCK.out _).mono ?_
        rintro e w1 ⟨rfl, hB1⟩
        dsimp only
        replace k1 := k1.on hB1; replace bc := below_then bc hB1; clear hB1
        obtain ⟨⟨c0, c1, c2, c3, c4, c5, c6⟩, -⟩ := k1.seven
        go_wp2_with (go_at_call 39; with_reducible refine (HNO.out _).mono ?_; rintro e w2 ⟨rfl, rfl⟩)
        go_ret
        exact ⟨rfl, bc⟩
    · obtain rfl : r = 2 := han (fun h => h0 h.1)
      rw [decide_eq_false h0] at hno
      have HNO := Lib.hid hno; clear hno
      clear hak han h0
      go_enter Try.func36, Try.ntmps36
      go_wp2_with fail
      refine (HCK.out _).mono ?_
      rintro e w1 ⟨rfl, hB1⟩
      dsimp only
      replace k1 := k1.on hB1; replace bc := below_then bc hB1; clear hB1
      obtain ⟨⟨c0, c1, c2, c3, c4, c5, c6⟩, -⟩ := k1.seven
      go_wp2_with (go_at_call 39; with_reducible refine (HNO.out _).mono ?_; rintro e w2 ⟨rfl, rfl⟩)
      go_ret
      exact ⟨rfl, bc⟩
  · rw [chkV_no hok] at hck
    rw [ask_no hok]
    clear hok
    obtain ⟨I, N, S, A, F, G, R⟩ := m
    unfold MV.cells at *
    dsimp only at *
    have HCK := Lib.hid hck; clear hck
    go_enter Try.func36, Try.ntmps36
    go_wp2_with fail
    refine (HCK.out _).mono ?_
    rintro e w1 ⟨rfl, hB1⟩
    dsimp only
    replace bc := below_then bc hB1; clear hB1 k1
    go_wp2
    go_ret
    exact ⟨rfl, bc⟩

set_option maxRecDepth 8000 in
set_option maxHeartbeats 2000000 in
theorem rother_any (m : MV) (s : Int) (w : World) : Calls Try.prog 33 #[.agg m.cells, .int .i64 s] w fun e w' => e = .returned (.bool (decide (othV m s))) ∧ Below w.heap.size w w' := by
  unfold othV
  obtain ⟨I, N, S, A, F, G, R⟩ := m
  unfold MV.cells
  dsimp only
  obtain ⟨k1, bc⟩ := bx1 w (cM I N S A F G R) 23
  have BC := Lib.hid bc; clear bc k1
  obtain ⟨r, hr⟩ : ∃ r, r = decide ((0 ≤ s ∧ s < N) ∧ s ≠ I) := ⟨_, rfl⟩
  rw [← hr]
  by_cases h0 : 0 ≤ s
  · have d0 : decide (0 ≤ s) = true := by simpa using h0
    by_cases h1 : s < N
    · have d1 : decide (s < N) = true := by simpa using h1
      by_cases h2 : s = I
      · obtain rfl : r = false := by rw [hr]; simp; omega
        subst h2
        clear hr
        go_enter Try.func33, Try.ntmps33
        go_wp2
        go_ret
        exact ⟨rfl, BC.out⟩
      · obtain rfl : r = true := by rw [hr]; simp; omega
        have d2 : (s == I) = false := by simpa using h2
        have d3 : (s != I) = true := by simpa using h2
        clear hr
        go_enter Try.func33, Try.ntmps33
        go_wp2
        go_ret
        exact ⟨rfl, BC.out⟩
    · obtain rfl : r = false := by rw [hr]; simp; omega
      have d1 : decide (s < N) = false := by simpa using h1
      clear hr
      go_enter Try.func33, Try.ntmps33
      go_wp2
      go_ret
      exact ⟨rfl, BC.out⟩
  · obtain rfl : r = false := by rw [hr]; simp; omega
    have d0 : decide (0 ≤ s) = false := by simpa using h0
    clear hr
    go_enter Try.func33, Try.ntmps33
    go_wp2
    go_ret
    exact ⟨rfl, BC.out⟩

set_option maxRecDepth 8000 in
set_option maxHeartbeats 2000000 in
theorem vin_any (m : MV) (w : World) : Calls Try.prog 19 #[.agg m.cells] w fun e w' => e = .returned (.bool (inV m)) ∧ Below w.heap.size w w' := by
  have hck := fun W => vcheck_any m W
  obtain ⟨k1, bc⟩ := bx1 w m.cells 23
  unfold inV
  by_cases hok : okV m
  · rw [chkV_ok hok] at hck
    have hh := fun W => vhas_any m.S m.I W hok.2.1.1 (by have := ok_node hok; omega)
    rw [decide_eq_true hok, Bool.true_and]
    clear hok
    obtain ⟨I, N, S, A, F, G, R⟩ := m
    unfold MV.cells at *
    dsimp only at *
    generalize hasI S I = r at *
    have HCK := Lib.hid hck; have HH := Lib.hid hh; clear hck hh
    go_enter Try.func19, Try.ntmps19
    go_wp2_with fail
    refine (HCK.out _).mono ?_
    rintro e w1 ⟨rfl, hB1⟩
    dsimp only
    replace k1 := k1.on hB1; replace bc := below_then bc hB1; clear hB1
    obtain ⟨⟨c0, c1, c2, c3, c4, c5, c6⟩, -⟩ := k1.seven
    go_wp2_with (go_at_call 41; with_reducible refine (HH.out _).mono ?_; rintro e w2 ⟨rfl, rfl⟩)
    go_ret
    exact ⟨rfl, bc⟩
  · rw [chkV_no hok] at hck
    rw [decide_eq_false hok, Bool.false_and]
    clear hok
    obtain ⟨I, N, S, A, F, G, R⟩ := m
    unfold MV.cells at *
    dsimp only at *
    have HCK := Lib.hid hck; clear hck
    go_enter Try.func19, Try.ntmps19
    go_wp2_with fail
    refine (HCK.out _).mono ?_
    rintro e w1 ⟨rfl, hB1⟩
    dsimp only
    replace bc := below_then bc hB1; clear hB1 k1
    go_wp2
    go_ret
    exact ⟨rfl, bc⟩
end Go.Proofs.Ytffbhdllepjdeaa
