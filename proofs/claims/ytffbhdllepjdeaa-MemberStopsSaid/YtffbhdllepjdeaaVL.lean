/-
  The document's Views of layer 9: the sets with which a sender's frame is tried, as a list. No condition.
-/
import Derived.Test.YtffbhdllepjdeaaVK
import Derived.Test.YtffbhdllepjdeaaH3
namespace Go.Proofs.Ytffbhdllepjdeaa
open Go.RowKit

/-- A list of numbers in memory that the call made. -/
def ListZ (w : World) (l : List Int) (e : Ending) (w' : World) : Prop := ∃ (A : Option Addr) (c : Nat), e = .returned (.slice A l.length c) ∧ l.length ≤ c ∧ (A = none → l.length = 0 ∧ c = 0) ∧ Ints w'.heap.size w' A l ∧ Below w.heap.size w w'
theorem ints_none (n : Nat) (w : World) : Ints n w none [] := fun h => absurd rfl h
theorem ints_one {w : World} {g : Nat} {t : TypeId} {a : Int} (h : Blk w g t #[.int .i64 a]) : Ints w.heap.size w (some ⟨g, 0, none⟩) [a] := fun _ => by
  refine ⟨g, 0, rfl, h.lt, fun j hj => ?_⟩
  obtain rfl : j = 0 := by simp at hj; omega
  exact h.one.1
theorem ints_two {w : World} {g : Nat} {t : TypeId} {a b : Int} (h : Blk w g t #[.int .i64 a, .int .i64 b]) : Ints w.heap.size w (some ⟨g, 0, none⟩) [a, b] := fun _ => by
  refine ⟨g, 0, rfl, h.lt, fun j hj => ?_⟩
  obtain rfl | rfl : j = 0 ∨ j = 1 := by simp at hj; omega
  · exact h.two.1
  · exact h.two.2.1

set_option maxRecDepth 8000 in
set_option maxHeartbeats 4000000 in
theorem rviews_any (m : MV) (s : Int) (w : World) : Calls Try.prog 13 #[.agg m.cells, .int .i64 s] w (ListZ w (viewsV m s)) := by
  have hck := fun W => rvcheck_any m W
  have hot := fun W => rother_any m s W
  by_cases hask : askV m s = 0
  · rw [show viewsV m s = setsV m s from if_pos hask]
    obtain ⟨hok, hoth⟩ := ask_zero hask
    rw [chkV_ok hok] at hck
    rw [decide_eq_true hoth] at hot
    have hbs := fun W => rvbit_any s W hoth.1.1 (by have := ok_node hok; have := hoth.1.2; omega)
    have hbi := fun W => rvbit_any m.I W hok.2.1.1 (by have := ok_node hok; omega)
    have hbr := fun W => rvbit_any m.R W hok.2.2.1.1 (by have := ok_node hok; omega)
    have hG := hok.2.2.2.2.2.2.1
    clear hok hoth hask
    obtain ⟨I, N, S, A, F, G, R⟩ := m
    unfold setsV orI outI MV.cells at *
    dsimp only at *
    have HCK := Lib.hid hck; have HO := Lib.hid hot; have HBS := Lib.hid hbs; have HBI := Lib.hid hbi; have HBR := Lib.hid hbr; clear hck hot hbs hbi hbr
    by_cases g0 : G = 0
    · subst g0
      rw [if_pos rfl]
      clear hG HBR
      obtain ⟨km, bc⟩ := bx1 w #[.int .i64 I, .int .i64 N, .int .i64 S, .int .i64 A, .int .i64 F, .int .i64 0, .int .i64 R] 23
      go_enter Try.func13, Try.ntmps13
      go_wp2_with fail
      generalize w.alloc (.cells #[.int .i64 I, .int .i64 N, .int .i64 S, .int .i64 A, .int .i64 F, .int .i64 0, .int .i64 R] 23) = u1 at *
      refine (HCK.out _).mono ?_
      rintro e w1 ⟨rfl, hC⟩
      dsimp only
      replace km := km.on hC; replace bc := bc.trans (hC.mono bc.size); clear hC
      obtain ⟨⟨pkm_0, pkm_1, pkm_2, pkm_3, pkm_4, pkm_5, pkm_6⟩, pkm_0f, pkm_1f, pkm_2f, pkm_3f, pkm_4f, pkm_5f, pkm_6f⟩ := km.seven
      go_wp2_with fail
      clear pkm_0 pkm_1 pkm_2 pkm_3 pkm_4 pkm_5 pkm_6 pkm_0f pkm_1f pkm_2f pkm_3f pkm_4f pkm_5f pkm_6f
      refine (HO.out _).mono ?_
      rintro e w2 ⟨rfl, hC⟩
      dsimp only
      replace km := km.on hC; replace bc := bc.trans (hC.mono bc.size); clear hC
      obtain ⟨⟨pkm_0, pkm_1, pkm_2, pkm_3, pkm_4, pkm_5, pkm_6⟩, pkm_0f, pkm_1f, pkm_2f, pkm_3f, pkm_4f, pkm_5f, pkm_6f⟩ := km.seven
      go_wp2
      go_quiet ((go_at_call 34; with_reducible exact Calls.quiet_of_same (pure_quiet (HBS.out _))))
      clear pkm_0 pkm_1 pkm_2 pkm_3 pkm_4 pkm_5 pkm_6 pkm_0f pkm_1f pkm_2f pkm_3f pkm_4f pkm_5f pkm_6f
      have hd := below_drewN (Below.refl w2.heap.size w2) nq
      replace km := km.on hd; replace bc := bc.trans (hd.mono bc.size); clear hd
      generalize w2.drewN nq = w3 at *
      obtain ⟨⟨pkm_0, pkm_1, pkm_2, pkm_3, pkm_4, pkm_5, pkm_6⟩, pkm_0f, pkm_1f, pkm_2f, pkm_3f, pkm_4f, pkm_5f, pkm_6f⟩ := km.seven
      go_wp2_with fail
      refine (HBI.out _).mono ?_
      rintro e w4 ⟨rfl, rfl⟩
      dsimp only
      have kn := Blk.new w3 3 #[.int .i64 (bits .or .i64 S (pw s))]
      have hal := Below.al w3 (.cells #[.int .i64 (bits .or .i64 S (pw s))] 3)
      go_wp2
      go_ret
      exact ⟨some ⟨w3.heap.size, 0, none⟩, 1, rfl, by simp, (fun h => by cases h), ints_one kn, below_then bc hal⟩
    rw [if_neg g0]
    by_cases g1 : G = 1
    · subst g1
      rw [if_pos rfl]
      clear hG g0 HBR
      obtain ⟨km, bc⟩ := bx1 w #[.int .i64 I, .int .i64 N, .int .i64 S, .int .i64 A, .int .i64 F, .int .i64 1, .int .i64 R] 23
      go_enter Try.func13, Try.ntmps13
      go_wp2_with fail
      generalize w.alloc (.cells #[.int .i64 I, .int .i64 N, .int .i64 S, .int .i64 A, .int .i64 F, .int .i64 1, .int .i64 R] 23) = u1 at *
      refine (HCK.out _).mono ?_
      rintro e w1 ⟨rfl, hC⟩
      dsimp only
      replace km := km.on hC; replace bc := bc.trans (hC.mono bc.size); clear hC
      obtain ⟨⟨pkm_0, pkm_1, pkm_2, pkm_3, pkm_4, pkm_5, pkm_6⟩, pkm_0f, pkm_1f, pkm_2f, pkm_3f, pkm_4f, pkm_5f, pkm_6f⟩ := km.seven
      go_wp2_with fail
      clear pkm_0 pkm_1 pkm_2 pkm_3 pkm_4 pkm_5 pkm_6 pkm_0f pkm_1f pkm_2f pkm_3f pkm_4f pkm_5f pkm_6f
      refine (HO.out _).mono ?_
      rintro e w2 ⟨rfl, hC⟩
      dsimp only
      replace km := km.on hC; replace bc := bc.trans (hC.mono bc.size); clear hC
      obtain ⟨⟨pkm_0, pkm_1, pkm_2, pkm_3, pkm_4, pkm_5, pkm_6⟩, pkm_0f, pkm_1f, pkm_2f, pkm_3f, pkm_4f, pkm_5f, pkm_6f⟩ := km.seven
      go_wp2
      go_quiet ((go_at_call 34; with_reducible exact Calls.quiet_of_same (pure_quiet (HBS.out _))))
      clear pkm_0 pkm_1 pkm_2 pkm_3 pkm_4 pkm_5 pkm_6 pkm_0f pkm_1f pkm_2f pkm_3f pkm_4f pkm_5f pkm_6f
      have hd := below_drewN (Below.refl w2.heap.size w2) nq
      replace km := km.on hd; replace bc := bc.trans (hd.mono bc.size); clear hd
      generalize w2.drewN nq = w3 at *
      obtain ⟨⟨pkm_0, pkm_1, pkm_2, pkm_3, pkm_4, pkm_5, pkm_6⟩, pkm_0f, pkm_1f, pkm_2f, pkm_3f, pkm_4f, pkm_5f, pkm_6f⟩ := km.seven
      go_wp2_with fail
      refine (HBI.out _).mono ?_
      rintro e w4 ⟨rfl, rfl⟩
      dsimp only
      have kn := Blk.new w3 3 #[.int .i64 (bits .or .i64 (bits .or .i64 S (pw s)) (pw I)), .int .i64 (bits .andNot .i64 (bits .or .i64 S (pw s)) (pw I))]
      have hal := Below.al w3 (.cells #[.int .i64 (bits .or .i64 (bits .or .i64 S (pw s)) (pw I)), .int .i64 (bits .andNot .i64 (bits .or .i64 S (pw s)) (pw I))] 3)
      go_wp2
      go_ret
      exact ⟨some ⟨w3.heap.size, 0, none⟩, 2, rfl, by simp, (fun h => by cases h), ints_two kn, below_then bc hal⟩
    rw [if_neg g1]
    obtain rfl : G = 2 := by omega
    clear hG g0 g1
    by_cases g2 : s = R
    · subst g2
      rw [if_pos rfl]
      clear HBR
      obtain ⟨km, bc⟩ := bx1 w #[.int .i64 I, .int .i64 N, .int .i64 S, .int .i64 A, .int .i64 F, .int .i64 2, .int .i64 s] 23
      go_enter Try.func13, Try.ntmps13
      go_wp2_with fail
      generalize w.alloc (.cells #[.int .i64 I, .int .i64 N, .int .i64 S, .int .i64 A, .int .i64 F, .int .i64 2, .int .i64 s] 23) = u1 at *
      refine (HCK.out _).mono ?_
      rintro e w1 ⟨rfl, hC⟩
      dsimp only
      replace km := km.on hC; replace bc := bc.trans (hC.mono bc.size); clear hC
      obtain ⟨⟨pkm_0, pkm_1, pkm_2, pkm_3, pkm_4, pkm_5, pkm_6⟩, pkm_0f, pkm_1f, pkm_2f, pkm_3f, pkm_4f, pkm_5f, pkm_6f⟩ := km.seven
      go_wp2_with fail
      clear pkm_0 pkm_1 pkm_2 pkm_3 pkm_4 pkm_5 pkm_6 pkm_0f pkm_1f pkm_2f pkm_3f pkm_4f pkm_5f pkm_6f
      refine (HO.out _).mono ?_
      rintro e w2 ⟨rfl, hC⟩
      dsimp only
      replace km := km.on hC; replace bc := bc.trans (hC.mono bc.size); clear hC
      obtain ⟨⟨pkm_0, pkm_1, pkm_2, pkm_3, pkm_4, pkm_5, pkm_6⟩, pkm_0f, pkm_1f, pkm_2f, pkm_3f, pkm_4f, pkm_5f, pkm_6f⟩ := km.seven
      go_wp2
      go_quiet ((go_at_call 34; with_reducible exact Calls.quiet_of_same (pure_quiet (HBS.out _))))
      clear pkm_0 pkm_1 pkm_2 pkm_3 pkm_4 pkm_5 pkm_6 pkm_0f pkm_1f pkm_2f pkm_3f pkm_4f pkm_5f pkm_6f
      have hd := below_drewN (Below.refl w2.heap.size w2) nq
      replace km := km.on hd; replace bc := bc.trans (hd.mono bc.size); clear hd
      generalize w2.drewN nq = w3 at *
      obtain ⟨⟨pkm_0, pkm_1, pkm_2, pkm_3, pkm_4, pkm_5, pkm_6⟩, pkm_0f, pkm_1f, pkm_2f, pkm_3f, pkm_4f, pkm_5f, pkm_6f⟩ := km.seven
      go_wp2_with fail
      refine (HBI.out _).mono ?_
      rintro e w4 ⟨rfl, rfl⟩
      dsimp only
      have kn := Blk.new w3 3 #[.int .i64 (bits .or .i64 (bits .or .i64 S (pw s)) (pw I))]
      have hal := Below.al w3 (.cells #[.int .i64 (bits .or .i64 (bits .or .i64 S (pw s)) (pw I))] 3)
      go_wp2
      go_ret
      exact ⟨some ⟨w3.heap.size, 0, none⟩, 1, rfl, by simp, (fun h => by cases h), ints_one kn, below_then bc hal⟩
    · rw [if_neg g2]
      have e2 : (s == R) = false := by simpa using g2
      clear g2
      obtain ⟨km, bc⟩ := bx1 w #[.int .i64 I, .int .i64 N, .int .i64 S, .int .i64 A, .int .i64 F, .int .i64 2, .int .i64 R] 23
      go_enter Try.func13, Try.ntmps13
      go_wp2_with fail
      generalize w.alloc (.cells #[.int .i64 I, .int .i64 N, .int .i64 S, .int .i64 A, .int .i64 F, .int .i64 2, .int .i64 R] 23) = u1 at *
      refine (HCK.out _).mono ?_
      rintro e w1 ⟨rfl, hC⟩
      dsimp only
      replace km := km.on hC; replace bc := bc.trans (hC.mono bc.size); clear hC
      obtain ⟨⟨pkm_0, pkm_1, pkm_2, pkm_3, pkm_4, pkm_5, pkm_6⟩, pkm_0f, pkm_1f, pkm_2f, pkm_3f, pkm_4f, pkm_5f, pkm_6f⟩ := km.seven
      go_wp2_with fail
      clear pkm_0 pkm_1 pkm_2 pkm_3 pkm_4 pkm_5 pkm_6 pkm_0f pkm_1f pkm_2f pkm_3f pkm_4f pkm_5f pkm_6f
      refine (HO.out _).mono ?_
      rintro e w2 ⟨rfl, hC⟩
      dsimp only
      replace km := km.on hC; replace bc := bc.trans (hC.mono bc.size); clear hC
      obtain ⟨⟨pkm_0, pkm_1, pkm_2, pkm_3, pkm_4, pkm_5, pkm_6⟩, pkm_0f, pkm_1f, pkm_2f, pkm_3f, pkm_4f, pkm_5f, pkm_6f⟩ := km.seven
      go_wp2
      go_quiet ((go_at_call 34; with_reducible exact Calls.quiet_of_same (pure_quiet (HBS.out _))))
      clear pkm_0 pkm_1 pkm_2 pkm_3 pkm_4 pkm_5 pkm_6 pkm_0f pkm_1f pkm_2f pkm_3f pkm_4f pkm_5f pkm_6f
      have hd := below_drewN (Below.refl w2.heap.size w2) nq
      replace km := km.on hd; replace bc := bc.trans (hd.mono bc.size); clear hd
      generalize w2.drewN nq = w3 at *
      obtain ⟨⟨pkm_0, pkm_1, pkm_2, pkm_3, pkm_4, pkm_5, pkm_6⟩, pkm_0f, pkm_1f, pkm_2f, pkm_3f, pkm_4f, pkm_5f, pkm_6f⟩ := km.seven
      go_wp2_with fail
      refine (HBI.out _).mono ?_
      rintro e w4 ⟨rfl, rfl⟩
      dsimp only
      go_wp2_with fail
      go_region_law ((go_simp; go_at_call 34; with_reducible refine (HBR.out _).mono ?_; rintro e w5 ⟨rfl, rfl⟩))
      all_goals
        have kn := (Blk.new w3 3 #[.int .i64 (bits .andNot .i64 (bits .or .i64 (bits .or .i64 S (pw s)) (pw I)) (pw R)), .int .i64 (bits .andNot .i64 (bits .or .i64 (bits .or .i64 S (pw s)) (pw R)) (pw I))]).drew
        have hal := (Below.al w3 (.cells #[.int .i64 (bits .andNot .i64 (bits .or .i64 (bits .or .i64 S (pw s)) (pw I)) (pw R)), .int .i64 (bits .andNot .i64 (bits .or .i64 (bits .or .i64 S (pw s)) (pw R)) (pw I))] 3)).drew
        go_wp2
        go_ret
        exact ⟨some ⟨w3.heap.size, 0, none⟩, 2, rfl, by simp, (fun h => by cases h), ints_two kn, below_then bc hal⟩
  · rw [show viewsV m s = [] from if_neg hask]
    by_cases hok : okV m
    · have hoth : ¬ othV m s := fun h => hask (ask_ok hok h)
      rw [chkV_ok hok] at hck
      rw [decide_eq_false hoth] at hot
      clear hok hoth hask
      obtain ⟨I, N, S, A, F, G, R⟩ := m
      unfold MV.cells at *
      dsimp only at *
      have HCK := Lib.hid hck; have HO := Lib.hid hot; clear hck hot
      obtain ⟨km, bc⟩ := bx1 w #[.int .i64 I, .int .i64 N, .int .i64 S, .int .i64 A, .int .i64 F, .int .i64 G, .int .i64 R] 23
      go_enter Try.func13, Try.ntmps13
      go_wp2_with fail
      generalize w.alloc (.cells #[.int .i64 I, .int .i64 N, .int .i64 S, .int .i64 A, .int .i64 F, .int .i64 G, .int .i64 R] 23) = u1 at *
      refine (HCK.out _).mono ?_
      rintro e w1 ⟨rfl, hC⟩
      dsimp only
      replace km := km.on hC; replace bc := bc.trans (hC.mono bc.size); clear hC
      obtain ⟨⟨pkm_0, pkm_1, pkm_2, pkm_3, pkm_4, pkm_5, pkm_6⟩, pkm_0f, pkm_1f, pkm_2f, pkm_3f, pkm_4f, pkm_5f, pkm_6f⟩ := km.seven
      go_wp2_with fail
      clear pkm_0 pkm_1 pkm_2 pkm_3 pkm_4 pkm_5 pkm_6 pkm_0f pkm_1f pkm_2f pkm_3f pkm_4f pkm_5f pkm_6f
      refine (HO.out _).mono ?_
      rintro e w2 ⟨rfl, hC⟩
      dsimp only
      replace km := km.on hC; replace bc := bc.trans (hC.mono bc.size); clear hC
      obtain ⟨⟨pkm_0, pkm_1, pkm_2, pkm_3, pkm_4, pkm_5, pkm_6⟩, pkm_0f, pkm_1f, pkm_2f, pkm_3f, pkm_4f, pkm_5f, pkm_6f⟩ := km.seven
      go_wp2
      go_ret
      exact ⟨none, 0, rfl, by simp, (fun _ => ⟨rfl, rfl⟩), ints_none _ _, bc⟩
    · rw [chkV_no hok] at hck
      clear hok hask hot
      obtain ⟨I, N, S, A, F, G, R⟩ := m
      unfold MV.cells at *
      dsimp only at *
      have HCK := Lib.hid hck; clear hck
      obtain ⟨km, bc⟩ := bx1 w #[.int .i64 I, .int .i64 N, .int .i64 S, .int .i64 A, .int .i64 F, .int .i64 G, .int .i64 R] 23
      go_enter Try.func13, Try.ntmps13
      go_wp2_with fail
      generalize w.alloc (.cells #[.int .i64 I, .int .i64 N, .int .i64 S, .int .i64 A, .int .i64 F, .int .i64 G, .int .i64 R] 23) = u1 at *
      refine (HCK.out _).mono ?_
      rintro e w1 ⟨rfl, hC⟩
      dsimp only
      replace km := km.on hC; replace bc := bc.trans (hC.mono bc.size); clear hC
      obtain ⟨⟨pkm_0, pkm_1, pkm_2, pkm_3, pkm_4, pkm_5, pkm_6⟩, pkm_0f, pkm_1f, pkm_2f, pkm_3f, pkm_4f, pkm_5f, pkm_6f⟩ := km.seven
      go_wp2
      go_ret
      exact ⟨none, 0, rfl, by simp, (fun _ => ⟨rfl, rfl⟩), ints_none _ _, bc⟩
end Go.Proofs.Ytffbhdllepjdeaa
