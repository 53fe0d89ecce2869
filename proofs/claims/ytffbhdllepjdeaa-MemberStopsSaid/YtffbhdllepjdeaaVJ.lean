/-
  Good, Null and Bad of package member: a view behind another node's slot. No condition.
-/
import Derived.Test.YtffbhdllepjdeaaVI
namespace Go.Proofs.Ytffbhdllepjdeaa
open Go.RowKit

theorem pure_below {P : Program} {f : FuncId} {args : Array Value} {w : World} {v : Value} (h : Calls P f args w fun e w' => e = .returned v ∧ w = w') : Calls P f args w fun e w' => e = .returned v ∧ Below w.heap.size w w' :=
  h.mono fun _ _ ⟨a, b⟩ => ⟨a, b ▸ Below.refl _ _⟩
theorem ask_zero {m : MV} {s : Int} (h : askV m s = 0) : okV m ∧ othV m s := by
  have hok : okV m := by
    rcases Classical.em (okV m) with h1 | h1
    · exact h1
    · rw [ask_no h1] at h; cases h
  refine ⟨hok, ?_⟩
  rcases Classical.em (othV m s) with h1 | h1
  · exact h1
  · rw [ask_oth hok h1] at h; cases h

set_option maxRecDepth 8000 in
set_option maxHeartbeats 4000000 in
theorem vgood_any (m : MV) (s k : Int) (w : World) : Calls Try.prog 22 #[.agg m.cells, .int .i64 s, .int .i64 k] w (ResV w (goodV m s k)) := by
  have hck := fun W => checkOther_any m s W
  have hvo := fun W => viewOf_any m s k W
  unfold goodV ResV
  by_cases hask : askV m s = 0
  · rw [if_pos hask]
    rw [hask] at hck
    obtain ⟨hok, hoth⟩ := ask_zero hask
    have hbi := fun W => vbit_any m.I W hok.2.1.1 (by have := ok_node hok; omega)
    have hma := fun W => pure_below (vmore_any m.A W hok.2.2.2.2.1.1 hok.2.2.2.2.1.2)
    have hmf := fun W => pure_below (vmore_any m.F W hok.2.2.2.2.2.1.1 hok.2.2.2.2.2.1.2)
    have hG := hok.2.2.2.2.2.2.1
    clear hok hoth hask
    generalize viewOfV m s k = o at *
    cases o with
    | none =>
      clear hbi hma hmf hG
      obtain ⟨I, N, S, A, F, G, R⟩ := m
      unfold zeroV MV.cells at *
      dsimp only [Option.getD, Option.isSome] at *
      have HCK := Lib.hid hck; have HV := Lib.hid hvo; clear hck hvo
      obtain ⟨km, kr, bc⟩ := bx2 w #[.int .i64 I, .int .i64 N, .int .i64 S, .int .i64 A, .int .i64 F, .int .i64 G, .int .i64 R] #[.int .i64 0, .int .i64 0, .int .i64 0, .int .i64 0, .int .i64 0, .int .i64 0, .int .i64 0] 23 23
      go_enter Try.func22, Try.ntmps22
      go_wp2_with fail
      generalize (w.alloc (.cells #[.int .i64 I, .int .i64 N, .int .i64 S, .int .i64 A, .int .i64 F, .int .i64 G, .int .i64 R] 23)).alloc (.cells #[.int .i64 0, .int .i64 0, .int .i64 0, .int .i64 0, .int .i64 0, .int .i64 0, .int .i64 0] 23) = u1 at *
      refine (HCK.out _).mono ?_
      rintro e w1 ⟨rfl, hC⟩
      dsimp only
      replace km := km.on hC; replace kr := kr.on hC; replace bc := bc.trans (hC.mono bc.size); clear hC
      obtain ⟨⟨pkm_0, pkm_1, pkm_2, pkm_3, pkm_4, pkm_5, pkm_6⟩, pkm_0f, pkm_1f, pkm_2f, pkm_3f, pkm_4f, pkm_5f, pkm_6f⟩ := km.seven
      obtain ⟨⟨pkr_0, pkr_1, pkr_2, pkr_3, pkr_4, pkr_5, pkr_6⟩, pkr_0f, pkr_1f, pkr_2f, pkr_3f, pkr_4f, pkr_5f, pkr_6f⟩ := kr.seven
      go_wp2_with fail
      clear pkm_0 pkm_1 pkm_2 pkm_3 pkm_4 pkm_5 pkm_6 pkm_0f pkm_1f pkm_2f pkm_3f pkm_4f pkm_5f pkm_6f pkr_0 pkr_1 pkr_2 pkr_3 pkr_4 pkr_5 pkr_6 pkr_0f pkr_1f pkr_2f pkr_3f pkr_4f pkr_5f pkr_6f
      refine (HV.out _).mono ?_
      rintro e w2 ⟨rfl, hC⟩
      dsimp only
      replace km := km.on hC; replace kr := kr.on hC; replace bc := bc.trans (hC.mono bc.size); clear hC
      obtain ⟨⟨pkm_0, pkm_1, pkm_2, pkm_3, pkm_4, pkm_5, pkm_6⟩, pkm_0f, pkm_1f, pkm_2f, pkm_3f, pkm_4f, pkm_5f, pkm_6f⟩ := km.seven
      obtain ⟨⟨pkr_0, pkr_1, pkr_2, pkr_3, pkr_4, pkr_5, pkr_6⟩, pkr_0f, pkr_1f, pkr_2f, pkr_3f, pkr_4f, pkr_5f, pkr_6f⟩ := kr.seven
      go_wp2
      exact bodyPost_ret (v := .tuple #[.agg #[.int .i64 0, .int .i64 0, .int .i64 0, .int .i64 0, .int .i64 0, .int .i64 0, .int .i64 0], .int .i64 2]) (by simp [results, Try.results22, go_sem, pkr_0, pkr_1, pkr_2, pkr_3, pkr_4, pkr_5, pkr_6]) rfl ⟨rfl, by repeat (first | refine Below.setCell ?_ (by simp) _ | exact bc)⟩
    | some set =>
      dsimp only [Option.getD, Option.isSome] at *
      unfold rightV
      generalize moreV m.A = A' at *
      generalize moreV m.F = F' at *
      obtain ⟨I, N, S, A, F, G, R⟩ := m
      unfold orI MV.cells at *
      dsimp only at *
      have HCK := Lib.hid hck; have HV := Lib.hid hvo; have HB := Lib.hid hbi; have HA := Lib.hid hma; have HF := Lib.hid hmf; clear hck hvo hbi hma hmf
      by_cases c1 : G = 1 ∧ k = 1
      · rw [if_pos c1]
        obtain ⟨rfl, rfl⟩ := c1
        clear hG HA HF
        obtain ⟨km, kr, bc⟩ := bx2 w #[.int .i64 I, .int .i64 N, .int .i64 S, .int .i64 A, .int .i64 F, .int .i64 1, .int .i64 R] #[.int .i64 0, .int .i64 0, .int .i64 0, .int .i64 0, .int .i64 0, .int .i64 0, .int .i64 0] 23 23
        go_enter Try.func22, Try.ntmps22
        go_wp2_with fail
        generalize (w.alloc (.cells #[.int .i64 I, .int .i64 N, .int .i64 S, .int .i64 A, .int .i64 F, .int .i64 1, .int .i64 R] 23)).alloc (.cells #[.int .i64 0, .int .i64 0, .int .i64 0, .int .i64 0, .int .i64 0, .int .i64 0, .int .i64 0] 23) = u1 at *
        refine (HCK.out _).mono ?_
        rintro e w1 ⟨rfl, hC⟩
        dsimp only
        replace km := km.on hC; replace kr := kr.on hC; replace bc := bc.trans (hC.mono bc.size); clear hC
        obtain ⟨⟨pkm_0, pkm_1, pkm_2, pkm_3, pkm_4, pkm_5, pkm_6⟩, pkm_0f, pkm_1f, pkm_2f, pkm_3f, pkm_4f, pkm_5f, pkm_6f⟩ := km.seven
        obtain ⟨⟨pkr_0, pkr_1, pkr_2, pkr_3, pkr_4, pkr_5, pkr_6⟩, pkr_0f, pkr_1f, pkr_2f, pkr_3f, pkr_4f, pkr_5f, pkr_6f⟩ := kr.seven
        go_wp2_with fail
        clear pkm_0 pkm_1 pkm_2 pkm_3 pkm_4 pkm_5 pkm_6 pkm_0f pkm_1f pkm_2f pkm_3f pkm_4f pkm_5f pkm_6f pkr_0 pkr_1 pkr_2 pkr_3 pkr_4 pkr_5 pkr_6 pkr_0f pkr_1f pkr_2f pkr_3f pkr_4f pkr_5f pkr_6f
        refine (HV.out _).mono ?_
        rintro e w2 ⟨rfl, hC⟩
        dsimp only
        replace km := km.on hC; replace kr := kr.on hC; replace bc := bc.trans (hC.mono bc.size); clear hC
        obtain ⟨⟨pkm_0, pkm_1, pkm_2, pkm_3, pkm_4, pkm_5, pkm_6⟩, pkm_0f, pkm_1f, pkm_2f, pkm_3f, pkm_4f, pkm_5f, pkm_6f⟩ := km.seven
        obtain ⟨⟨pkr_0, pkr_1, pkr_2, pkr_3, pkr_4, pkr_5, pkr_6⟩, pkr_0f, pkr_1f, pkr_2f, pkr_3f, pkr_4f, pkr_5f, pkr_6f⟩ := kr.seven
        have hG := st1_2 w2 (w.heap.size) (.int .i64 set)
        replace kr := kr.grown hG (some_ne (by omega)); replace bc := Below.off bc bc.size (by omega) hG; replace km := km.put1_2 (.int .i64 set); clear hG
        go_wp2_with fail
        clear pkm_0 pkm_1 pkm_2 pkm_3 pkm_4 pkm_5 pkm_6 pkm_0f pkm_1f pkm_2f pkm_3f pkm_4f pkm_5f pkm_6f pkr_0 pkr_1 pkr_2 pkr_3 pkr_4 pkr_5 pkr_6 pkr_0f pkr_1f pkr_2f pkr_3f pkr_4f pkr_5f pkr_6f
        generalize w2.setCell ⟨w.heap.size, 2, none⟩ (.int .i64 set) = u2 at *
        obtain ⟨⟨pkm_0, pkm_1, pkm_2, pkm_3, pkm_4, pkm_5, pkm_6⟩, pkm_0f, pkm_1f, pkm_2f, pkm_3f, pkm_4f, pkm_5f, pkm_6f⟩ := km.seven
        obtain ⟨⟨pkr_0, pkr_1, pkr_2, pkr_3, pkr_4, pkr_5, pkr_6⟩, pkr_0f, pkr_1f, pkr_2f, pkr_3f, pkr_4f, pkr_5f, pkr_6f⟩ := kr.seven
        go_region_law ((go_simp; go_at_call 37; with_reducible refine (HB.out _).mono ?_; rintro e w2 ⟨rfl, rfl⟩))
        all_goals
          clear pkm_0 pkm_1 pkm_2 pkm_3 pkm_4 pkm_5 pkm_6 pkm_0f pkm_1f pkm_2f pkm_3f pkm_4f pkm_5f pkm_6f pkr_0 pkr_1 pkr_2 pkr_3 pkr_4 pkr_5 pkr_6 pkr_0f pkr_1f pkr_2f pkr_3f pkr_4f pkr_5f pkr_6f
          have hG := st1_2 u2 (w.heap.size) (.int .i64 (bits .or .i64 set (pw I)))
          replace kr := kr.grown hG (some_ne (by omega)); replace bc := Below.off bc bc.size (by omega) hG; replace km := km.put1_2 (.int .i64 (bits .or .i64 set (pw I))); clear hG
          generalize u2.setCell ⟨w.heap.size, 2, none⟩ (.int .i64 (bits .or .i64 set (pw I))) = us at *
          have hdr : Below us.heap.size us us.drew := (Below.refl _ _).drew
          replace km := km.on hdr; replace kr := kr.on hdr; replace bc := bc.trans (hdr.mono bc.size)
          clear hdr
          generalize us.drew = ut at *
          obtain ⟨⟨pkm_0, pkm_1, pkm_2, pkm_3, pkm_4, pkm_5, pkm_6⟩, pkm_0f, pkm_1f, pkm_2f, pkm_3f, pkm_4f, pkm_5f, pkm_6f⟩ := km.seven
          obtain ⟨⟨pkr_0, pkr_1, pkr_2, pkr_3, pkr_4, pkr_5, pkr_6⟩, pkr_0f, pkr_1f, pkr_2f, pkr_3f, pkr_4f, pkr_5f, pkr_6f⟩ := kr.seven
          go_wp2_with fail
          exact bodyPost_ret (v := .tuple #[.agg #[.int .i64 I, .int .i64 N, .int .i64 (bits .or .i64 set (pw I)), .int .i64 A, .int .i64 F, .int .i64 2, .int .i64 s], .int .i64 0]) (by simp [results, Try.results22, go_sem, pkr_0, pkr_1, pkr_2, pkr_3, pkr_4, pkr_5, pkr_6]) rfl ⟨rfl, by repeat (first | refine Below.setCell ?_ (by simp) _ | exact bc)⟩
      rw [if_neg c1]
      by_cases c2 : G = 2 ∧ s ≠ R
      · rw [if_pos c2]
        obtain ⟨rfl, hsr⟩ := c2
        have d2 : (s == R) = false := by simpa using hsr
        have d3 : (s != R) = true := by simpa using hsr
        clear hG HB c1 hsr
        obtain ⟨km, kr, bc⟩ := bx2 w #[.int .i64 I, .int .i64 N, .int .i64 S, .int .i64 A, .int .i64 F, .int .i64 2, .int .i64 R] #[.int .i64 0, .int .i64 0, .int .i64 0, .int .i64 0, .int .i64 0, .int .i64 0, .int .i64 0] 23 23
        go_enter Try.func22, Try.ntmps22
        go_wp2_with fail
        generalize (w.alloc (.cells #[.int .i64 I, .int .i64 N, .int .i64 S, .int .i64 A, .int .i64 F, .int .i64 2, .int .i64 R] 23)).alloc (.cells #[.int .i64 0, .int .i64 0, .int .i64 0, .int .i64 0, .int .i64 0, .int .i64 0, .int .i64 0] 23) = u1 at *
        refine (HCK.out _).mono ?_
        rintro e w1 ⟨rfl, hC⟩
        dsimp only
        replace km := km.on hC; replace kr := kr.on hC; replace bc := bc.trans (hC.mono bc.size); clear hC
        obtain ⟨⟨pkm_0, pkm_1, pkm_2, pkm_3, pkm_4, pkm_5, pkm_6⟩, pkm_0f, pkm_1f, pkm_2f, pkm_3f, pkm_4f, pkm_5f, pkm_6f⟩ := km.seven
        obtain ⟨⟨pkr_0, pkr_1, pkr_2, pkr_3, pkr_4, pkr_5, pkr_6⟩, pkr_0f, pkr_1f, pkr_2f, pkr_3f, pkr_4f, pkr_5f, pkr_6f⟩ := kr.seven
        go_wp2_with fail
        clear pkm_0 pkm_1 pkm_2 pkm_3 pkm_4 pkm_5 pkm_6 pkm_0f pkm_1f pkm_2f pkm_3f pkm_4f pkm_5f pkm_6f pkr_0 pkr_1 pkr_2 pkr_3 pkr_4 pkr_5 pkr_6 pkr_0f pkr_1f pkr_2f pkr_3f pkr_4f pkr_5f pkr_6f
        refine (HV.out _).mono ?_
        rintro e w2 ⟨rfl, hC⟩
        dsimp only
        replace km := km.on hC; replace kr := kr.on hC; replace bc := bc.trans (hC.mono bc.size); clear hC
        obtain ⟨⟨pkm_0, pkm_1, pkm_2, pkm_3, pkm_4, pkm_5, pkm_6⟩, pkm_0f, pkm_1f, pkm_2f, pkm_3f, pkm_4f, pkm_5f, pkm_6f⟩ := km.seven
        obtain ⟨⟨pkr_0, pkr_1, pkr_2, pkr_3, pkr_4, pkr_5, pkr_6⟩, pkr_0f, pkr_1f, pkr_2f, pkr_3f, pkr_4f, pkr_5f, pkr_6f⟩ := kr.seven
        have hG := st1_2 w2 (w.heap.size) (.int .i64 set)
        replace kr := kr.grown hG (some_ne (by omega)); replace bc := Below.off bc bc.size (by omega) hG; replace km := km.put1_2 (.int .i64 set); clear hG
        go_wp2_with fail
        clear pkm_0 pkm_1 pkm_2 pkm_3 pkm_4 pkm_5 pkm_6 pkm_0f pkm_1f pkm_2f pkm_3f pkm_4f pkm_5f pkm_6f pkr_0 pkr_1 pkr_2 pkr_3 pkr_4 pkr_5 pkr_6 pkr_0f pkr_1f pkr_2f pkr_3f pkr_4f pkr_5f pkr_6f
        generalize w2.setCell ⟨w.heap.size, 2, none⟩ (.int .i64 set) = u2 at *
        refine (HF.out _).mono ?_
        rintro e w3 ⟨rfl, hC⟩
        dsimp only
        replace km := km.on hC; replace kr := kr.on hC; replace bc := bc.trans (hC.mono bc.size); clear hC
        obtain ⟨⟨pkm_0, pkm_1, pkm_2, pkm_3, pkm_4, pkm_5, pkm_6⟩, pkm_0f, pkm_1f, pkm_2f, pkm_3f, pkm_4f, pkm_5f, pkm_6f⟩ := km.seven
        obtain ⟨⟨pkr_0, pkr_1, pkr_2, pkr_3, pkr_4, pkr_5, pkr_6⟩, pkr_0f, pkr_1f, pkr_2f, pkr_3f, pkr_4f, pkr_5f, pkr_6f⟩ := kr.seven
        have hG := st1_4 w3 (w.heap.size) (.int .i64 F')
        replace kr := kr.grown hG (some_ne (by omega)); replace bc := Below.off bc bc.size (by omega) hG; replace km := km.put1_4 (.int .i64 F'); clear hG
        have hG := st1_5 (w3.setCell ⟨w.heap.size, 4, none⟩ (.int .i64 F')) (w.heap.size) (.int .i64 0)
        replace kr := kr.grown hG (some_ne (by omega)); replace bc := Below.off bc bc.size (by omega) hG; replace km := km.put1_5 (.int .i64 0); clear hG
        have hG := st1_6 ((w3.setCell ⟨w.heap.size, 4, none⟩ (.int .i64 F')).setCell ⟨w.heap.size, 5, none⟩ (.int .i64 0)) (w.heap.size) (.int .i64 0)
        replace kr := kr.grown hG (some_ne (by omega)); replace bc := Below.off bc bc.size (by omega) hG; replace km := km.put1_6 (.int .i64 0); clear hG
        go_wp2_with fail
        clear pkm_0 pkm_1 pkm_2 pkm_3 pkm_4 pkm_5 pkm_6 pkm_0f pkm_1f pkm_2f pkm_3f pkm_4f pkm_5f pkm_6f pkr_0 pkr_1 pkr_2 pkr_3 pkr_4 pkr_5 pkr_6 pkr_0f pkr_1f pkr_2f pkr_3f pkr_4f pkr_5f pkr_6f
        generalize ((w3.setCell ⟨w.heap.size, 4, none⟩ (.int .i64 F')).setCell ⟨w.heap.size, 5, none⟩ (.int .i64 0)).setCell ⟨w.heap.size, 6, none⟩ (.int .i64 0) = u3 at *
        refine (HA.out _).mono ?_
        rintro e w4 ⟨rfl, hC⟩
        dsimp only
        replace km := km.on hC; replace kr := kr.on hC; replace bc := bc.trans (hC.mono bc.size); clear hC
        obtain ⟨⟨pkm_0, pkm_1, pkm_2, pkm_3, pkm_4, pkm_5, pkm_6⟩, pkm_0f, pkm_1f, pkm_2f, pkm_3f, pkm_4f, pkm_5f, pkm_6f⟩ := km.seven
        obtain ⟨⟨pkr_0, pkr_1, pkr_2, pkr_3, pkr_4, pkr_5, pkr_6⟩, pkr_0f, pkr_1f, pkr_2f, pkr_3f, pkr_4f, pkr_5f, pkr_6f⟩ := kr.seven
        go_wp2_with fail
        exact bodyPost_ret (v := .tuple #[.agg #[.int .i64 I, .int .i64 N, .int .i64 set, .int .i64 A', .int .i64 F', .int .i64 0, .int .i64 0], .int .i64 0]) (by simp [results, Try.results22, go_sem, pkr_0, pkr_1, pkr_2, pkr_3, pkr_4, pkr_5, pkr_6]) rfl ⟨rfl, by repeat (first | refine Below.setCell ?_ (by simp) _ | exact bc)⟩
      rw [if_neg c2]
      by_cases c3 : G ≠ 0
      · rw [if_pos c3]
        clear HB HF
        by_cases g1 : G = 1
        · subst g1
          have d1 : (k == 1) = false := by simp; omega
          clear hG c1 c2 c3
          obtain ⟨km, kr, bc⟩ := bx2 w #[.int .i64 I, .int .i64 N, .int .i64 S, .int .i64 A, .int .i64 F, .int .i64 1, .int .i64 R] #[.int .i64 0, .int .i64 0, .int .i64 0, .int .i64 0, .int .i64 0, .int .i64 0, .int .i64 0] 23 23
          go_enter Try.func22, Try.ntmps22
          go_wp2_with fail
          generalize (w.alloc (.cells #[.int .i64 I, .int .i64 N, .int .i64 S, .int .i64 A, .int .i64 F, .int .i64 1, .int .i64 R] 23)).alloc (.cells #[.int .i64 0, .int .i64 0, .int .i64 0, .int .i64 0, .int .i64 0, .int .i64 0, .int .i64 0] 23) = u1 at *
          refine (HCK.out _).mono ?_
          rintro e w1 ⟨rfl, hC⟩
          dsimp only
          replace km := km.on hC; replace kr := kr.on hC; replace bc := bc.trans (hC.mono bc.size); clear hC
          obtain ⟨⟨pkm_0, pkm_1, pkm_2, pkm_3, pkm_4, pkm_5, pkm_6⟩, pkm_0f, pkm_1f, pkm_2f, pkm_3f, pkm_4f, pkm_5f, pkm_6f⟩ := km.seven
          obtain ⟨⟨pkr_0, pkr_1, pkr_2, pkr_3, pkr_4, pkr_5, pkr_6⟩, pkr_0f, pkr_1f, pkr_2f, pkr_3f, pkr_4f, pkr_5f, pkr_6f⟩ := kr.seven
          go_wp2_with fail
          clear pkm_0 pkm_1 pkm_2 pkm_3 pkm_4 pkm_5 pkm_6 pkm_0f pkm_1f pkm_2f pkm_3f pkm_4f pkm_5f pkm_6f pkr_0 pkr_1 pkr_2 pkr_3 pkr_4 pkr_5 pkr_6 pkr_0f pkr_1f pkr_2f pkr_3f pkr_4f pkr_5f pkr_6f
          refine (HV.out _).mono ?_
          rintro e w2 ⟨rfl, hC⟩
          dsimp only
          replace km := km.on hC; replace kr := kr.on hC; replace bc := bc.trans (hC.mono bc.size); clear hC
          obtain ⟨⟨pkm_0, pkm_1, pkm_2, pkm_3, pkm_4, pkm_5, pkm_6⟩, pkm_0f, pkm_1f, pkm_2f, pkm_3f, pkm_4f, pkm_5f, pkm_6f⟩ := km.seven
          obtain ⟨⟨pkr_0, pkr_1, pkr_2, pkr_3, pkr_4, pkr_5, pkr_6⟩, pkr_0f, pkr_1f, pkr_2f, pkr_3f, pkr_4f, pkr_5f, pkr_6f⟩ := kr.seven
          have hG := st1_2 w2 (w.heap.size) (.int .i64 set)
          replace kr := kr.grown hG (some_ne (by omega)); replace bc := Below.off bc bc.size (by omega) hG; replace km := km.put1_2 (.int .i64 set); clear hG
          have hG := st1_5 (w2.setCell ⟨w.heap.size, 2, none⟩ (.int .i64 set)) (w.heap.size) (.int .i64 0)
          replace kr := kr.grown hG (some_ne (by omega)); replace bc := Below.off bc bc.size (by omega) hG; replace km := km.put1_5 (.int .i64 0); clear hG
          have hG := st1_6 ((w2.setCell ⟨w.heap.size, 2, none⟩ (.int .i64 set)).setCell ⟨w.heap.size, 5, none⟩ (.int .i64 0)) (w.heap.size) (.int .i64 0)
          replace kr := kr.grown hG (some_ne (by omega)); replace bc := Below.off bc bc.size (by omega) hG; replace km := km.put1_6 (.int .i64 0); clear hG
          go_wp2_with fail
          clear pkm_0 pkm_1 pkm_2 pkm_3 pkm_4 pkm_5 pkm_6 pkm_0f pkm_1f pkm_2f pkm_3f pkm_4f pkm_5f pkm_6f pkr_0 pkr_1 pkr_2 pkr_3 pkr_4 pkr_5 pkr_6 pkr_0f pkr_1f pkr_2f pkr_3f pkr_4f pkr_5f pkr_6f
          generalize ((w2.setCell ⟨w.heap.size, 2, none⟩ (.int .i64 set)).setCell ⟨w.heap.size, 5, none⟩ (.int .i64 0)).setCell ⟨w.heap.size, 6, none⟩ (.int .i64 0) = u2 at *
          refine (HA.out _).mono ?_
          rintro e w4 ⟨rfl, hC⟩
          dsimp only
          replace km := km.on hC; replace kr := kr.on hC; replace bc := bc.trans (hC.mono bc.size); clear hC
          obtain ⟨⟨pkm_0, pkm_1, pkm_2, pkm_3, pkm_4, pkm_5, pkm_6⟩, pkm_0f, pkm_1f, pkm_2f, pkm_3f, pkm_4f, pkm_5f, pkm_6f⟩ := km.seven
          obtain ⟨⟨pkr_0, pkr_1, pkr_2, pkr_3, pkr_4, pkr_5, pkr_6⟩, pkr_0f, pkr_1f, pkr_2f, pkr_3f, pkr_4f, pkr_5f, pkr_6f⟩ := kr.seven
          go_wp2_with fail
          exact bodyPost_ret (v := .tuple #[.agg #[.int .i64 I, .int .i64 N, .int .i64 set, .int .i64 A', .int .i64 F, .int .i64 0, .int .i64 0], .int .i64 0]) (by simp [results, Try.results22, go_sem, pkr_0, pkr_1, pkr_2, pkr_3, pkr_4, pkr_5, pkr_6]) rfl ⟨rfl, by repeat (first | refine Below.setCell ?_ (by simp) _ | exact bc)⟩
        · obtain rfl : G = 2 := by omega
          obtain rfl : s = R := by omega
          clear hG c1 c2 c3 g1
          obtain ⟨km, kr, bc⟩ := bx2 w #[.int .i64 I, .int .i64 N, .int .i64 S, .int .i64 A, .int .i64 F, .int .i64 2, .int .i64 s] #[.int .i64 0, .int .i64 0, .int .i64 0, .int .i64 0, .int .i64 0, .int .i64 0, .int .i64 0] 23 23
          go_enter Try.func22, Try.ntmps22
          go_wp2_with fail
          generalize (w.alloc (.cells #[.int .i64 I, .int .i64 N, .int .i64 S, .int .i64 A, .int .i64 F, .int .i64 2, .int .i64 s] 23)).alloc (.cells #[.int .i64 0, .int .i64 0, .int .i64 0, .int .i64 0, .int .i64 0, .int .i64 0, .int .i64 0] 23) = u1 at *
          refine (HCK.out _).mono ?_
          rintro e w1 ⟨rfl, hC⟩
          dsimp only
          replace km := km.on hC; replace kr := kr.on hC; replace bc := bc.trans (hC.mono bc.size); clear hC
          obtain ⟨⟨pkm_0, pkm_1, pkm_2, pkm_3, pkm_4, pkm_5, pkm_6⟩, pkm_0f, pkm_1f, pkm_2f, pkm_3f, pkm_4f, pkm_5f, pkm_6f⟩ := km.seven
          obtain ⟨⟨pkr_0, pkr_1, pkr_2, pkr_3, pkr_4, pkr_5, pkr_6⟩, pkr_0f, pkr_1f, pkr_2f, pkr_3f, pkr_4f, pkr_5f, pkr_6f⟩ := kr.seven
          go_wp2_with fail
          clear pkm_0 pkm_1 pkm_2 pkm_3 pkm_4 pkm_5 pkm_6 pkm_0f pkm_1f pkm_2f pkm_3f pkm_4f pkm_5f pkm_6f pkr_0 pkr_1 pkr_2 pkr_3 pkr_4 pkr_5 pkr_6 pkr_0f pkr_1f pkr_2f pkr_3f pkr_4f pkr_5f pkr_6f
          refine (HV.out _).mono ?_
          rintro e w2 ⟨rfl, hC⟩
          dsimp only
          replace km := km.on hC; replace kr := kr.on hC; replace bc := bc.trans (hC.mono bc.size); clear hC
          obtain ⟨⟨pkm_0, pkm_1, pkm_2, pkm_3, pkm_4, pkm_5, pkm_6⟩, pkm_0f, pkm_1f, pkm_2f, pkm_3f, pkm_4f, pkm_5f, pkm_6f⟩ := km.seven
          obtain ⟨⟨pkr_0, pkr_1, pkr_2, pkr_3, pkr_4, pkr_5, pkr_6⟩, pkr_0f, pkr_1f, pkr_2f, pkr_3f, pkr_4f, pkr_5f, pkr_6f⟩ := kr.seven
          have hG := st1_2 w2 (w.heap.size) (.int .i64 set)
          replace kr := kr.grown hG (some_ne (by omega)); replace bc := Below.off bc bc.size (by omega) hG; replace km := km.put1_2 (.int .i64 set); clear hG
          have hG := st1_5 (w2.setCell ⟨w.heap.size, 2, none⟩ (.int .i64 set)) (w.heap.size) (.int .i64 0)
          replace kr := kr.grown hG (some_ne (by omega)); replace bc := Below.off bc bc.size (by omega) hG; replace km := km.put1_5 (.int .i64 0); clear hG
          have hG := st1_6 ((w2.setCell ⟨w.heap.size, 2, none⟩ (.int .i64 set)).setCell ⟨w.heap.size, 5, none⟩ (.int .i64 0)) (w.heap.size) (.int .i64 0)
          replace kr := kr.grown hG (some_ne (by omega)); replace bc := Below.off bc bc.size (by omega) hG; replace km := km.put1_6 (.int .i64 0); clear hG
          go_wp2_with fail
          clear pkm_0 pkm_1 pkm_2 pkm_3 pkm_4 pkm_5 pkm_6 pkm_0f pkm_1f pkm_2f pkm_3f pkm_4f pkm_5f pkm_6f pkr_0 pkr_1 pkr_2 pkr_3 pkr_4 pkr_5 pkr_6 pkr_0f pkr_1f pkr_2f pkr_3f pkr_4f pkr_5f pkr_6f
          generalize ((w2.setCell ⟨w.heap.size, 2, none⟩ (.int .i64 set)).setCell ⟨w.heap.size, 5, none⟩ (.int .i64 0)).setCell ⟨w.heap.size, 6, none⟩ (.int .i64 0) = u2 at *
          refine (HA.out _).mono ?_
          rintro e w4 ⟨rfl, hC⟩
          dsimp only
          replace km := km.on hC; replace kr := kr.on hC; replace bc := bc.trans (hC.mono bc.size); clear hC
          obtain ⟨⟨pkm_0, pkm_1, pkm_2, pkm_3, pkm_4, pkm_5, pkm_6⟩, pkm_0f, pkm_1f, pkm_2f, pkm_3f, pkm_4f, pkm_5f, pkm_6f⟩ := km.seven
          obtain ⟨⟨pkr_0, pkr_1, pkr_2, pkr_3, pkr_4, pkr_5, pkr_6⟩, pkr_0f, pkr_1f, pkr_2f, pkr_3f, pkr_4f, pkr_5f, pkr_6f⟩ := kr.seven
          go_wp2_with fail
          exact bodyPost_ret (v := .tuple #[.agg #[.int .i64 I, .int .i64 N, .int .i64 set, .int .i64 A', .int .i64 F, .int .i64 0, .int .i64 0], .int .i64 0]) (by simp [results, Try.results22, go_sem, pkr_0, pkr_1, pkr_2, pkr_3, pkr_4, pkr_5, pkr_6]) rfl ⟨rfl, by repeat (first | refine Below.setCell ?_ (by simp) _ | exact bc)⟩
      · rw [if_neg c3]
        obtain rfl : G = 0 := by omega
        clear hG HB HF c1 c2 c3
        obtain ⟨km, kr, bc⟩ := bx2 w #[.int .i64 I, .int .i64 N, .int .i64 S, .int .i64 A, .int .i64 F, .int .i64 0, .int .i64 R] #[.int .i64 0, .int .i64 0, .int .i64 0, .int .i64 0, .int .i64 0, .int .i64 0, .int .i64 0] 23 23
        go_enter Try.func22, Try.ntmps22
        go_wp2_with fail
        generalize (w.alloc (.cells #[.int .i64 I, .int .i64 N, .int .i64 S, .int .i64 A, .int .i64 F, .int .i64 0, .int .i64 R] 23)).alloc (.cells #[.int .i64 0, .int .i64 0, .int .i64 0, .int .i64 0, .int .i64 0, .int .i64 0, .int .i64 0] 23) = u1 at *
        refine (HCK.out _).mono ?_
        rintro e w1 ⟨rfl, hC⟩
        dsimp only
        replace km := km.on hC; replace kr := kr.on hC; replace bc := bc.trans (hC.mono bc.size); clear hC
        obtain ⟨⟨pkm_0, pkm_1, pkm_2, pkm_3, pkm_4, pkm_5, pkm_6⟩, pkm_0f, pkm_1f, pkm_2f, pkm_3f, pkm_4f, pkm_5f, pkm_6f⟩ := km.seven
        obtain ⟨⟨pkr_0, pkr_1, pkr_2, pkr_3, pkr_4, pkr_5, pkr_6⟩, pkr_0f, pkr_1f, pkr_2f, pkr_3f, pkr_4f, pkr_5f, pkr_6f⟩ := kr.seven
        go_wp2_with fail
        clear pkm_0 pkm_1 pkm_2 pkm_3 pkm_4 pkm_5 pkm_6 pkm_0f pkm_1f pkm_2f pkm_3f pkm_4f pkm_5f pkm_6f pkr_0 pkr_1 pkr_2 pkr_3 pkr_4 pkr_5 pkr_6 pkr_0f pkr_1f pkr_2f pkr_3f pkr_4f pkr_5f pkr_6f
        refine (HV.out _).mono ?_
        rintro e w2 ⟨rfl, hC⟩
        dsimp only
        replace km := km.on hC; replace kr := kr.on hC; replace bc := bc.trans (hC.mono bc.size); clear hC
        obtain ⟨⟨pkm_0, pkm_1, pkm_2, pkm_3, pkm_4, pkm_5, pkm_6⟩, pkm_0f, pkm_1f, pkm_2f, pkm_3f, pkm_4f, pkm_5f, pkm_6f⟩ := km.seven
        obtain ⟨⟨pkr_0, pkr_1, pkr_2, pkr_3, pkr_4, pkr_5, pkr_6⟩, pkr_0f, pkr_1f, pkr_2f, pkr_3f, pkr_4f, pkr_5f, pkr_6f⟩ := kr.seven
        have hG := st1_2 w2 (w.heap.size) (.int .i64 set)
        replace kr := kr.grown hG (some_ne (by omega)); replace bc := Below.off bc bc.size (by omega) hG; replace km := km.put1_2 (.int .i64 set); clear hG
        go_wp2_with fail
        clear pkm_0 pkm_1 pkm_2 pkm_3 pkm_4 pkm_5 pkm_6 pkm_0f pkm_1f pkm_2f pkm_3f pkm_4f pkm_5f pkm_6f pkr_0 pkr_1 pkr_2 pkr_3 pkr_4 pkr_5 pkr_6 pkr_0f pkr_1f pkr_2f pkr_3f pkr_4f pkr_5f pkr_6f
        generalize w2.setCell ⟨w.heap.size, 2, none⟩ (.int .i64 set) = u2 at *
        refine (HA.out _).mono ?_
        rintro e w4 ⟨rfl, hC⟩
        dsimp only
        replace km := km.on hC; replace kr := kr.on hC; replace bc := bc.trans (hC.mono bc.size); clear hC
        obtain ⟨⟨pkm_0, pkm_1, pkm_2, pkm_3, pkm_4, pkm_5, pkm_6⟩, pkm_0f, pkm_1f, pkm_2f, pkm_3f, pkm_4f, pkm_5f, pkm_6f⟩ := km.seven
        obtain ⟨⟨pkr_0, pkr_1, pkr_2, pkr_3, pkr_4, pkr_5, pkr_6⟩, pkr_0f, pkr_1f, pkr_2f, pkr_3f, pkr_4f, pkr_5f, pkr_6f⟩ := kr.seven
        go_wp2_with fail
        exact bodyPost_ret (v := .tuple #[.agg #[.int .i64 I, .int .i64 N, .int .i64 set, .int .i64 A', .int .i64 F, .int .i64 0, .int .i64 R], .int .i64 0]) (by simp [results, Try.results22, go_sem, pkr_0, pkr_1, pkr_2, pkr_3, pkr_4, pkr_5, pkr_6]) rfl ⟨rfl, by repeat (first | refine Below.setCell ?_ (by simp) _ | exact bc)⟩
  · rw [if_neg hask]
    have e0 : (askV m s != 0) = true := by simpa using hask
    clear hask hvo
    generalize askV m s = r at *
    obtain ⟨I, N, S, A, F, G, R⟩ := m
    unfold zeroV MV.cells at *
    dsimp only at *
    have HCK := Lib.hid hck; clear hck
    obtain ⟨km, kr, bc⟩ := bx2 w #[.int .i64 I, .int .i64 N, .int .i64 S, .int .i64 A, .int .i64 F, .int .i64 G, .int .i64 R] #[.int .i64 0, .int .i64 0, .int .i64 0, .int .i64 0, .int .i64 0, .int .i64 0, .int .i64 0] 23 23
    go_enter Try.func22, Try.ntmps22
    go_wp2_with fail
    generalize (w.alloc (.cells #[.int .i64 I, .int .i64 N, .int .i64 S, .int .i64 A, .int .i64 F, .int .i64 G, .int .i64 R] 23)).alloc (.cells #[.int .i64 0, .int .i64 0, .int .i64 0, .int .i64 0, .int .i64 0, .int .i64 0, .int .i64 0] 23) = u1 at *
    refine (HCK.out _).mono ?_
    rintro e w1 ⟨rfl, hC⟩
    dsimp only
    replace km := km.on hC; replace kr := kr.on hC; replace bc := bc.trans (hC.mono bc.size); clear hC
    obtain ⟨⟨pkm_0, pkm_1, pkm_2, pkm_3, pkm_4, pkm_5, pkm_6⟩, pkm_0f, pkm_1f, pkm_2f, pkm_3f, pkm_4f, pkm_5f, pkm_6f⟩ := km.seven
    obtain ⟨⟨pkr_0, pkr_1, pkr_2, pkr_3, pkr_4, pkr_5, pkr_6⟩, pkr_0f, pkr_1f, pkr_2f, pkr_3f, pkr_4f, pkr_5f, pkr_6f⟩ := kr.seven
    go_wp2
    exact bodyPost_ret (v := .tuple #[.agg #[.int .i64 0, .int .i64 0, .int .i64 0, .int .i64 0, .int .i64 0, .int .i64 0, .int .i64 0], .int .i64 r]) (by simp [results, Try.results22, go_sem, pkr_0, pkr_1, pkr_2, pkr_3, pkr_4, pkr_5, pkr_6]) rfl ⟨rfl, by repeat (first | refine Below.setCell ?_ (by simp) _ | exact bc)⟩
set_option maxRecDepth 8000 in
set_option maxHeartbeats 4000000 in
theorem vnull_any (m : MV) (s : Int) (w : World) : Calls Try.prog 26 #[.agg m.cells, .int .i64 s] w (ResV w (nullV m s)) := by
  have hck := fun W => checkOther_any m s W
  unfold nullV ResV
  by_cases hask : askV m s = 0
  · rw [if_pos hask]
    rw [hask] at hck
    obtain ⟨hok, hoth⟩ := ask_zero hask
    have hbs := fun W => vbit_any s W hoth.1.1 (by have := ok_node hok; have := hoth.1.2; omega)
    clear hok hoth hask
    unfold goneV
    obtain ⟨I, N, S, A, F, G, R⟩ := m
    unfold outI MV.cells at *
    dsimp only at *
    have HCK := Lib.hid hck; have HB := Lib.hid hbs; clear hck hbs
    by_cases c1 : G = 2 ∧ s = R
    · rw [if_pos c1]
      obtain ⟨rfl, rfl⟩ := c1
      obtain ⟨km, kr, bc⟩ := bx2 w #[.int .i64 I, .int .i64 N, .int .i64 S, .int .i64 A, .int .i64 F, .int .i64 2, .int .i64 s] #[.int .i64 0, .int .i64 0, .int .i64 0, .int .i64 0, .int .i64 0, .int .i64 0, .int .i64 0] 23 23
      go_enter Try.func26, Try.ntmps26
      go_wp2_with fail
      generalize (w.alloc (.cells #[.int .i64 I, .int .i64 N, .int .i64 S, .int .i64 A, .int .i64 F, .int .i64 2, .int .i64 s] 23)).alloc (.cells #[.int .i64 0, .int .i64 0, .int .i64 0, .int .i64 0, .int .i64 0, .int .i64 0, .int .i64 0] 23) = u1 at *
      refine (HCK.out _).mono ?_
      rintro e w1 ⟨rfl, hC⟩
      dsimp only
      replace km := km.on hC; replace kr := kr.on hC; replace bc := bc.trans (hC.mono bc.size); clear hC
      obtain ⟨⟨pkm_0, pkm_1, pkm_2, pkm_3, pkm_4, pkm_5, pkm_6⟩, pkm_0f, pkm_1f, pkm_2f, pkm_3f, pkm_4f, pkm_5f, pkm_6f⟩ := km.seven
      obtain ⟨⟨pkr_0, pkr_1, pkr_2, pkr_3, pkr_4, pkr_5, pkr_6⟩, pkr_0f, pkr_1f, pkr_2f, pkr_3f, pkr_4f, pkr_5f, pkr_6f⟩ := kr.seven
      go_wp2_with fail
      clear pkm_0 pkm_1 pkm_2 pkm_3 pkm_4 pkm_5 pkm_6 pkm_0f pkm_1f pkm_2f pkm_3f pkm_4f pkm_5f pkm_6f pkr_0 pkr_1 pkr_2 pkr_3 pkr_4 pkr_5 pkr_6 pkr_0f pkr_1f pkr_2f pkr_3f pkr_4f pkr_5f pkr_6f
      obtain ⟨⟨pkm_0, pkm_1, pkm_2, pkm_3, pkm_4, pkm_5, pkm_6⟩, pkm_0f, pkm_1f, pkm_2f, pkm_3f, pkm_4f, pkm_5f, pkm_6f⟩ := km.seven
      obtain ⟨⟨pkr_0, pkr_1, pkr_2, pkr_3, pkr_4, pkr_5, pkr_6⟩, pkr_0f, pkr_1f, pkr_2f, pkr_3f, pkr_4f, pkr_5f, pkr_6f⟩ := kr.seven
      go_region_law ((go_simp; go_at_call 37; with_reducible refine (HB.out _).mono ?_; rintro e w2 ⟨rfl, rfl⟩))
      all_goals
        clear pkm_0 pkm_1 pkm_2 pkm_3 pkm_4 pkm_5 pkm_6 pkm_0f pkm_1f pkm_2f pkm_3f pkm_4f pkm_5f pkm_6f pkr_0 pkr_1 pkr_2 pkr_3 pkr_4 pkr_5 pkr_6 pkr_0f pkr_1f pkr_2f pkr_3f pkr_4f pkr_5f pkr_6f
        have hG := st1_2 w1 (w.heap.size) (.int .i64 (bits .andNot .i64 S (pw s)))
        replace kr := kr.grown hG (some_ne (by omega)); replace bc := Below.off bc bc.size (by omega) hG; replace km := km.put1_2 (.int .i64 (bits .andNot .i64 S (pw s))); clear hG
        generalize w1.setCell ⟨w.heap.size, 2, none⟩ (.int .i64 (bits .andNot .i64 S (pw s))) = us at *
        have hdr : Below us.heap.size us us.drew := (Below.refl _ _).drew
        replace km := km.on hdr; replace kr := kr.on hdr; replace bc := bc.trans (hdr.mono bc.size)
        clear hdr
        generalize us.drew = ut at *
        obtain ⟨⟨pkm_0, pkm_1, pkm_2, pkm_3, pkm_4, pkm_5, pkm_6⟩, pkm_0f, pkm_1f, pkm_2f, pkm_3f, pkm_4f, pkm_5f, pkm_6f⟩ := km.seven
        obtain ⟨⟨pkr_0, pkr_1, pkr_2, pkr_3, pkr_4, pkr_5, pkr_6⟩, pkr_0f, pkr_1f, pkr_2f, pkr_3f, pkr_4f, pkr_5f, pkr_6f⟩ := kr.seven
        go_wp2_with fail
        exact bodyPost_ret (v := .tuple #[.agg #[.int .i64 I, .int .i64 N, .int .i64 (bits .andNot .i64 S (pw s)), .int .i64 A, .int .i64 F, .int .i64 1, .int .i64 0], .int .i64 0]) (by simp [results, Try.results26, go_sem, pkr_0, pkr_1, pkr_2, pkr_3, pkr_4, pkr_5, pkr_6]) rfl ⟨rfl, by repeat (first | refine Below.setCell ?_ (by simp) _ | exact bc)⟩
    · rw [if_neg c1]
      by_cases c2 : G = 2
      · subst c2
        have d1 : (s == R) = false := by simp; omega
        clear c1
        obtain ⟨km, kr, bc⟩ := bx2 w #[.int .i64 I, .int .i64 N, .int .i64 S, .int .i64 A, .int .i64 F, .int .i64 2, .int .i64 R] #[.int .i64 0, .int .i64 0, .int .i64 0, .int .i64 0, .int .i64 0, .int .i64 0, .int .i64 0] 23 23
        go_enter Try.func26, Try.ntmps26
        go_wp2_with fail
        generalize (w.alloc (.cells #[.int .i64 I, .int .i64 N, .int .i64 S, .int .i64 A, .int .i64 F, .int .i64 2, .int .i64 R] 23)).alloc (.cells #[.int .i64 0, .int .i64 0, .int .i64 0, .int .i64 0, .int .i64 0, .int .i64 0, .int .i64 0] 23) = u1 at *
        refine (HCK.out _).mono ?_
        rintro e w1 ⟨rfl, hC⟩
        dsimp only
        replace km := km.on hC; replace kr := kr.on hC; replace bc := bc.trans (hC.mono bc.size); clear hC
        obtain ⟨⟨pkm_0, pkm_1, pkm_2, pkm_3, pkm_4, pkm_5, pkm_6⟩, pkm_0f, pkm_1f, pkm_2f, pkm_3f, pkm_4f, pkm_5f, pkm_6f⟩ := km.seven
        obtain ⟨⟨pkr_0, pkr_1, pkr_2, pkr_3, pkr_4, pkr_5, pkr_6⟩, pkr_0f, pkr_1f, pkr_2f, pkr_3f, pkr_4f, pkr_5f, pkr_6f⟩ := kr.seven
        go_wp2_with fail
        clear pkm_0 pkm_1 pkm_2 pkm_3 pkm_4 pkm_5 pkm_6 pkm_0f pkm_1f pkm_2f pkm_3f pkm_4f pkm_5f pkm_6f pkr_0 pkr_1 pkr_2 pkr_3 pkr_4 pkr_5 pkr_6 pkr_0f pkr_1f pkr_2f pkr_3f pkr_4f pkr_5f pkr_6f
        obtain ⟨⟨pkm_0, pkm_1, pkm_2, pkm_3, pkm_4, pkm_5, pkm_6⟩, pkm_0f, pkm_1f, pkm_2f, pkm_3f, pkm_4f, pkm_5f, pkm_6f⟩ := km.seven
        obtain ⟨⟨pkr_0, pkr_1, pkr_2, pkr_3, pkr_4, pkr_5, pkr_6⟩, pkr_0f, pkr_1f, pkr_2f, pkr_3f, pkr_4f, pkr_5f, pkr_6f⟩ := kr.seven
        go_region_law ((go_simp; go_at_call 37; with_reducible refine (HB.out _).mono ?_; rintro e w2 ⟨rfl, rfl⟩))
        all_goals
          clear pkm_0 pkm_1 pkm_2 pkm_3 pkm_4 pkm_5 pkm_6 pkm_0f pkm_1f pkm_2f pkm_3f pkm_4f pkm_5f pkm_6f pkr_0 pkr_1 pkr_2 pkr_3 pkr_4 pkr_5 pkr_6 pkr_0f pkr_1f pkr_2f pkr_3f pkr_4f pkr_5f pkr_6f
          have hG := st1_2 w1 (w.heap.size) (.int .i64 (bits .andNot .i64 S (pw s)))
          replace kr := kr.grown hG (some_ne (by omega)); replace bc := Below.off bc bc.size (by omega) hG; replace km := km.put1_2 (.int .i64 (bits .andNot .i64 S (pw s))); clear hG
          generalize w1.setCell ⟨w.heap.size, 2, none⟩ (.int .i64 (bits .andNot .i64 S (pw s))) = us at *
          have hdr : Below us.heap.size us us.drew := (Below.refl _ _).drew
          replace km := km.on hdr; replace kr := kr.on hdr; replace bc := bc.trans (hdr.mono bc.size)
          clear hdr
          generalize us.drew = ut at *
          obtain ⟨⟨pkm_0, pkm_1, pkm_2, pkm_3, pkm_4, pkm_5, pkm_6⟩, pkm_0f, pkm_1f, pkm_2f, pkm_3f, pkm_4f, pkm_5f, pkm_6f⟩ := km.seven
          obtain ⟨⟨pkr_0, pkr_1, pkr_2, pkr_3, pkr_4, pkr_5, pkr_6⟩, pkr_0f, pkr_1f, pkr_2f, pkr_3f, pkr_4f, pkr_5f, pkr_6f⟩ := kr.seven
          go_wp2_with fail
          exact bodyPost_ret (v := .tuple #[.agg #[.int .i64 I, .int .i64 N, .int .i64 (bits .andNot .i64 S (pw s)), .int .i64 A, .int .i64 F, .int .i64 2, .int .i64 R], .int .i64 0]) (by simp [results, Try.results26, go_sem, pkr_0, pkr_1, pkr_2, pkr_3, pkr_4, pkr_5, pkr_6]) rfl ⟨rfl, by repeat (first | refine Below.setCell ?_ (by simp) _ | exact bc)⟩
      · have d1 : (G == 2) = false := by simpa using c2
        clear c1 c2
        obtain ⟨km, kr, bc⟩ := bx2 w #[.int .i64 I, .int .i64 N, .int .i64 S, .int .i64 A, .int .i64 F, .int .i64 G, .int .i64 R] #[.int .i64 0, .int .i64 0, .int .i64 0, .int .i64 0, .int .i64 0, .int .i64 0, .int .i64 0] 23 23
        go_enter Try.func26, Try.ntmps26
        go_wp2_with fail
        generalize (w.alloc (.cells #[.int .i64 I, .int .i64 N, .int .i64 S, .int .i64 A, .int .i64 F, .int .i64 G, .int .i64 R] 23)).alloc (.cells #[.int .i64 0, .int .i64 0, .int .i64 0, .int .i64 0, .int .i64 0, .int .i64 0, .int .i64 0] 23) = u1 at *
        refine (HCK.out _).mono ?_
        rintro e w1 ⟨rfl, hC⟩
        dsimp only
        replace km := km.on hC; replace kr := kr.on hC; replace bc := bc.trans (hC.mono bc.size); clear hC
        obtain ⟨⟨pkm_0, pkm_1, pkm_2, pkm_3, pkm_4, pkm_5, pkm_6⟩, pkm_0f, pkm_1f, pkm_2f, pkm_3f, pkm_4f, pkm_5f, pkm_6f⟩ := km.seven
        obtain ⟨⟨pkr_0, pkr_1, pkr_2, pkr_3, pkr_4, pkr_5, pkr_6⟩, pkr_0f, pkr_1f, pkr_2f, pkr_3f, pkr_4f, pkr_5f, pkr_6f⟩ := kr.seven
        go_wp2_with fail
        clear pkm_0 pkm_1 pkm_2 pkm_3 pkm_4 pkm_5 pkm_6 pkm_0f pkm_1f pkm_2f pkm_3f pkm_4f pkm_5f pkm_6f pkr_0 pkr_1 pkr_2 pkr_3 pkr_4 pkr_5 pkr_6 pkr_0f pkr_1f pkr_2f pkr_3f pkr_4f pkr_5f pkr_6f
        obtain ⟨⟨pkm_0, pkm_1, pkm_2, pkm_3, pkm_4, pkm_5, pkm_6⟩, pkm_0f, pkm_1f, pkm_2f, pkm_3f, pkm_4f, pkm_5f, pkm_6f⟩ := km.seven
        obtain ⟨⟨pkr_0, pkr_1, pkr_2, pkr_3, pkr_4, pkr_5, pkr_6⟩, pkr_0f, pkr_1f, pkr_2f, pkr_3f, pkr_4f, pkr_5f, pkr_6f⟩ := kr.seven
        go_region_law ((go_simp; go_at_call 37; with_reducible refine (HB.out _).mono ?_; rintro e w2 ⟨rfl, rfl⟩))
        all_goals
          clear pkm_0 pkm_1 pkm_2 pkm_3 pkm_4 pkm_5 pkm_6 pkm_0f pkm_1f pkm_2f pkm_3f pkm_4f pkm_5f pkm_6f pkr_0 pkr_1 pkr_2 pkr_3 pkr_4 pkr_5 pkr_6 pkr_0f pkr_1f pkr_2f pkr_3f pkr_4f pkr_5f pkr_6f
          have hG := st1_2 w1 (w.heap.size) (.int .i64 (bits .andNot .i64 S (pw s)))
          replace kr := kr.grown hG (some_ne (by omega)); replace bc := Below.off bc bc.size (by omega) hG; replace km := km.put1_2 (.int .i64 (bits .andNot .i64 S (pw s))); clear hG
          generalize w1.setCell ⟨w.heap.size, 2, none⟩ (.int .i64 (bits .andNot .i64 S (pw s))) = us at *
          have hdr : Below us.heap.size us us.drew := (Below.refl _ _).drew
          replace km := km.on hdr; replace kr := kr.on hdr; replace bc := bc.trans (hdr.mono bc.size)
          clear hdr
          generalize us.drew = ut at *
          obtain ⟨⟨pkm_0, pkm_1, pkm_2, pkm_3, pkm_4, pkm_5, pkm_6⟩, pkm_0f, pkm_1f, pkm_2f, pkm_3f, pkm_4f, pkm_5f, pkm_6f⟩ := km.seven
          obtain ⟨⟨pkr_0, pkr_1, pkr_2, pkr_3, pkr_4, pkr_5, pkr_6⟩, pkr_0f, pkr_1f, pkr_2f, pkr_3f, pkr_4f, pkr_5f, pkr_6f⟩ := kr.seven
          go_wp2_with fail
          exact bodyPost_ret (v := .tuple #[.agg #[.int .i64 I, .int .i64 N, .int .i64 (bits .andNot .i64 S (pw s)), .int .i64 A, .int .i64 F, .int .i64 G, .int .i64 R], .int .i64 0]) (by simp [results, Try.results26, go_sem, pkr_0, pkr_1, pkr_2, pkr_3, pkr_4, pkr_5, pkr_6]) rfl ⟨rfl, by repeat (first | refine Below.setCell ?_ (by simp) _ | exact bc)⟩
  · rw [if_neg hask]
    have e0 : (askV m s != 0) = true := by simpa using hask
    clear hask
    generalize askV m s = r at *
    obtain ⟨I, N, S, A, F, G, R⟩ := m
    unfold zeroV MV.cells at *
    dsimp only at *
    have HCK := Lib.hid hck; clear hck
    obtain ⟨km, kr, bc⟩ := bx2 w #[.int .i64 I, .int .i64 N, .int .i64 S, .int .i64 A, .int .i64 F, .int .i64 G, .int .i64 R] #[.int .i64 0, .int .i64 0, .int .i64 0, .int .i64 0, .int .i64 0, .int .i64 0, .int .i64 0] 23 23
    go_enter Try.func26, Try.ntmps26
    go_wp2_with fail
    generalize (w.alloc (.cells #[.int .i64 I, .int .i64 N, .int .i64 S, .int .i64 A, .int .i64 F, .int .i64 G, .int .i64 R] 23)).alloc (.cells #[.int .i64 0, .int .i64 0, .int .i64 0, .int .i64 0, .int .i64 0, .int .i64 0, .int .i64 0] 23) = u1 at *
    refine (HCK.out _).mono ?_
    rintro e w1 ⟨rfl, hC⟩
    dsimp only
    replace km := km.on hC; replace kr := kr.on hC; replace bc := bc.trans (hC.mono bc.size); clear hC
    obtain ⟨⟨pkm_0, pkm_1, pkm_2, pkm_3, pkm_4, pkm_5, pkm_6⟩, pkm_0f, pkm_1f, pkm_2f, pkm_3f, pkm_4f, pkm_5f, pkm_6f⟩ := km.seven
    obtain ⟨⟨pkr_0, pkr_1, pkr_2, pkr_3, pkr_4, pkr_5, pkr_6⟩, pkr_0f, pkr_1f, pkr_2f, pkr_3f, pkr_4f, pkr_5f, pkr_6f⟩ := kr.seven
    go_wp2
    exact bodyPost_ret (v := .tuple #[.agg #[.int .i64 0, .int .i64 0, .int .i64 0, .int .i64 0, .int .i64 0, .int .i64 0, .int .i64 0], .int .i64 r]) (by simp [results, Try.results26, go_sem, pkr_0, pkr_1, pkr_2, pkr_3, pkr_4, pkr_5, pkr_6]) rfl ⟨rfl, by repeat (first | refine Below.setCell ?_ (by simp) _ | exact bc)⟩
end Go.Proofs.Ytffbhdllepjdeaa
