/-
  Own and Join of package member, and the document's: what a node does in its own slot. No condition.
-/
import Derived.Test.YtffbhdllepjdeaaVF
namespace Go.Proofs.Ytffbhdllepjdeaa
open Go.RowKit

/-- What a call answers: an error's number, what is done, a view. -/
def ResO (w : World) (r : Int × Int × MV) (e : Ending) (w' : World) : Prop := e = .returned (.tuple #[.agg r.2.2.cells, .int .i64 r.2.1, .int .i64 r.1]) ∧ Below w.heap.size w w'

set_option maxRecDepth 8000 in
set_option maxHeartbeats 4000000 in
theorem vown_any (m : MV) (w : World) : Calls Try.prog 28 #[.agg m.cells] w (ResO w (ownV m)) := by
  have hck := fun W => vcheck_any m W
  unfold ownV ResO
  by_cases hok : okV m
  · rw [chkV_ok hok] at hck
    rw [if_pos hok]
    have hb := fun W => vbit_any m.I W hok.2.1.1 (by have := ok_node hok; omega)
    clear hok
    obtain ⟨I, N, S, A, F, G, R⟩ := m
    unfold sentV orI MV.cells at *
    dsimp only at *
    have HCK := Lib.hid hck; have HB := Lib.hid hb; clear hck hb
    by_cases hl : A ≤ F
    · rw [if_pos hl]
      have dl : decide (A ≤ F) = true := by simpa using hl
      clear HB
      obtain ⟨km, kr, bc⟩ := bx2 w #[.int .i64 I, .int .i64 N, .int .i64 S, .int .i64 A, .int .i64 F, .int .i64 G, .int .i64 R] #[.int .i64 0, .int .i64 0, .int .i64 0, .int .i64 0, .int .i64 0, .int .i64 0, .int .i64 0] 23 23
      go_enter Try.func28, Try.ntmps28
      go_wp2_with fail
      generalize (w.alloc (.cells #[.int .i64 I, .int .i64 N, .int .i64 S, .int .i64 A, .int .i64 F, .int .i64 G, .int .i64 R] 23)).alloc (.cells #[.int .i64 0, .int .i64 0, .int .i64 0, .int .i64 0, .int .i64 0, .int .i64 0, .int .i64 0] 23) = u1 at *
      refine (HCK.out _).mono ?_
      rintro e w1 ⟨rfl, hC⟩
      dsimp only
      replace km := km.on hC; replace kr := kr.on hC; replace bc := bc.trans (hC.mono bc.size); clear hC
      obtain ⟨⟨pkm_0, pkm_1, pkm_2, pkm_3, pkm_4, pkm_5, pkm_6⟩, pkm_0f, pkm_1f, pkm_2f, pkm_3f, pkm_4f, pkm_5f, pkm_6f⟩ := km.seven
      obtain ⟨⟨pkr_0, pkr_1, pkr_2, pkr_3, pkr_4, pkr_5, pkr_6⟩, pkr_0f, pkr_1f, pkr_2f, pkr_3f, pkr_4f, pkr_5f, pkr_6f⟩ := kr.seven
      go_wp2
      exact bodyPost_ret (v := .tuple #[.agg #[.int .i64 I, .int .i64 N, .int .i64 S, .int .i64 A, .int .i64 F, .int .i64 G, .int .i64 R], .int .i64 2, .int .i64 0]) (by simp [results, Try.results28, go_sem, pkr_0, pkr_1, pkr_2, pkr_3, pkr_4, pkr_5, pkr_6]) rfl ⟨rfl, by repeat (first | refine Below.setCell ?_ (by simp) _ | exact bc)⟩
    · rw [if_neg hl]
      have dl : decide (A ≤ F) = false := by simpa using hl
      obtain ⟨km, kr, bc⟩ := bx2 w #[.int .i64 I, .int .i64 N, .int .i64 S, .int .i64 A, .int .i64 F, .int .i64 G, .int .i64 R] #[.int .i64 0, .int .i64 0, .int .i64 0, .int .i64 0, .int .i64 0, .int .i64 0, .int .i64 0] 23 23
      go_enter Try.func28, Try.ntmps28
      go_wp2_with fail
      generalize (w.alloc (.cells #[.int .i64 I, .int .i64 N, .int .i64 S, .int .i64 A, .int .i64 F, .int .i64 G, .int .i64 R] 23)).alloc (.cells #[.int .i64 0, .int .i64 0, .int .i64 0, .int .i64 0, .int .i64 0, .int .i64 0, .int .i64 0] 23) = u1 at *
      refine (HCK.out _).mono ?_
      rintro e w1 ⟨rfl, hC⟩
      dsimp only
      replace km := km.on hC; replace kr := kr.on hC; replace bc := bc.trans (hC.mono bc.size); clear hC
      obtain ⟨⟨pkm_0, pkm_1, pkm_2, pkm_3, pkm_4, pkm_5, pkm_6⟩, pkm_0f, pkm_1f, pkm_2f, pkm_3f, pkm_4f, pkm_5f, pkm_6f⟩ := km.seven
      obtain ⟨⟨pkr_0, pkr_1, pkr_2, pkr_3, pkr_4, pkr_5, pkr_6⟩, pkr_0f, pkr_1f, pkr_2f, pkr_3f, pkr_4f, pkr_5f, pkr_6f⟩ := kr.seven
      go_wp2_with fail
      go_region_law ((go_simp; go_at_call 37; with_reducible refine (HB.out _).mono ?_; rintro e w2 ⟨rfl, rfl⟩))
      all_goals
        clear pkm_0 pkm_1 pkm_2 pkm_3 pkm_4 pkm_5 pkm_6 pkm_0f pkm_1f pkm_2f pkm_3f pkm_4f pkm_5f pkm_6f pkr_0 pkr_1 pkr_2 pkr_3 pkr_4 pkr_5 pkr_6 pkr_0f pkr_1f pkr_2f pkr_3f pkr_4f pkr_5f pkr_6f
        have hG := st1_2 w1 (w.heap.size) (.int .i64 (bits .or .i64 S (pw I)))
        replace kr := kr.grown hG (some_ne (by omega)); replace bc := Below.off bc bc.size (by omega) hG; replace km := km.put1_2 (.int .i64 (bits .or .i64 S (pw I))); clear hG
        generalize w1.setCell ⟨w.heap.size, 2, none⟩ (.int .i64 (bits .or .i64 S (pw I))) = us at *
        have hdr : Below us.heap.size us us.drew := (Below.refl _ _).drew
        replace km := km.on hdr; replace kr := kr.on hdr; replace bc := bc.trans (hdr.mono bc.size)
        clear hdr
        generalize us.drew = ut at *
        obtain ⟨⟨pkm_0, pkm_1, pkm_2, pkm_3, pkm_4, pkm_5, pkm_6⟩, pkm_0f, pkm_1f, pkm_2f, pkm_3f, pkm_4f, pkm_5f, pkm_6f⟩ := km.seven
        obtain ⟨⟨pkr_0, pkr_1, pkr_2, pkr_3, pkr_4, pkr_5, pkr_6⟩, pkr_0f, pkr_1f, pkr_2f, pkr_3f, pkr_4f, pkr_5f, pkr_6f⟩ := kr.seven
        go_wp2_with fail
        exact bodyPost_ret (v := .tuple #[.agg #[.int .i64 I, .int .i64 N, .int .i64 (bits .or .i64 S (pw I)), .int .i64 1, .int .i64 0, .int .i64 1, .int .i64 0], .int .i64 1, .int .i64 0]) (by simp [results, Try.results28, go_sem, pkr_0, pkr_1, pkr_2, pkr_3, pkr_4, pkr_5, pkr_6]) rfl ⟨rfl, by repeat (first | refine Below.setCell ?_ (by simp) _ | exact bc)⟩
  · rw [chkV_no hok] at hck
    rw [if_neg hok]
    clear hok
    obtain ⟨I, N, S, A, F, G, R⟩ := m
    unfold zeroV MV.cells at *
    dsimp only at *
    have HCK := Lib.hid hck; clear hck
    obtain ⟨km, kr, bc⟩ := bx2 w #[.int .i64 I, .int .i64 N, .int .i64 S, .int .i64 A, .int .i64 F, .int .i64 G, .int .i64 R] #[.int .i64 0, .int .i64 0, .int .i64 0, .int .i64 0, .int .i64 0, .int .i64 0, .int .i64 0] 23 23
    go_enter Try.func28, Try.ntmps28
    go_wp2_with fail
    generalize (w.alloc (.cells #[.int .i64 I, .int .i64 N, .int .i64 S, .int .i64 A, .int .i64 F, .int .i64 G, .int .i64 R] 23)).alloc (.cells #[.int .i64 0, .int .i64 0, .int .i64 0, .int .i64 0, .int .i64 0, .int .i64 0, .int .i64 0] 23) = u1 at *
    refine (HCK.out _).mono ?_
    rintro e w1 ⟨rfl, hC⟩
    dsimp only
    replace km := km.on hC; replace kr := kr.on hC; replace bc := bc.trans (hC.mono bc.size); clear hC
    obtain ⟨⟨pkm_0, pkm_1, pkm_2, pkm_3, pkm_4, pkm_5, pkm_6⟩, pkm_0f, pkm_1f, pkm_2f, pkm_3f, pkm_4f, pkm_5f, pkm_6f⟩ := km.seven
    obtain ⟨⟨pkr_0, pkr_1, pkr_2, pkr_3, pkr_4, pkr_5, pkr_6⟩, pkr_0f, pkr_1f, pkr_2f, pkr_3f, pkr_4f, pkr_5f, pkr_6f⟩ := kr.seven
    go_wp2
    exact bodyPost_ret (v := .tuple #[.agg #[.int .i64 0, .int .i64 0, .int .i64 0, .int .i64 0, .int .i64 0, .int .i64 0, .int .i64 0], .int .i64 0, .int .i64 90]) (by simp [results, Try.results28, go_sem, pkr_0, pkr_1, pkr_2, pkr_3, pkr_4, pkr_5, pkr_6]) rfl ⟨rfl, by repeat (first | refine Below.setCell ?_ (by simp) _ | exact bc)⟩
set_option maxRecDepth 8000 in
set_option maxHeartbeats 4000000 in
theorem rsends_any (m : MV) (w : World) (h0 : 0 ≤ m.I) (h1 : m.I ≤ 8) : Calls Try.prog 47 #[.agg m.cells] w fun e w' => e = .returned (.agg (sentV m).cells) ∧ Below w.heap.size w w' := by
  have hb := fun W => rvbit_any m.I W h0 h1
  clear h0 h1
  obtain ⟨I, N, S, A, F, G, R⟩ := m
  unfold sentV orI MV.cells at *
  dsimp only at *
  have HB := Lib.hid hb; clear hb
  obtain ⟨km, kr, bc⟩ := bx2 w #[.int .i64 I, .int .i64 N, .int .i64 S, .int .i64 A, .int .i64 F, .int .i64 G, .int .i64 R] #[.int .i64 0, .int .i64 0, .int .i64 0, .int .i64 0, .int .i64 0, .int .i64 0, .int .i64 0] 23 23
  go_enter Try.func47, Try.ntmps47
  go_wp2_with fail
  generalize (w.alloc (.cells #[.int .i64 I, .int .i64 N, .int .i64 S, .int .i64 A, .int .i64 F, .int .i64 G, .int .i64 R] 23)).alloc (.cells #[.int .i64 0, .int .i64 0, .int .i64 0, .int .i64 0, .int .i64 0, .int .i64 0, .int .i64 0] 23) = u1 at *
  obtain ⟨⟨pkm_0, pkm_1, pkm_2, pkm_3, pkm_4, pkm_5, pkm_6⟩, pkm_0f, pkm_1f, pkm_2f, pkm_3f, pkm_4f, pkm_5f, pkm_6f⟩ := km.seven
  obtain ⟨⟨pkr_0, pkr_1, pkr_2, pkr_3, pkr_4, pkr_5, pkr_6⟩, pkr_0f, pkr_1f, pkr_2f, pkr_3f, pkr_4f, pkr_5f, pkr_6f⟩ := kr.seven
  go_region_law ((go_simp; go_at_call 34; with_reducible refine (HB.out _).mono ?_; rintro e w2 ⟨rfl, rfl⟩))
  all_goals
    clear pkm_0 pkm_1 pkm_2 pkm_3 pkm_4 pkm_5 pkm_6 pkm_0f pkm_1f pkm_2f pkm_3f pkm_4f pkm_5f pkm_6f pkr_0 pkr_1 pkr_2 pkr_3 pkr_4 pkr_5 pkr_6 pkr_0f pkr_1f pkr_2f pkr_3f pkr_4f pkr_5f pkr_6f
    have hG := st1_2 u1 (w.heap.size) (.int .i64 (bits .or .i64 S (pw I)))
    replace kr := kr.grown hG (some_ne (by omega)); replace bc := Below.off bc bc.size (by omega) hG; replace km := km.put1_2 (.int .i64 (bits .or .i64 S (pw I))); clear hG
    generalize u1.setCell ⟨w.heap.size, 2, none⟩ (.int .i64 (bits .or .i64 S (pw I))) = us at *
    have hdr : Below us.heap.size us us.drew := (Below.refl _ _).drew
    replace km := km.on hdr; replace kr := kr.on hdr; replace bc := bc.trans (hdr.mono bc.size)
    clear hdr
    generalize us.drew = ut at *
    obtain ⟨⟨pkm_0, pkm_1, pkm_2, pkm_3, pkm_4, pkm_5, pkm_6⟩, pkm_0f, pkm_1f, pkm_2f, pkm_3f, pkm_4f, pkm_5f, pkm_6f⟩ := km.seven
    obtain ⟨⟨pkr_0, pkr_1, pkr_2, pkr_3, pkr_4, pkr_5, pkr_6⟩, pkr_0f, pkr_1f, pkr_2f, pkr_3f, pkr_4f, pkr_5f, pkr_6f⟩ := kr.seven
    go_wp2_with fail
    exact bodyPost_ret (v := .agg #[.int .i64 I, .int .i64 N, .int .i64 (bits .or .i64 S (pw I)), .int .i64 1, .int .i64 0, .int .i64 1, .int .i64 0]) (by simp [results, Try.results47, go_sem, pkr_0, pkr_1, pkr_2, pkr_3, pkr_4, pkr_5, pkr_6]) rfl ⟨rfl, by repeat (first | refine Below.setCell ?_ (by simp) _ | exact bc)⟩
set_option maxRecDepth 8000 in
set_option maxHeartbeats 4000000 in
theorem rvown_any (m : MV) (w : World) : Calls Try.prog 29 #[.agg m.cells] w (ResO w (ownV m)) := by
  have hck := fun W => rvcheck_any m W
  unfold ownV ResO
  by_cases hok : okV m
  · rw [chkV_ok hok] at hck
    rw [if_pos hok]
    have hb := fun W => rsends_any m W hok.2.1.1 (by have := ok_node hok; omega)
    clear hok
    obtain ⟨I, N, S, A, F, G, R⟩ := m
    unfold sentV orI MV.cells at *
    dsimp only at *
    have HCK := Lib.hid hck; have HB := Lib.hid hb; clear hck hb
    by_cases hl : A ≤ F
    · rw [if_pos hl]
      have dl : decide (A ≤ F) = true := by simpa using hl
      clear HB
      obtain ⟨km, kr, bc⟩ := bx2 w #[.int .i64 I, .int .i64 N, .int .i64 S, .int .i64 A, .int .i64 F, .int .i64 G, .int .i64 R] #[.int .i64 0, .int .i64 0, .int .i64 0, .int .i64 0, .int .i64 0, .int .i64 0, .int .i64 0] 23 23
      go_enter Try.func29, Try.ntmps29
      go_wp2_with fail
      generalize (w.alloc (.cells #[.int .i64 I, .int .i64 N, .int .i64 S, .int .i64 A, .int .i64 F, .int .i64 G, .int .i64 R] 23)).alloc (.cells #[.int .i64 0, .int .i64 0, .int .i64 0, .int .i64 0, .int .i64 0, .int .i64 0, .int .i64 0] 23) = u1 at *
      refine (HCK.out _).mono ?_
      rintro e w1 ⟨rfl, hC⟩
      dsimp only
      replace km := km.on hC; replace kr := kr.on hC; replace bc := bc.trans (hC.mono bc.size); clear hC
      obtain ⟨⟨pkm_0, pkm_1, pkm_2, pkm_3, pkm_4, pkm_5, pkm_6⟩, pkm_0f, pkm_1f, pkm_2f, pkm_3f, pkm_4f, pkm_5f, pkm_6f⟩ := km.seven
      obtain ⟨⟨pkr_0, pkr_1, pkr_2, pkr_3, pkr_4, pkr_5, pkr_6⟩, pkr_0f, pkr_1f, pkr_2f, pkr_3f, pkr_4f, pkr_5f, pkr_6f⟩ := kr.seven
      go_wp2
      exact bodyPost_ret (v := .tuple #[.agg #[.int .i64 I, .int .i64 N, .int .i64 S, .int .i64 A, .int .i64 F, .int .i64 G, .int .i64 R], .int .i64 2, .int .i64 0]) (by simp [results, Try.results29, go_sem, pkr_0, pkr_1, pkr_2, pkr_3, pkr_4, pkr_5, pkr_6]) rfl ⟨rfl, by repeat (first | refine Below.setCell ?_ (by simp) _ | exact bc)⟩
    · rw [if_neg hl]
      have dl : decide (A ≤ F) = false := by simpa using hl
      obtain ⟨km, kr, bc⟩ := bx2 w #[.int .i64 I, .int .i64 N, .int .i64 S, .int .i64 A, .int .i64 F, .int .i64 G, .int .i64 R] #[.int .i64 0, .int .i64 0, .int .i64 0, .int .i64 0, .int .i64 0, .int .i64 0, .int .i64 0] 23 23
      go_enter Try.func29, Try.ntmps29
      go_wp2_with fail
      generalize (w.alloc (.cells #[.int .i64 I, .int .i64 N, .int .i64 S, .int .i64 A, .int .i64 F, .int .i64 G, .int .i64 R] 23)).alloc (.cells #[.int .i64 0, .int .i64 0, .int .i64 0, .int .i64 0, .int .i64 0, .int .i64 0, .int .i64 0] 23) = u1 at *
      refine (HCK.out _).mono ?_
      rintro e w1 ⟨rfl, hC⟩
      dsimp only
      replace km := km.on hC; replace kr := kr.on hC; replace bc := bc.trans (hC.mono bc.size); clear hC
      obtain ⟨⟨pkm_0, pkm_1, pkm_2, pkm_3, pkm_4, pkm_5, pkm_6⟩, pkm_0f, pkm_1f, pkm_2f, pkm_3f, pkm_4f, pkm_5f, pkm_6f⟩ := km.seven
      obtain ⟨⟨pkr_0, pkr_1, pkr_2, pkr_3, pkr_4, pkr_5, pkr_6⟩, pkr_0f, pkr_1f, pkr_2f, pkr_3f, pkr_4f, pkr_5f, pkr_6f⟩ := kr.seven
      go_wp2_with fail
      clear pkm_0 pkm_1 pkm_2 pkm_3 pkm_4 pkm_5 pkm_6 pkm_0f pkm_1f pkm_2f pkm_3f pkm_4f pkm_5f pkm_6f pkr_0 pkr_1 pkr_2 pkr_3 pkr_4 pkr_5 pkr_6 pkr_0f pkr_1f pkr_2f pkr_3f pkr_4f pkr_5f pkr_6f
      refine (HB.out _).mono ?_
      rintro e w2 ⟨rfl, hC⟩
      dsimp only
      replace km := km.on hC; replace kr := kr.on hC; replace bc := bc.trans (hC.mono bc.size); clear hC
      obtain ⟨⟨pkr_0, pkr_1, pkr_2, pkr_3, pkr_4, pkr_5, pkr_6⟩, pkr_0f, pkr_1f, pkr_2f, pkr_3f, pkr_4f, pkr_5f, pkr_6f⟩ := kr.seven
      go_wp2
      exact bodyPost_ret (v := .tuple #[.agg #[.int .i64 I, .int .i64 N, .int .i64 (bits .or .i64 S (pw I)), .int .i64 1, .int .i64 0, .int .i64 1, .int .i64 0], .int .i64 1, .int .i64 0]) (by simp [results, Try.results29, go_sem, pkr_0, pkr_1, pkr_2, pkr_3, pkr_4, pkr_5, pkr_6]) rfl ⟨rfl, by repeat (first | refine Below.setCell ?_ (by simp) _ | exact bc)⟩
  · rw [chkV_no hok] at hck
    rw [if_neg hok]
    clear hok
    obtain ⟨I, N, S, A, F, G, R⟩ := m
    unfold zeroV MV.cells at *
    dsimp only at *
    have HCK := Lib.hid hck; clear hck
    obtain ⟨km, kr, bc⟩ := bx2 w #[.int .i64 I, .int .i64 N, .int .i64 S, .int .i64 A, .int .i64 F, .int .i64 G, .int .i64 R] #[.int .i64 0, .int .i64 0, .int .i64 0, .int .i64 0, .int .i64 0, .int .i64 0, .int .i64 0] 23 23
    go_enter Try.func29, Try.ntmps29
    go_wp2_with fail
    generalize (w.alloc (.cells #[.int .i64 I, .int .i64 N, .int .i64 S, .int .i64 A, .int .i64 F, .int .i64 G, .int .i64 R] 23)).alloc (.cells #[.int .i64 0, .int .i64 0, .int .i64 0, .int .i64 0, .int .i64 0, .int .i64 0, .int .i64 0] 23) = u1 at *
    refine (HCK.out _).mono ?_
    rintro e w1 ⟨rfl, hC⟩
    dsimp only
    replace km := km.on hC; replace kr := kr.on hC; replace bc := bc.trans (hC.mono bc.size); clear hC
    obtain ⟨⟨pkm_0, pkm_1, pkm_2, pkm_3, pkm_4, pkm_5, pkm_6⟩, pkm_0f, pkm_1f, pkm_2f, pkm_3f, pkm_4f, pkm_5f, pkm_6f⟩ := km.seven
    obtain ⟨⟨pkr_0, pkr_1, pkr_2, pkr_3, pkr_4, pkr_5, pkr_6⟩, pkr_0f, pkr_1f, pkr_2f, pkr_3f, pkr_4f, pkr_5f, pkr_6f⟩ := kr.seven
    go_wp2
    exact bodyPost_ret (v := .tuple #[.agg #[.int .i64 0, .int .i64 0, .int .i64 0, .int .i64 0, .int .i64 0, .int .i64 0, .int .i64 0], .int .i64 0, .int .i64 90]) (by simp [results, Try.results29, go_sem, pkr_0, pkr_1, pkr_2, pkr_3, pkr_4, pkr_5, pkr_6]) rfl ⟨rfl, by repeat (first | refine Below.setCell ?_ (by simp) _ | exact bc)⟩
set_option maxRecDepth 8000 in
set_option maxHeartbeats 4000000 in
theorem vjoin_any (m : MV) (w : World) : Calls Try.prog 30 #[.agg m.cells] w (ResO w (joinV m)) := by
  have hck := fun W => vcheck_any m W
  have how := fun W => vown_any m W
  unfold joinV ResO at *
  by_cases hok : okV m
  · rw [chkV_ok hok] at hck
    by_cases hq : m.A = 0 ∧ m.F = 0
    · rw [if_pos ⟨hok, hq⟩]
      clear hok how
      obtain ⟨I, N, S, A, F, G, R⟩ := m
      unfold MV.cells at *
      dsimp only at *
      obtain ⟨rfl, rfl⟩ := hq
      have HCK := Lib.hid hck; clear hck
      obtain ⟨km, kr, bc⟩ := bx2 w #[.int .i64 I, .int .i64 N, .int .i64 S, .int .i64 0, .int .i64 0, .int .i64 G, .int .i64 R] #[.int .i64 0, .int .i64 0, .int .i64 0, .int .i64 0, .int .i64 0, .int .i64 0, .int .i64 0] 23 23
      go_enter Try.func30, Try.ntmps30
      go_wp2_with fail
      generalize (w.alloc (.cells #[.int .i64 I, .int .i64 N, .int .i64 S, .int .i64 0, .int .i64 0, .int .i64 G, .int .i64 R] 23)).alloc (.cells #[.int .i64 0, .int .i64 0, .int .i64 0, .int .i64 0, .int .i64 0, .int .i64 0, .int .i64 0] 23) = u1 at *
      refine (HCK.out _).mono ?_
      rintro e w1 ⟨rfl, hC⟩
      dsimp only
      replace km := km.on hC; replace kr := kr.on hC; replace bc := bc.trans (hC.mono bc.size); clear hC
      obtain ⟨⟨pkm_0, pkm_1, pkm_2, pkm_3, pkm_4, pkm_5, pkm_6⟩, pkm_0f, pkm_1f, pkm_2f, pkm_3f, pkm_4f, pkm_5f, pkm_6f⟩ := km.seven
      obtain ⟨⟨pkr_0, pkr_1, pkr_2, pkr_3, pkr_4, pkr_5, pkr_6⟩, pkr_0f, pkr_1f, pkr_2f, pkr_3f, pkr_4f, pkr_5f, pkr_6f⟩ := kr.seven
      go_wp2
      exact bodyPost_ret (v := .tuple #[.agg #[.int .i64 I, .int .i64 N, .int .i64 S, .int .i64 0, .int .i64 0, .int .i64 G, .int .i64 R], .int .i64 3, .int .i64 0]) (by simp [results, Try.results30, go_sem, pkr_0, pkr_1, pkr_2, pkr_3, pkr_4, pkr_5, pkr_6]) rfl ⟨rfl, by repeat (first | refine Below.setCell ?_ (by simp) _ | exact bc)⟩
    · rw [if_neg (fun h => hq h.2)]
      generalize ownV m = r at *
      obtain ⟨r1, r2, I', N', S', A', F', G', R'⟩ := r
      clear hok
      obtain ⟨I, N, S, A, F, G, R⟩ := m
      unfold MV.cells at *
      dsimp only at *
      have HCK := Lib.hid hck; have HO := Lib.hid how; clear hck how
      by_cases ha : A = 0
      · have hf : (F == 0) = false := by simp; omega
        subst ha
        clear hq
        obtain ⟨km, kr, bc⟩ := bx2 w #[.int .i64 I, .int .i64 N, .int .i64 S, .int .i64 0, .int .i64 F, .int .i64 G, .int .i64 R] #[.int .i64 0, .int .i64 0, .int .i64 0, .int .i64 0, .int .i64 0, .int .i64 0, .int .i64 0] 23 23
        go_enter Try.func30, Try.ntmps30
        go_wp2_with fail
        generalize (w.alloc (.cells #[.int .i64 I, .int .i64 N, .int .i64 S, .int .i64 0, .int .i64 F, .int .i64 G, .int .i64 R] 23)).alloc (.cells #[.int .i64 0, .int .i64 0, .int .i64 0, .int .i64 0, .int .i64 0, .int .i64 0, .int .i64 0] 23) = u1 at *
        refine (HCK.out _).mono ?_
        rintro e w1 ⟨rfl, hC⟩
        dsimp only
        replace km := km.on hC; replace kr := kr.on hC; replace bc := bc.trans (hC.mono bc.size); clear hC
        obtain ⟨⟨pkm_0, pkm_1, pkm_2, pkm_3, pkm_4, pkm_5, pkm_6⟩, pkm_0f, pkm_1f, pkm_2f, pkm_3f, pkm_4f, pkm_5f, pkm_6f⟩ := km.seven
        obtain ⟨⟨pkr_0, pkr_1, pkr_2, pkr_3, pkr_4, pkr_5, pkr_6⟩, pkr_0f, pkr_1f, pkr_2f, pkr_3f, pkr_4f, pkr_5f, pkr_6f⟩ := kr.seven
        go_wp2_with fail
        clear pkm_0 pkm_1 pkm_2 pkm_3 pkm_4 pkm_5 pkm_6 pkm_0f pkm_1f pkm_2f pkm_3f pkm_4f pkm_5f pkm_6f pkr_0 pkr_1 pkr_2 pkr_3 pkr_4 pkr_5 pkr_6 pkr_0f pkr_1f pkr_2f pkr_3f pkr_4f pkr_5f pkr_6f
        refine (HO.out _).mono ?_
        rintro e w2 ⟨rfl, hC⟩
        dsimp only
        replace km := km.on hC; replace kr := kr.on hC; replace bc := bc.trans (hC.mono bc.size); clear hC
        obtain ⟨⟨pkm_0, pkm_1, pkm_2, pkm_3, pkm_4, pkm_5, pkm_6⟩, pkm_0f, pkm_1f, pkm_2f, pkm_3f, pkm_4f, pkm_5f, pkm_6f⟩ := km.seven
        obtain ⟨⟨pkr_0, pkr_1, pkr_2, pkr_3, pkr_4, pkr_5, pkr_6⟩, pkr_0f, pkr_1f, pkr_2f, pkr_3f, pkr_4f, pkr_5f, pkr_6f⟩ := kr.seven
        go_wp2
        exact bodyPost_ret (v := .tuple #[.agg #[.int .i64 I', .int .i64 N', .int .i64 S', .int .i64 A', .int .i64 F', .int .i64 G', .int .i64 R'], .int .i64 r2, .int .i64 r1]) (by simp [results, Try.results30, go_sem, pkr_0, pkr_1, pkr_2, pkr_3, pkr_4, pkr_5, pkr_6]) rfl ⟨rfl, by repeat (first | refine Below.setCell ?_ (by simp) _ | exact bc)⟩
      · have hf : (A == 0) = false := by simpa using ha
        clear hq ha
        obtain ⟨km, kr, bc⟩ := bx2 w #[.int .i64 I, .int .i64 N, .int .i64 S, .int .i64 A, .int .i64 F, .int .i64 G, .int .i64 R] #[.int .i64 0, .int .i64 0, .int .i64 0, .int .i64 0, .int .i64 0, .int .i64 0, .int .i64 0] 23 23
        go_enter Try.func30, Try.ntmps30
        go_wp2_with fail
        generalize (w.alloc (.cells #[.int .i64 I, .int .i64 N, .int .i64 S, .int .i64 A, .int .i64 F, .int .i64 G, .int .i64 R] 23)).alloc (.cells #[.int .i64 0, .int .i64 0, .int .i64 0, .int .i64 0, .int .i64 0, .int .i64 0, .int .i64 0] 23) = u1 at *
        refine (HCK.out _).mono ?_
        rintro e w1 ⟨rfl, hC⟩
        dsimp only
        replace km := km.on hC; replace kr := kr.on hC; replace bc := bc.trans (hC.mono bc.size); clear hC
        obtain ⟨⟨pkm_0, pkm_1, pkm_2, pkm_3, pkm_4, pkm_5, pkm_6⟩, pkm_0f, pkm_1f, pkm_2f, pkm_3f, pkm_4f, pkm_5f, pkm_6f⟩ := km.seven
        obtain ⟨⟨pkr_0, pkr_1, pkr_2, pkr_3, pkr_4, pkr_5, pkr_6⟩, pkr_0f, pkr_1f, pkr_2f, pkr_3f, pkr_4f, pkr_5f, pkr_6f⟩ := kr.seven
        go_wp2_with fail
        clear pkm_0 pkm_1 pkm_2 pkm_3 pkm_4 pkm_5 pkm_6 pkm_0f pkm_1f pkm_2f pkm_3f pkm_4f pkm_5f pkm_6f pkr_0 pkr_1 pkr_2 pkr_3 pkr_4 pkr_5 pkr_6 pkr_0f pkr_1f pkr_2f pkr_3f pkr_4f pkr_5f pkr_6f
        refine (HO.out _).mono ?_
        rintro e w2 ⟨rfl, hC⟩
        dsimp only
        replace km := km.on hC; replace kr := kr.on hC; replace bc := bc.trans (hC.mono bc.size); clear hC
        obtain ⟨⟨pkm_0, pkm_1, pkm_2, pkm_3, pkm_4, pkm_5, pkm_6⟩, pkm_0f, pkm_1f, pkm_2f, pkm_3f, pkm_4f, pkm_5f, pkm_6f⟩ := km.seven
        obtain ⟨⟨pkr_0, pkr_1, pkr_2, pkr_3, pkr_4, pkr_5, pkr_6⟩, pkr_0f, pkr_1f, pkr_2f, pkr_3f, pkr_4f, pkr_5f, pkr_6f⟩ := kr.seven
        go_wp2
        exact bodyPost_ret (v := .tuple #[.agg #[.int .i64 I', .int .i64 N', .int .i64 S', .int .i64 A', .int .i64 F', .int .i64 G', .int .i64 R'], .int .i64 r2, .int .i64 r1]) (by simp [results, Try.results30, go_sem, pkr_0, pkr_1, pkr_2, pkr_3, pkr_4, pkr_5, pkr_6]) rfl ⟨rfl, by repeat (first | refine Below.setCell ?_ (by simp) _ | exact bc)⟩
  · rw [chkV_no hok] at hck
    rw [if_neg (fun h => hok h.1)]
    generalize ownV m = r at *
    obtain ⟨r1, r2, I', N', S', A', F', G', R'⟩ := r
    clear hok
    obtain ⟨I, N, S, A, F, G, R⟩ := m
    unfold MV.cells at *
    dsimp only at *
    have HCK := Lib.hid hck; have HO := Lib.hid how; clear hck how
    obtain ⟨km, kr, bc⟩ := bx2 w #[.int .i64 I, .int .i64 N, .int .i64 S, .int .i64 A, .int .i64 F, .int .i64 G, .int .i64 R] #[.int .i64 0, .int .i64 0, .int .i64 0, .int .i64 0, .int .i64 0, .int .i64 0, .int .i64 0] 23 23
    go_enter Try.func30, Try.ntmps30
    go_wp2_with fail
    generalize (w.alloc (.cells #[.int .i64 I, .int .i64 N, .int .i64 S, .int .i64 A, .int .i64 F, .int .i64 G, .int .i64 R] 23)).alloc (.cells #[.int .i64 0, .int .i64 0, .int .i64 0, .int .i64 0, .int .i64 0, .int .i64 0, .int .i64 0] 23) = u1 at *
    refine (HCK.out _).mono ?_
    rintro e w1 ⟨rfl, hC⟩
    dsimp only
    replace km := km.on hC; replace kr := kr.on hC; replace bc := bc.trans (hC.mono bc.size); clear hC
    obtain ⟨⟨pkm_0, pkm_1, pkm_2, pkm_3, pkm_4, pkm_5, pkm_6⟩, pkm_0f, pkm_1f, pkm_2f, pkm_3f, pkm_4f, pkm_5f, pkm_6f⟩ := km.seven
    obtain ⟨⟨pkr_0, pkr_1, pkr_2, pkr_3, pkr_4, pkr_5, pkr_6⟩, pkr_0f, pkr_1f, pkr_2f, pkr_3f, pkr_4f, pkr_5f, pkr_6f⟩ := kr.seven
    go_wp2_with fail
    clear pkm_0 pkm_1 pkm_2 pkm_3 pkm_4 pkm_5 pkm_6 pkm_0f pkm_1f pkm_2f pkm_3f pkm_4f pkm_5f pkm_6f pkr_0 pkr_1 pkr_2 pkr_3 pkr_4 pkr_5 pkr_6 pkr_0f pkr_1f pkr_2f pkr_3f pkr_4f pkr_5f pkr_6f
    refine (HO.out _).mono ?_
    rintro e w2 ⟨rfl, hC⟩
    dsimp only
    replace km := km.on hC; replace kr := kr.on hC; replace bc := bc.trans (hC.mono bc.size); clear hC
    obtain ⟨⟨pkm_0, pkm_1, pkm_2, pkm_3, pkm_4, pkm_5, pkm_6⟩, pkm_0f, pkm_1f, pkm_2f, pkm_3f, pkm_4f, pkm_5f, pkm_6f⟩ := km.seven
    obtain ⟨⟨pkr_0, pkr_1, pkr_2, pkr_3, pkr_4, pkr_5, pkr_6⟩, pkr_0f, pkr_1f, pkr_2f, pkr_3f, pkr_4f, pkr_5f, pkr_6f⟩ := kr.seven
    go_wp2
    exact bodyPost_ret (v := .tuple #[.agg #[.int .i64 I', .int .i64 N', .int .i64 S', .int .i64 A', .int .i64 F', .int .i64 G', .int .i64 R'], .int .i64 r2, .int .i64 r1]) (by simp [results, Try.results30, go_sem, pkr_0, pkr_1, pkr_2, pkr_3, pkr_4, pkr_5, pkr_6]) rfl ⟨rfl, by repeat (first | refine Below.setCell ?_ (by simp) _ | exact bc)⟩
set_option maxRecDepth 8000 in
set_option maxHeartbeats 4000000 in
theorem rvjoin_any (m : MV) (w : World) : Calls Try.prog 31 #[.agg m.cells] w (ResO w (joinV m)) := by
  have hck := fun W => rvcheck_any m W
  have how := fun W => rvown_any m W
  unfold joinV ResO at *
  by_cases hok : okV m
  · rw [chkV_ok hok] at hck
    by_cases hq : m.A = 0 ∧ m.F = 0
    · rw [if_pos ⟨hok, hq⟩]
      clear hok how
      obtain ⟨I, N, S, A, F, G, R⟩ := m
      unfold MV.cells at *
      dsimp only at *
      obtain ⟨rfl, rfl⟩ := hq
      have HCK := Lib.hid hck; clear hck
      obtain ⟨km, kr, bc⟩ := bx2 w #[.int .i64 I, .int .i64 N, .int .i64 S, .int .i64 0, .int .i64 0, .int .i64 G, .int .i64 R] #[.int .i64 0, .int .i64 0, .int .i64 0, .int .i64 0, .int .i64 0, .int .i64 0, .int .i64 0] 23 23
      go_enter Try.func31, Try.ntmps31
      go_wp2_with fail
      generalize (w.alloc (.cells #[.int .i64 I, .int .i64 N, .int .i64 S, .int .i64 0, .int .i64 0, .int .i64 G, .int .i64 R] 23)).alloc (.cells #[.int .i64 0, .int .i64 0, .int .i64 0, .int .i64 0, .int .i64 0, .int .i64 0, .int .i64 0] 23) = u1 at *
      refine (HCK.out _).mono ?_
      rintro e w1 ⟨rfl, hC⟩
      dsimp only
      replace km := km.on hC; replace kr := kr.on hC; replace bc := bc.trans (hC.mono bc.size); clear hC
      obtain ⟨⟨pkm_0, pkm_1, pkm_2, pkm_3, pkm_4, pkm_5, pkm_6⟩, pkm_0f, pkm_1f, pkm_2f, pkm_3f, pkm_4f, pkm_5f, pkm_6f⟩ := km.seven
      obtain ⟨⟨pkr_0, pkr_1, pkr_2, pkr_3, pkr_4, pkr_5, pkr_6⟩, pkr_0f, pkr_1f, pkr_2f, pkr_3f, pkr_4f, pkr_5f, pkr_6f⟩ := kr.seven
      go_wp2
      exact bodyPost_ret (v := .tuple #[.agg #[.int .i64 I, .int .i64 N, .int .i64 S, .int .i64 0, .int .i64 0, .int .i64 G, .int .i64 R], .int .i64 3, .int .i64 0]) (by simp [results, Try.results31, go_sem, pkr_0, pkr_1, pkr_2, pkr_3, pkr_4, pkr_5, pkr_6]) rfl ⟨rfl, by repeat (first | refine Below.setCell ?_ (by simp) _ | exact bc)⟩
    · rw [if_neg (fun h => hq h.2)]
      generalize ownV m = r at *
      obtain ⟨r1, r2, I', N', S', A', F', G', R'⟩ := r
      clear hok
      obtain ⟨I, N, S, A, F, G, R⟩ := m
      unfold MV.cells at *
      dsimp only at *
      have HCK := Lib.hid hck; have HO := Lib.hid how; clear hck how
      by_cases ha : A = 0
      · have hf : (F == 0) = false := by simp; omega
        subst ha
        clear hq
        obtain ⟨km, kr, bc⟩ := bx2 w #[.int .i64 I, .int .i64 N, .int .i64 S, .int .i64 0, .int .i64 F, .int .i64 G, .int .i64 R] #[.int .i64 0, .int .i64 0, .int .i64 0, .int .i64 0, .int .i64 0, .int .i64 0, .int .i64 0] 23 23
        go_enter Try.func31, Try.ntmps31
        go_wp2_with fail
        generalize (w.alloc (.cells #[.int .i64 I, .int .i64 N, .int .i64 S, .int .i64 0, .int .i64 F, .int .i64 G, .int .i64 R] 23)).alloc (.cells #[.int .i64 0, .int .i64 0, .int .i64 0, .int .i64 0, .int .i64 0, .int .i64 0, .int .i64 0] 23) = u1 at *
        refine (HCK.out _).mono ?_
        rintro e w1 ⟨rfl, hC⟩
        dsimp only
        replace km := km.on hC; replace kr := kr.on hC; replace bc := bc.trans (hC.mono bc.size); clear hC
        obtain ⟨⟨pkm_0, pkm_1, pkm_2, pkm_3, pkm_4, pkm_5, pkm_6⟩, pkm_0f, pkm_1f, pkm_2f, pkm_3f, pkm_4f, pkm_5f, pkm_6f⟩ := km.seven
        obtain ⟨⟨pkr_0, pkr_1, pkr_2, pkr_3, pkr_4, pkr_5, pkr_6⟩, pkr_0f, pkr_1f, pkr_2f, pkr_3f, pkr_4f, pkr_5f, pkr_6f⟩ := kr.seven
        go_wp2_with fail
        clear pkm_0 pkm_1 pkm_2 pkm_3 pkm_4 pkm_5 pkm_6 pkm_0f pkm_1f pkm_2f pkm_3f pkm_4f pkm_5f pkm_6f pkr_0 pkr_1 pkr_2 pkr_3 pkr_4 pkr_5 pkr_6 pkr_0f pkr_1f pkr_2f pkr_3f pkr_4f pkr_5f pkr_6f
        refine (HO.out _).mono ?_
        rintro e w2 ⟨rfl, hC⟩
        dsimp only
        replace km := km.on hC; replace kr := kr.on hC; replace bc := bc.trans (hC.mono bc.size); clear hC
        obtain ⟨⟨pkm_0, pkm_1, pkm_2, pkm_3, pkm_4, pkm_5, pkm_6⟩, pkm_0f, pkm_1f, pkm_2f, pkm_3f, pkm_4f, pkm_5f, pkm_6f⟩ := km.seven
        obtain ⟨⟨pkr_0, pkr_1, pkr_2, pkr_3, pkr_4, pkr_5, pkr_6⟩, pkr_0f, pkr_1f, pkr_2f, pkr_3f, pkr_4f, pkr_5f, pkr_6f⟩ := kr.seven
        go_wp2
        exact bodyPost_ret (v := .tuple #[.agg #[.int .i64 I', .int .i64 N', .int .i64 S', .int .i64 A', .int .i64 F', .int .i64 G', .int .i64 R'], .int .i64 r2, .int .i64 r1]) (by simp [results, Try.results31, go_sem, pkr_0, pkr_1, pkr_2, pkr_3, pkr_4, pkr_5, pkr_6]) rfl ⟨rfl, by repeat (first | refine Below.setCell ?_ (by simp) _ | exact bc)⟩
      · have hf : (A == 0) = false := by simpa using ha
        clear hq ha
        obtain ⟨km, kr, bc⟩ := bx2 w #[.int .i64 I, .int .i64 N, .int .i64 S, .int .i64 A, .int .i64 F, .int .i64 G, .int .i64 R] #[.int .i64 0, .int .i64 0, .int .i64 0, .int .i64 0, .int .i64 0, .int .i64 0, .int .i64 0] 23 23
        go_enter Try.func31, Try.ntmps31
        go_wp2_with fail
        generalize (w.alloc (.cells #[.int .i64 I, .int .i64 N, .int .i64 S, .int .i64 A, .int .i64 F, .int .i64 G, .int .i64 R] 23)).alloc (.cells #[.int .i64 0, .int .i64 0, .int .i64 0, .int .i64 0, .int .i64 0, .int .i64 0, .int .i64 0] 23) = u1 at *
        refine (HCK.out _).mono ?_
        rintro e w1 ⟨rfl, hC⟩
        dsimp only
        replace km := km.on hC; replace kr := kr.on hC; replace bc := bc.trans (hC.mono bc.size); clear hC
        obtain ⟨⟨pkm_0, pkm_1, pkm_2, pkm_3, pkm_4, pkm_5, pkm_6⟩, pkm_0f, pkm_1f, pkm_2f, pkm_3f, pkm_4f, pkm_5f, pkm_6f⟩ := km.seven
        obtain ⟨⟨pkr_0, pkr_1, pkr_2, pkr_3, pkr_4, pkr_5, pkr_6⟩, pkr_0f, pkr_1f, pkr_2f, pkr_3f, pkr_4f, pkr_5f, pkr_6f⟩ := kr.seven
        go_wp2_with fail
        clear pkm_0 pkm_1 pkm_2 pkm_3 pkm_4 pkm_5 pkm_6 pkm_0f pkm_1f pkm_2f pkm_3f pkm_4f pkm_5f pkm_6f pkr_0 pkr_1 pkr_2 pkr_3 pkr_4 pkr_5 pkr_6 pkr_0f pkr_1f pkr_2f pkr_3f pkr_4f pkr_5f pkr_6f
        refine (HO.out _).mono ?_
        rintro e w2 ⟨rfl, hC⟩
        dsimp only
        replace km := km.on hC; replace kr := kr.on hC; replace bc := bc.trans (hC.mono bc.size); clear hC
        obtain ⟨⟨pkm_0, pkm_1, pkm_2, pkm_3, pkm_4, pkm_5, pkm_6⟩, pkm_0f, pkm_1f, pkm_2f, pkm_3f, pkm_4f, pkm_5f, pkm_6f⟩ := km.seven
        obtain ⟨⟨pkr_0, pkr_1, pkr_2, pkr_3, pkr_4, pkr_5, pkr_6⟩, pkr_0f, pkr_1f, pkr_2f, pkr_3f, pkr_4f, pkr_5f, pkr_6f⟩ := kr.seven
        go_wp2
        exact bodyPost_ret (v := .tuple #[.agg #[.int .i64 I', .int .i64 N', .int .i64 S', .int .i64 A', .int .i64 F', .int .i64 G', .int .i64 R'], .int .i64 r2, .int .i64 r1]) (by simp [results, Try.results31, go_sem, pkr_0, pkr_1, pkr_2, pkr_3, pkr_4, pkr_5, pkr_6]) rfl ⟨rfl, by repeat (first | refine Below.setCell ?_ (by simp) _ | exact bc)⟩
  · rw [chkV_no hok] at hck
    rw [if_neg (fun h => hok h.1), show ownV m = (90, 0, zeroV) from if_neg hok]
    clear hok how
    obtain ⟨I, N, S, A, F, G, R⟩ := m
    unfold zeroV MV.cells at *
    dsimp only at *
    have HCK := Lib.hid hck; clear hck
    obtain ⟨km, kr, bc⟩ := bx2 w #[.int .i64 I, .int .i64 N, .int .i64 S, .int .i64 A, .int .i64 F, .int .i64 G, .int .i64 R] #[.int .i64 0, .int .i64 0, .int .i64 0, .int .i64 0, .int .i64 0, .int .i64 0, .int .i64 0] 23 23
    go_enter Try.func31, Try.ntmps31
    go_wp2_with fail
    generalize (w.alloc (.cells #[.int .i64 I, .int .i64 N, .int .i64 S, .int .i64 A, .int .i64 F, .int .i64 G, .int .i64 R] 23)).alloc (.cells #[.int .i64 0, .int .i64 0, .int .i64 0, .int .i64 0, .int .i64 0, .int .i64 0, .int .i64 0] 23) = u1 at *
    refine (HCK.out _).mono ?_
    rintro e w1 ⟨rfl, hC⟩
    dsimp only
    replace km := km.on hC; replace kr := kr.on hC; replace bc := bc.trans (hC.mono bc.size); clear hC
    obtain ⟨⟨pkm_0, pkm_1, pkm_2, pkm_3, pkm_4, pkm_5, pkm_6⟩, pkm_0f, pkm_1f, pkm_2f, pkm_3f, pkm_4f, pkm_5f, pkm_6f⟩ := km.seven
    obtain ⟨⟨pkr_0, pkr_1, pkr_2, pkr_3, pkr_4, pkr_5, pkr_6⟩, pkr_0f, pkr_1f, pkr_2f, pkr_3f, pkr_4f, pkr_5f, pkr_6f⟩ := kr.seven
    go_wp2
    exact bodyPost_ret (v := .tuple #[.agg #[.int .i64 0, .int .i64 0, .int .i64 0, .int .i64 0, .int .i64 0, .int .i64 0, .int .i64 0], .int .i64 0, .int .i64 90]) (by simp [results, Try.results31, go_sem, pkr_0, pkr_1, pkr_2, pkr_3, pkr_4, pkr_5, pkr_6]) rfl ⟨rfl, by repeat (first | refine Below.setCell ?_ (by simp) _ | exact bc)⟩
end Go.Proofs.Ytffbhdllepjdeaa
