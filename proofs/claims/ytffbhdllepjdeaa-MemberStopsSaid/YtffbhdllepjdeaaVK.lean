/-
  Bad of package member. No condition.
-/
import Derived.Test.YtffbhdllepjdeaaVJ
namespace Go.Proofs.Ytffbhdllepjdeaa
open Go.RowKit

set_option maxRecDepth 8000 in
set_option maxHeartbeats 4000000 in
theorem vbad_any (m : MV) (s : Int) (w : World) : Calls Try.prog 24 #[.agg m.cells, .int .i64 s] w (ResV w (badV m s)) := by
  have hck := fun W => vnull_any m s W
  unfold badV nullV ResV at *
  by_cases hask : askV m s = 0
  · simp only [if_pos hask] at hck
    rw [if_pos hask]
    obtain ⟨hok, hoth⟩ := ask_zero hask
    have hF : (goneV m s).F = m.F := by unfold goneV; split <;> rfl
    have hmf := fun W => pure_below (vmore_any (goneV m s).F W (by rw [hF]; exact hok.2.2.2.2.2.1.1) (by rw [hF]; exact hok.2.2.2.2.2.1.2))
    unfold failV
    clear hok hoth hask hF
    generalize goneV m s = g at *
    obtain ⟨I', N', S', A', F', G', R'⟩ := g
    obtain ⟨I, N, S, A, F, G, R⟩ := m
    unfold MV.cells at *
    dsimp only at *
    generalize moreV F' = F2 at *
    have HCK := Lib.hid hck; have HF := Lib.hid hmf; clear hck hmf
    obtain ⟨km, kr, bc⟩ := bx2 w #[.int .i64 I, .int .i64 N, .int .i64 S, .int .i64 A, .int .i64 F, .int .i64 G, .int .i64 R] #[.int .i64 0, .int .i64 0, .int .i64 0, .int .i64 0, .int .i64 0, .int .i64 0, .int .i64 0] 23 23
    go_enter Try.func24, Try.ntmps24
    go_wp2_with fail
    generalize (w.alloc (.cells #[.int .i64 I, .int .i64 N, .int .i64 S, .int .i64 A, .int .i64 F, .int .i64 G, .int .i64 R] 23)).alloc (.cells #[.int .i64 0, .int .i64 0, .int .i64 0, .int .i64 0, .int .i64 0, .int .i64 0, .int .i64 0] 23) = u1 at *
    refine (HCK.out _).mono ?_
    rintro e w1 ⟨rfl, hC⟩
    dsimp only
    replace km := km.on hC; replace kr := kr.on hC; replace bc := bc.trans (hC.mono bc.size); clear hC
    obtain ⟨⟨pkm_0, pkm_1, pkm_2, pkm_3, pkm_4, pkm_5, pkm_6⟩, pkm_0f, pkm_1f, pkm_2f, pkm_3f, pkm_4f, pkm_5f, pkm_6f⟩ := km.seven
    obtain ⟨⟨pkr_0, pkr_1, pkr_2, pkr_3, pkr_4, pkr_5, pkr_6⟩, pkr_0f, pkr_1f, pkr_2f, pkr_3f, pkr_4f, pkr_5f, pkr_6f⟩ := kr.seven
    have hG := st7 w1 (w.heap.size) (.int .i64 I') (.int .i64 N') (.int .i64 S') (.int .i64 A') (.int .i64 F') (.int .i64 G') (.int .i64 R')
    replace kr := kr.grown hG (some_ne (by omega)); replace bc := Below.off bc bc.size (by omega) hG; replace km := km.put7 (.int .i64 I') (.int .i64 N') (.int .i64 S') (.int .i64 A') (.int .i64 F') (.int .i64 G') (.int .i64 R'); clear hG
    go_wp2_with fail
    clear pkm_0 pkm_1 pkm_2 pkm_3 pkm_4 pkm_5 pkm_6 pkm_0f pkm_1f pkm_2f pkm_3f pkm_4f pkm_5f pkm_6f pkr_0 pkr_1 pkr_2 pkr_3 pkr_4 pkr_5 pkr_6 pkr_0f pkr_1f pkr_2f pkr_3f pkr_4f pkr_5f pkr_6f
    generalize ((((((w1.setCell ⟨w.heap.size, 0, none⟩ (.int .i64 I')).setCell ⟨w.heap.size, 1, none⟩ (.int .i64 N')).setCell ⟨w.heap.size, 2, none⟩ (.int .i64 S')).setCell ⟨w.heap.size, 3, none⟩ (.int .i64 A')).setCell ⟨w.heap.size, 4, none⟩ (.int .i64 F')).setCell ⟨w.heap.size, 5, none⟩ (.int .i64 G')).setCell ⟨w.heap.size, 6, none⟩ (.int .i64 R') = u2 at *
    refine (HF.out _).mono ?_
    rintro e w2 ⟨rfl, hC⟩
    dsimp only
    replace km := km.on hC; replace kr := kr.on hC; replace bc := bc.trans (hC.mono bc.size); clear hC
    obtain ⟨⟨pkm_0, pkm_1, pkm_2, pkm_3, pkm_4, pkm_5, pkm_6⟩, pkm_0f, pkm_1f, pkm_2f, pkm_3f, pkm_4f, pkm_5f, pkm_6f⟩ := km.seven
    obtain ⟨⟨pkr_0, pkr_1, pkr_2, pkr_3, pkr_4, pkr_5, pkr_6⟩, pkr_0f, pkr_1f, pkr_2f, pkr_3f, pkr_4f, pkr_5f, pkr_6f⟩ := kr.seven
    go_wp2_with fail
    exact bodyPost_ret (v := .tuple #[.agg #[.int .i64 I', .int .i64 N', .int .i64 S', .int .i64 A', .int .i64 F2, .int .i64 G', .int .i64 R'], .int .i64 0]) (by simp [results, Try.results24, go_sem, pkr_0, pkr_1, pkr_2, pkr_3, pkr_4, pkr_5, pkr_6]) rfl ⟨rfl, by repeat (first | refine Below.setCell ?_ (by simp) _ | exact bc)⟩
  · simp only [if_neg hask] at hck
    rw [if_neg hask]
    have e0 : (askV m s != 0) = true := by simpa using hask
    clear hask
    generalize askV m s = r at *
    obtain ⟨I, N, S, A, F, G, R⟩ := m
    unfold zeroV MV.cells at *
    dsimp only at *
    have HCK := Lib.hid hck; clear hck
    obtain ⟨km, kr, bc⟩ := bx2 w #[.int .i64 I, .int .i64 N, .int .i64 S, .int .i64 A, .int .i64 F, .int .i64 G, .int .i64 R] #[.int .i64 0, .int .i64 0, .int .i64 0, .int .i64 0, .int .i64 0, .int .i64 0, .int .i64 0] 23 23
    go_enter Try.func24, Try.ntmps24
    go_wp2_with fail
    generalize (w.alloc (.cells #[.int .i64 I, .int .i64 N, .int .i64 S, .int .i64 A, .int .i64 F, .int .i64 G, .int .i64 R] 23)).alloc (.cells #[.int .i64 0, .int .i64 0, .int .i64 0, .int .i64 0, .int .i64 0, .int .i64 0, .int .i64 0] 23) = u1 at *
    refine (HCK.out _).mono ?_
    rintro e w1 ⟨rfl, hC⟩
    dsimp only
    replace km := km.on hC; replace kr := kr.on hC; replace bc := bc.trans (hC.mono bc.size); clear hC
    obtain ⟨⟨pkm_0, pkm_1, pkm_2, pkm_3, pkm_4, pkm_5, pkm_6⟩, pkm_0f, pkm_1f, pkm_2f, pkm_3f, pkm_4f, pkm_5f, pkm_6f⟩ := km.seven
    obtain ⟨⟨pkr_0, pkr_1, pkr_2, pkr_3, pkr_4, pkr_5, pkr_6⟩, pkr_0f, pkr_1f, pkr_2f, pkr_3f, pkr_4f, pkr_5f, pkr_6f⟩ := kr.seven
    go_wp2
    exact bodyPost_ret (v := .tuple #[.agg #[.int .i64 0, .int .i64 0, .int .i64 0, .int .i64 0, .int .i64 0, .int .i64 0, .int .i64 0], .int .i64 r]) (by simp [results, Try.results24, go_sem, pkr_0, pkr_1, pkr_2, pkr_3, pkr_4, pkr_5, pkr_6]) rfl ⟨rfl, by repeat (first | refine Below.setCell ?_ (by simp) _ | exact bc)⟩
end Go.Proofs.Ytffbhdllepjdeaa
