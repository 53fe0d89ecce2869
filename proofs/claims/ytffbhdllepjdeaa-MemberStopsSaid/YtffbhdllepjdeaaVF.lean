/-
  Boxes of seven cells; New and In of package member, and the document's. No condition.
-/
import Derived.Test.YtffbhdllepjdeaaVE
namespace Go.Proofs.Ytffbhdllepjdeaa
open Go.RowKit

/-- What a call answers: an error's number and a view. -/
def ResV (w : World) (r : Int × MV) (e : Ending) (w' : World) : Prop := e = .returned (.tuple #[.agg r.2.cells, .int .i64 r.1]) ∧ Below w.heap.size w w'
theorem near_seven {w0 : World} {g : Nat} {t : TypeId} {a b c d e f h : Value} (k : Blk w0 g t #[a, b, c, d, e, f, h]) :
    (∀ n : NearW w0, n.W.cell? ⟨g, 0, none⟩ = some a) ∧ (∀ n : NearW w0, n.W.cell? ⟨g, 1, none⟩ = some b) ∧ (∀ n : NearW w0, n.W.cell? ⟨g, 2, none⟩ = some c) ∧ (∀ n : NearW w0, n.W.cell? ⟨g, 3, none⟩ = some d) ∧ (∀ n : NearW w0, n.W.cell? ⟨g, 4, none⟩ = some e) ∧ (∀ n : NearW w0, n.W.cell? ⟨g, 5, none⟩ = some f) ∧ (∀ n : NearW w0, n.W.cell? ⟨g, 6, none⟩ = some h) :=
  ⟨fun n => (k.below n.h k.lt).seven.1.1, fun n => (k.below n.h k.lt).seven.1.2.1, fun n => (k.below n.h k.lt).seven.1.2.2.1, fun n => (k.below n.h k.lt).seven.1.2.2.2.1, fun n => (k.below n.h k.lt).seven.1.2.2.2.2.1, fun n => (k.below n.h k.lt).seven.1.2.2.2.2.2.1, fun n => (k.below n.h k.lt).seven.1.2.2.2.2.2.2⟩
theorem st7 (W : World) (g : Nat) (v0 v1 v2 v3 v4 v5 v6 : Value) : W.grownBy (((((((W.setCell ⟨g, 0, none⟩ v0).setCell ⟨g, 1, none⟩ v1).setCell ⟨g, 2, none⟩ v2).setCell ⟨g, 3, none⟩ v3).setCell ⟨g, 4, none⟩ v4).setCell ⟨g, 5, none⟩ v5).setCell ⟨g, 6, none⟩ v6) (some g) := only_setCell (only_setCell (only_setCell (only_setCell (only_setCell (only_setCell (only_setCell (World.grownBy.refl W (some g)) (.inl rfl) _) (.inl rfl) _) (.inl rfl) _) (.inl rfl) _) (.inl rfl) _) (.inl rfl) _) (.inl rfl) _
theorem Blk.put7 {W : World} {g : Nat} {t : TypeId} {a0 a1 a2 a3 a4 a5 a6 : Value} (h : Blk W g t #[a0, a1, a2, a3, a4, a5, a6]) (v0 v1 v2 v3 v4 v5 v6 : Value) : Blk (((((((W.setCell ⟨g, 0, none⟩ v0).setCell ⟨g, 1, none⟩ v1).setCell ⟨g, 2, none⟩ v2).setCell ⟨g, 3, none⟩ v3).setCell ⟨g, 4, none⟩ v4).setCell ⟨g, 5, none⟩ v5).setCell ⟨g, 6, none⟩ v6) g t #[v0, v1, v2, v3, v4, v5, v6] := by
  simpa using (((((((h.set_ 0 v0).set_ 1 v1).set_ 2 v2).set_ 3 v3).set_ 4 v4).set_ 5 v5).set_ 6 v6)
theorem st1_2 (W : World) (g : Nat) (v0 : Value) : W.grownBy (W.setCell ⟨g, 2, none⟩ v0) (some g) := only_setCell (World.grownBy.refl W (some g)) (.inl rfl) _
theorem Blk.put1_2 {W : World} {g : Nat} {t : TypeId} {a0 a1 a2 a3 a4 a5 a6 : Value} (h : Blk W g t #[a0, a1, a2, a3, a4, a5, a6]) (v0 : Value) : Blk (W.setCell ⟨g, 2, none⟩ v0) g t #[a0, a1, v0, a3, a4, a5, a6] := by
  simpa using (h.set_ 2 v0)
theorem st1_3 (W : World) (g : Nat) (v0 : Value) : W.grownBy (W.setCell ⟨g, 3, none⟩ v0) (some g) := only_setCell (World.grownBy.refl W (some g)) (.inl rfl) _
theorem Blk.put1_3 {W : World} {g : Nat} {t : TypeId} {a0 a1 a2 a3 a4 a5 a6 : Value} (h : Blk W g t #[a0, a1, a2, a3, a4, a5, a6]) (v0 : Value) : Blk (W.setCell ⟨g, 3, none⟩ v0) g t #[a0, a1, a2, v0, a4, a5, a6] := by
  simpa using (h.set_ 3 v0)
theorem st1_4 (W : World) (g : Nat) (v0 : Value) : W.grownBy (W.setCell ⟨g, 4, none⟩ v0) (some g) := only_setCell (World.grownBy.refl W (some g)) (.inl rfl) _
theorem Blk.put1_4 {W : World} {g : Nat} {t : TypeId} {a0 a1 a2 a3 a4 a5 a6 : Value} (h : Blk W g t #[a0, a1, a2, a3, a4, a5, a6]) (v0 : Value) : Blk (W.setCell ⟨g, 4, none⟩ v0) g t #[a0, a1, a2, a3, v0, a5, a6] := by
  simpa using (h.set_ 4 v0)
theorem st1_5 (W : World) (g : Nat) (v0 : Value) : W.grownBy (W.setCell ⟨g, 5, none⟩ v0) (some g) := only_setCell (World.grownBy.refl W (some g)) (.inl rfl) _
theorem Blk.put1_5 {W : World} {g : Nat} {t : TypeId} {a0 a1 a2 a3 a4 a5 a6 : Value} (h : Blk W g t #[a0, a1, a2, a3, a4, a5, a6]) (v0 : Value) : Blk (W.setCell ⟨g, 5, none⟩ v0) g t #[a0, a1, a2, a3, a4, v0, a6] := by
  simpa using (h.set_ 5 v0)
theorem st1_6 (W : World) (g : Nat) (v0 : Value) : W.grownBy (W.setCell ⟨g, 6, none⟩ v0) (some g) := only_setCell (World.grownBy.refl W (some g)) (.inl rfl) _
theorem Blk.put1_6 {W : World} {g : Nat} {t : TypeId} {a0 a1 a2 a3 a4 a5 a6 : Value} (h : Blk W g t #[a0, a1, a2, a3, a4, a5, a6]) (v0 : Value) : Blk (W.setCell ⟨g, 6, none⟩ v0) g t #[a0, a1, a2, a3, a4, a5, v0] := by
  simpa using (h.set_ 6 v0)

set_option maxRecDepth 8000 in
set_option maxHeartbeats 4000000 in
theorem vnew_any (I N S : Int) (w : World) : Calls Try.prog 11 #[.int .i64 I, .int .i64 N, .int .i64 S] w (ResV w (newV I N S)) := by
  have hck := fun W => vcheck_any ⟨I, N, S, 0, 0, 0, 0⟩ W
  unfold newV ResV
  by_cases hok : okV ⟨I, N, S, 0, 0, 0, 0⟩
  · rw [chkV_ok hok] at hck
    rw [if_pos hok]
    clear hok
    unfold MV.cells at *
    dsimp only at *
    have HCK := Lib.hid hck; clear hck
    obtain ⟨kr, km, bc⟩ := bx2 w #[.int .i64 0, .int .i64 0, .int .i64 0, .int .i64 0, .int .i64 0, .int .i64 0, .int .i64 0] #[.int .i64 I, .int .i64 N, .int .i64 S, .int .i64 0, .int .i64 0, .int .i64 0, .int .i64 0] 23 23
    go_enter Try.func11, Try.ntmps11
    go_wp2_with fail
    generalize (w.alloc (.cells #[.int .i64 0, .int .i64 0, .int .i64 0, .int .i64 0, .int .i64 0, .int .i64 0, .int .i64 0] 23)).alloc (.cells #[.int .i64 I, .int .i64 N, .int .i64 S, .int .i64 0, .int .i64 0, .int .i64 0, .int .i64 0] 23) = u1 at *
    refine (HCK.out _).mono ?_
    rintro e w1 ⟨rfl, hC⟩
    dsimp only
    replace kr := kr.on hC; replace km := km.on hC; replace bc := bc.trans (hC.mono bc.size); clear hC
    obtain ⟨⟨pkr_0, pkr_1, pkr_2, pkr_3, pkr_4, pkr_5, pkr_6⟩, pkr_0f, pkr_1f, pkr_2f, pkr_3f, pkr_4f, pkr_5f, pkr_6f⟩ := kr.seven
    obtain ⟨⟨pkm_0, pkm_1, pkm_2, pkm_3, pkm_4, pkm_5, pkm_6⟩, pkm_0f, pkm_1f, pkm_2f, pkm_3f, pkm_4f, pkm_5f, pkm_6f⟩ := km.seven
    go_wp2
    exact bodyPost_ret (v := .tuple #[.agg #[.int .i64 I, .int .i64 N, .int .i64 S, .int .i64 0, .int .i64 0, .int .i64 0, .int .i64 0], .int .i64 0]) (by simp [results, Try.results11, go_sem, pkr_0, pkr_1, pkr_2, pkr_3, pkr_4, pkr_5, pkr_6]) rfl ⟨rfl, by repeat (first | refine Below.setCell ?_ (by simp) _ | exact bc)⟩
  · rw [chkV_no hok] at hck
    rw [if_neg hok]
    clear hok
    unfold zeroV MV.cells at *
    dsimp only at *
    have HCK := Lib.hid hck; clear hck
    obtain ⟨kr, km, bc⟩ := bx2 w #[.int .i64 0, .int .i64 0, .int .i64 0, .int .i64 0, .int .i64 0, .int .i64 0, .int .i64 0] #[.int .i64 I, .int .i64 N, .int .i64 S, .int .i64 0, .int .i64 0, .int .i64 0, .int .i64 0] 23 23
    go_enter Try.func11, Try.ntmps11
    go_wp2_with fail
    generalize (w.alloc (.cells #[.int .i64 0, .int .i64 0, .int .i64 0, .int .i64 0, .int .i64 0, .int .i64 0, .int .i64 0] 23)).alloc (.cells #[.int .i64 I, .int .i64 N, .int .i64 S, .int .i64 0, .int .i64 0, .int .i64 0, .int .i64 0] 23) = u1 at *
    refine (HCK.out _).mono ?_
    rintro e w1 ⟨rfl, hC⟩
    dsimp only
    replace kr := kr.on hC; replace km := km.on hC; replace bc := bc.trans (hC.mono bc.size); clear hC
    obtain ⟨⟨pkr_0, pkr_1, pkr_2, pkr_3, pkr_4, pkr_5, pkr_6⟩, pkr_0f, pkr_1f, pkr_2f, pkr_3f, pkr_4f, pkr_5f, pkr_6f⟩ := kr.seven
    obtain ⟨⟨pkm_0, pkm_1, pkm_2, pkm_3, pkm_4, pkm_5, pkm_6⟩, pkm_0f, pkm_1f, pkm_2f, pkm_3f, pkm_4f, pkm_5f, pkm_6f⟩ := km.seven
    go_wp2
    exact bodyPost_ret (v := .tuple #[.agg #[.int .i64 0, .int .i64 0, .int .i64 0, .int .i64 0, .int .i64 0, .int .i64 0, .int .i64 0], .int .i64 90]) (by simp [results, Try.results11, go_sem, pkr_0, pkr_1, pkr_2, pkr_3, pkr_4, pkr_5, pkr_6]) rfl ⟨rfl, by repeat (first | refine Below.setCell ?_ (by simp) _ | exact bc)⟩
set_option maxRecDepth 8000 in
set_option maxHeartbeats 4000000 in
theorem rvnew_any (I N S : Int) (w : World) : Calls Try.prog 12 #[.int .i64 I, .int .i64 N, .int .i64 S] w (ResV w (newV I N S)) := by
  have hck := fun W => rvcheck_any ⟨I, N, S, 0, 0, 0, 0⟩ W
  unfold newV ResV
  by_cases hok : okV ⟨I, N, S, 0, 0, 0, 0⟩
  · rw [chkV_ok hok] at hck
    rw [if_pos hok]
    clear hok
    unfold MV.cells at *
    dsimp only at *
    have HCK := Lib.hid hck; clear hck
    obtain ⟨kr, km, bc⟩ := bx2 w #[.int .i64 0, .int .i64 0, .int .i64 0, .int .i64 0, .int .i64 0, .int .i64 0, .int .i64 0] #[.int .i64 I, .int .i64 N, .int .i64 S, .int .i64 0, .int .i64 0, .int .i64 0, .int .i64 0] 23 23
    go_enter Try.func12, Try.ntmps12
    go_wp2_with fail
    generalize (w.alloc (.cells #[.int .i64 0, .int .i64 0, .int .i64 0, .int .i64 0, .int .i64 0, .int .i64 0, .int .i64 0] 23)).alloc (.cells #[.int .i64 I, .int .i64 N, .int .i64 S, .int .i64 0, .int .i64 0, .int .i64 0, .int .i64 0] 23) = u1 at *
    refine (HCK.out _).mono ?_
    rintro e w1 ⟨rfl, hC⟩
    dsimp only
    replace kr := kr.on hC; replace km := km.on hC; replace bc := bc.trans (hC.mono bc.size); clear hC
    obtain ⟨⟨pkr_0, pkr_1, pkr_2, pkr_3, pkr_4, pkr_5, pkr_6⟩, pkr_0f, pkr_1f, pkr_2f, pkr_3f, pkr_4f, pkr_5f, pkr_6f⟩ := kr.seven
    obtain ⟨⟨pkm_0, pkm_1, pkm_2, pkm_3, pkm_4, pkm_5, pkm_6⟩, pkm_0f, pkm_1f, pkm_2f, pkm_3f, pkm_4f, pkm_5f, pkm_6f⟩ := km.seven
    go_wp2
    exact bodyPost_ret (v := .tuple #[.agg #[.int .i64 I, .int .i64 N, .int .i64 S, .int .i64 0, .int .i64 0, .int .i64 0, .int .i64 0], .int .i64 0]) (by simp [results, Try.results12, go_sem, pkr_0, pkr_1, pkr_2, pkr_3, pkr_4, pkr_5, pkr_6]) rfl ⟨rfl, by repeat (first | refine Below.setCell ?_ (by simp) _ | exact bc)⟩
  · rw [chkV_no hok] at hck
    rw [if_neg hok]
    clear hok
    unfold zeroV MV.cells at *
    dsimp only at *
    have HCK := Lib.hid hck; clear hck
    obtain ⟨kr, km, bc⟩ := bx2 w #[.int .i64 0, .int .i64 0, .int .i64 0, .int .i64 0, .int .i64 0, .int .i64 0, .int .i64 0] #[.int .i64 I, .int .i64 N, .int .i64 S, .int .i64 0, .int .i64 0, .int .i64 0, .int .i64 0] 23 23
    go_enter Try.func12, Try.ntmps12
    go_wp2_with fail
    generalize (w.alloc (.cells #[.int .i64 0, .int .i64 0, .int .i64 0, .int .i64 0, .int .i64 0, .int .i64 0, .int .i64 0] 23)).alloc (.cells #[.int .i64 I, .int .i64 N, .int .i64 S, .int .i64 0, .int .i64 0, .int .i64 0, .int .i64 0] 23) = u1 at *
    refine (HCK.out _).mono ?_
    rintro e w1 ⟨rfl, hC⟩
    dsimp only
    replace kr := kr.on hC; replace km := km.on hC; replace bc := bc.trans (hC.mono bc.size); clear hC
    obtain ⟨⟨pkr_0, pkr_1, pkr_2, pkr_3, pkr_4, pkr_5, pkr_6⟩, pkr_0f, pkr_1f, pkr_2f, pkr_3f, pkr_4f, pkr_5f, pkr_6f⟩ := kr.seven
    obtain ⟨⟨pkm_0, pkm_1, pkm_2, pkm_3, pkm_4, pkm_5, pkm_6⟩, pkm_0f, pkm_1f, pkm_2f, pkm_3f, pkm_4f, pkm_5f, pkm_6f⟩ := km.seven
    go_wp2
    exact bodyPost_ret (v := .tuple #[.agg #[.int .i64 0, .int .i64 0, .int .i64 0, .int .i64 0, .int .i64 0, .int .i64 0, .int .i64 0], .int .i64 90]) (by simp [results, Try.results12, go_sem, pkr_0, pkr_1, pkr_2, pkr_3, pkr_4, pkr_5, pkr_6]) rfl ⟨rfl, by repeat (first | refine Below.setCell ?_ (by simp) _ | exact bc)⟩
set_option maxRecDepth 8000 in
set_option maxHeartbeats 4000000 in
theorem rvin_any (m : MV) (w : World) : Calls Try.prog 20 #[.agg m.cells] w fun e w' => e = .returned (.bool (inV m)) ∧ Below w.heap.size w w' := by
  have hck := fun W => rvcheck_any m W
  obtain ⟨k1, bc⟩ := bx1 w m.cells 23
  unfold inV
  by_cases hok : okV m
  · rw [chkV_ok hok] at hck
    have hb := fun W => (rvbit_any m.I W hok.2.1.1 (by have := ok_node hok; omega)).mono (R' := fun e w' => e = .returned (.int .i64 (pw m.I)) ∧ Below W.heap.size W w') (fun _ _ ⟨a, b⟩ => ⟨a, b ▸ Below.refl _ _⟩)
    rw [decide_eq_true hok, Bool.true_and]
    clear hok
    obtain ⟨I, N, S, A, F, G, R⟩ := m
    unfold MV.cells at *
    dsimp only at *
    have hh : (bits .and .i64 S (pw I) != 0) = hasI S I := rfl
    have HCK := Lib.hid hck; have HB := Lib.hid hb; clear hck hb
    generalize hasI S I = r at *
    go_enter Try.func20, Try.ntmps20
    go_wp2_with fail
    obtain ⟨p0, p1, p2, p3, p4, p5, p6⟩ := near_seven k1
    have BC := Lib.hid bc; clear k1 bc
    refine wp_region_near (by kernel_rfl) (by kernel_rfl) ?_
    repeat (go_big_quiet_step (first
      | (go_at_call 18; with_reducible exact near_call (HCK.out _))
      | (go_at_call 34; with_reducible exact near_call (HB.out _))))
    refine wpQuiet_nil ?_
    rintro _ ⟨nw, rfl⟩
    go_wp2
    go_ret
    exact ⟨rfl, below_then BC.out nw.h⟩
  · rw [chkV_no hok] at hck
    rw [decide_eq_false hok, Bool.false_and]
    clear hok
    obtain ⟨I, N, S, A, F, G, R⟩ := m
    unfold MV.cells at *
    dsimp only at *
    have HCK := Lib.hid hck; clear hck
    go_enter Try.func20, Try.ntmps20
    go_wp2_with fail
    obtain ⟨p0, p1, p2, p3, p4, p5, p6⟩ := near_seven k1
    have BC := Lib.hid bc; clear k1 bc
    refine wp_region_near (by kernel_rfl) (by kernel_rfl) ?_
    repeat (go_big_quiet_step (first
      | (go_at_call 18; with_reducible exact near_call (HCK.out _))))
    refine wpQuiet_nil ?_
    rintro _ ⟨nw, rfl⟩
    go_wp2
    go_ret
    exact ⟨rfl, below_then BC.out nw.h⟩
end Go.Proofs.Ytffbhdllepjdeaa
