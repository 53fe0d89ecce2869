/-
  Write, Beat and Ask of the document of layer 12. Conditions: an interface, and data, that can be read. (Printed by tools/gen12e.py; laid ahead.)
-/
import Derived.Test.YtnlmpemfpkmodaaID
namespace Go.Proofs.Ytnlmpemfpkmodaa
open Go.RowKit

theorem okCn_sz {s : Cn} (h : okCn s) : SzCn s := by
  obtain ⟨h1, h2⟩ := h
  refine ⟨by have := h1.2.1; omega, by have := h1.2.2.2.2.1; omega, fun m hm => ?_⟩
  obtain ⟨k, hk, rfl⟩ := List.getElem_of_mem hm
  have := (h2 k hk).1
  simp only [List.getElem?_eq_getElem hk, Option.getD_some] at this
  omega
theorem own_cl {b b' : Nat} {W : World} {s : Cn} {v u : Sl3} {l : List (Ms × Sl3)} (h : ClOk b W s v u l) (hb : b' ≤ b) : ClOk b' W s v u l := ⟨h.1, own_mono h.2.1 hb, fun y hy => own_mono (h.2.2.1 y hy) hb, own_mono h.2.2.2 hb⟩
theorem bne_zero {a : Int} (h : ¬ a = 0) : (a != 0) = true := by simpa using h

set_option maxRecDepth 100000 in
set_option maxHeartbeats 4000000 in
theorem rbeatCn_any (s : Cn) (v u : Sl3) (w : World) (h : CnOk w.heap.size w s v u) : Calls Try.prog 19 #[.agg (cCn s v u)] w (ResCn w (beatCn s)) := by
  have hck := fun U (hb : Below w.heap.size w U) => rchkCn_any s v u U (h.on hb)
  have hcl := fun U (hz : SzCn s) (hb : Below w.heap.size w U) => rclone_any s v u U (h.on hb) hz
  unfold ResCn beatCn
  have hoz := @okCn_sz s
  have hce := @chkCn_zero s
  have hcn := @chkCn_no s
  clear h
  obtain ⟨id, out, ms, life, want⟩ := s
  obtain ⟨A, n, c⟩ := v
  obtain ⟨B, m, d⟩ := u
  dsimp only [cCn] at *
  generalize hS : (⟨id, out, ms, life, want⟩ : Cn) = S at *
  obtain ⟨kb, kr, bc⟩ := bx2 w #[.int .i64 id, .slice A n c, .slice B m d, .int .i64 life, .int .i64 want] #[.int .i64 0, .slice none 0 0, .slice none 0 0, .int .i64 0, .int .i64 0] 25 25
  by_cases hok : okCn S
  rotate_left
  · rw [if_neg hok]
    rw [hcn hok] at hck
    have HCK := Lib.hid hck; clear hck hcl hoz hce hcn
    obtain ⟨p0, p1, p2, p3, p4⟩ := kb.fiveI; obtain ⟨r0, r1, r2, r3, r4⟩ := kr.fiveI; obtain ⟨g0, g1, g2, g3, g4⟩ := kr.fiveFI; obtain ⟨f0, f1, f2, f3, f4⟩ := kb.fiveFI
    go_enter Try.func19, Try.ntmps19
    go_wp2_with (first | (go_at_call 14; refine (HCK.out _ bc).mono ?_; rintro e w1 ⟨rfl, hC⟩; dsimp only; (try clear p0 p1 p2 p3 p4 r0 r1 r2 r3 r4 g0 g1 g2 g3 g4 f0 f1 f2 f3 f4); replace kb := kb.on hC; replace kr := kr.on hC; replace bc := bc.trans (hC.mono bc.size); clear hC; obtain ⟨p0, p1, p2, p3, p4⟩ := kb.fiveI; obtain ⟨r0, r1, r2, r3, r4⟩ := kr.fiveI; obtain ⟨g0, g1, g2, g3, g4⟩ := kr.fiveFI; obtain ⟨f0, f1, f2, f3, f4⟩ := kb.fiveFI))
    exact bodyPost_ret (v := .tuple #[.agg #[.int .i64 0, .slice none 0 0, .slice none 0 0, .int .i64 0, .int .i64 0], .int .i64 120]) (by simp [results, Try.results19, go_sem, r0, r1, r2, r3, r4]) rfl ⟨⟨none, 0, 0⟩, ⟨none, 0, 0⟩, rfl, CnFr.zero _ _, by repeat (first | refine Below.setCell ?_ (by dsimp only; omega) _ | exact bc)⟩
  rw [if_pos hok]
  rw [hce.2 hok] at hck
  have hcl := fun U hb => hcl U (hoz hok) hb
  have HCK := Lib.hid hck; have HCL := Lib.hid hcl; clear hck hcl hoz hce hcn
  obtain ⟨p0, p1, p2, p3, p4⟩ := kb.fiveI; obtain ⟨r0, r1, r2, r3, r4⟩ := kr.fiveI; obtain ⟨g0, g1, g2, g3, g4⟩ := kr.fiveFI; obtain ⟨f0, f1, f2, f3, f4⟩ := kb.fiveFI
  go_enter Try.func19, Try.ntmps19
  go_upto_region 5 with (first | (go_at_call 14; refine (HCK.out _ bc).mono ?_; rintro e w1 ⟨rfl, hC⟩; dsimp only; (try clear p0 p1 p2 p3 p4 r0 r1 r2 r3 r4 g0 g1 g2 g3 g4 f0 f1 f2 f3 f4); replace kb := kb.on hC; replace kr := kr.on hC; replace bc := bc.trans (hC.mono bc.size); clear hC; obtain ⟨p0, p1, p2, p3, p4⟩ := kb.fiveI; obtain ⟨r0, r1, r2, r3, r4⟩ := kr.fiveI; obtain ⟨g0, g1, g2, g3, g4⟩ := kr.fiveFI; obtain ⟨f0, f1, f2, f3, f4⟩ := kb.fiveFI) | (go_at_call 9; refine (HCL.out _ bc).mono ?_; rintro e w2 ⟨⟨vA, vn, vc⟩, ⟨uA, un, uc⟩, l, rfl, hcl, hC⟩; dsimp only; (try clear p0 p1 p2 p3 p4 r0 r1 r2 r3 r4 g0 g1 g2 g3 g4 f0 f1 f2 f3 f4); replace kb := kb.on hC; replace kr := kr.on hC; have hcl := own_cl hcl bc.size; replace bc := bc.trans (hC.mono bc.size); clear hC; obtain ⟨p0, p1, p2, p3, p4⟩ := kb.fiveI; obtain ⟨r0, r1, r2, r3, r4⟩ := kr.fiveI; obtain ⟨g0, g1, g2, g3, g4⟩ := kr.fiveFI; obtain ⟨f0, f1, f2, f3, f4⟩ := kb.fiveFI))
  subst hS
  have hG := grown5I w2 w.heap.size (.int .i64 id) (.slice vA vn vc) (.slice uA un uc) (.int .i64 life) (.int .i64 want)
  replace hcl := hcl.keep kb (by decide) (by decide) hG
  replace kr := kr.grown hG (some_ne (by omega))
  replace bc := Below.off bc bc.size (Nat.le_refl _) hG
  replace kb := kb.put5I (.int .i64 id) (.slice vA vn vc) (.slice uA un uc) (.int .i64 life) (.int .i64 want)
  (try clear p0 p1 p2 p3 p4 r0 r1 r2 r3 r4 g0 g1 g2 g3 g4 f0 f1 f2 f3 f4)
  clear hG
  generalize (((((w2.setCell ⟨w.heap.size, 0, none⟩ (.int .i64 id)).setCell ⟨w.heap.size, 1, none⟩ (.slice vA vn vc)).setCell ⟨w.heap.size, 2, none⟩ (.slice uA un uc)).setCell ⟨w.heap.size, 3, none⟩ (.int .i64 life)).setCell ⟨w.heap.size, 4, none⟩ (.int .i64 want)) = u3 at *
  obtain ⟨p0, p1, p2, p3, p4⟩ := kb.fiveI; obtain ⟨r0, r1, r2, r3, r4⟩ := kr.fiveI; obtain ⟨g0, g1, g2, g3, g4⟩ := kr.fiveFI; obtain ⟨f0, f1, f2, f3, f4⟩ := kb.fiveFI
  have hG := only_setCell (World.grownBy.refl u3 (some w.heap.size)) (p := ⟨w.heap.size, 3, none⟩) (.inl rfl) (.int .i64 4)
  have hcl4 := hcl.keep kb (by decide) (by decide) hG
  have kr4 := kr.grown hG (some_ne (by omega))
  have bc4 := Below.off bc bc.size (Nat.le_refl _) hG
  have HCL4 := Lib.hid hcl4; clear hcl4 hG
  go_wp2
  exact bodyPost_ret (v := .tuple #[.agg #[.int .i64 id, .slice vA vn vc, .slice uA un uc, .int .i64 4, .int .i64 want], .int .i64 0]) (by simp [results, Try.results19, go_sem, r0, r1, r2, r3, r4]) rfl ⟨⟨vA, vn, vc⟩, ⟨uA, un, uc⟩, rfl, (ClOk.fr (l := l) (HCL4.out.keep kr4 (by decide) (by decide) (grown5I _ _ _ _ _ _ _))), by repeat (first | refine Below.setCell ?_ (by dsimp only; omega) _ | exact bc)⟩
set_option maxRecDepth 100000 in
set_option maxHeartbeats 4000000 in
theorem raskCn_any (s : Cn) (v u : Sl3) (q : Int) (w : World) (h : CnOk w.heap.size w s v u) : Calls Try.prog 21 #[.agg (cCn s v u), .int .i64 q] w (ResCn w (askCn s q)) := by
  have hck := fun U (hb : Below w.heap.size w U) => rchkCn_any s v u U (h.on hb)
  have hcl := fun U (hz : SzCn s) (hb : Below w.heap.size w U) => rclone_any s v u U (h.on hb) hz
  unfold ResCn askCn
  have hoz := @okCn_sz s
  have hce := @chkCn_zero s
  have hcn := @chkCn_no s
  clear h
  obtain ⟨id, out, ms, life, want⟩ := s
  obtain ⟨A, n, c⟩ := v
  obtain ⟨B, m, d⟩ := u
  dsimp only [cCn] at *
  generalize hS : (⟨id, out, ms, life, want⟩ : Cn) = S at *
  obtain ⟨kb, kr, bc⟩ := bx2 w #[.int .i64 id, .slice A n c, .slice B m d, .int .i64 life, .int .i64 want] #[.int .i64 0, .slice none 0 0, .slice none 0 0, .int .i64 0, .int .i64 0] 25 25
  by_cases hok : okCn S
  rotate_left
  · rw [if_neg hok]
    rw [hcn hok] at hck
    have HCK := Lib.hid hck; clear hck hcl hoz hce hcn
    obtain ⟨p0, p1, p2, p3, p4⟩ := kb.fiveI; obtain ⟨r0, r1, r2, r3, r4⟩ := kr.fiveI; obtain ⟨g0, g1, g2, g3, g4⟩ := kr.fiveFI; obtain ⟨f0, f1, f2, f3, f4⟩ := kb.fiveFI
    go_enter Try.func21, Try.ntmps21
    go_wp2_with (first | (go_at_call 14; refine (HCK.out _ bc).mono ?_; rintro e w1 ⟨rfl, hC⟩; dsimp only; (try clear p0 p1 p2 p3 p4 r0 r1 r2 r3 r4 g0 g1 g2 g3 g4 f0 f1 f2 f3 f4); replace kb := kb.on hC; replace kr := kr.on hC; replace bc := bc.trans (hC.mono bc.size); clear hC; obtain ⟨p0, p1, p2, p3, p4⟩ := kb.fiveI; obtain ⟨r0, r1, r2, r3, r4⟩ := kr.fiveI; obtain ⟨g0, g1, g2, g3, g4⟩ := kr.fiveFI; obtain ⟨f0, f1, f2, f3, f4⟩ := kb.fiveFI))
    exact bodyPost_ret (v := .tuple #[.agg #[.int .i64 0, .slice none 0 0, .slice none 0 0, .int .i64 0, .int .i64 0], .int .i64 120]) (by simp [results, Try.results21, go_sem, r0, r1, r2, r3, r4]) rfl ⟨⟨none, 0, 0⟩, ⟨none, 0, 0⟩, rfl, CnFr.zero _ _, by repeat (first | refine Below.setCell ?_ (by dsimp only; omega) _ | exact bc)⟩
  rw [if_pos hok]
  rw [hce.2 hok] at hck
  have hcl := fun U hb => hcl U (hoz hok) hb
  have HCK := Lib.hid hck; have HCL := Lib.hid hcl; clear hck hcl hoz hce hcn
  by_cases cd1 : -1 ≤ q
  rotate_left
  · rw [if_neg (by omega)]
    have d1 : decide (q < -1) = true := by simp; omega
    obtain ⟨p0, p1, p2, p3, p4⟩ := kb.fiveI; obtain ⟨r0, r1, r2, r3, r4⟩ := kr.fiveI; obtain ⟨g0, g1, g2, g3, g4⟩ := kr.fiveFI; obtain ⟨f0, f1, f2, f3, f4⟩ := kb.fiveFI
    go_enter Try.func21, Try.ntmps21
    go_wp2_with (first | (go_at_call 14; refine (HCK.out _ bc).mono ?_; rintro e w1 ⟨rfl, hC⟩; dsimp only; (try clear p0 p1 p2 p3 p4 r0 r1 r2 r3 r4 g0 g1 g2 g3 g4 f0 f1 f2 f3 f4); replace kb := kb.on hC; replace kr := kr.on hC; replace bc := bc.trans (hC.mono bc.size); clear hC; obtain ⟨p0, p1, p2, p3, p4⟩ := kb.fiveI; obtain ⟨r0, r1, r2, r3, r4⟩ := kr.fiveI; obtain ⟨g0, g1, g2, g3, g4⟩ := kr.fiveFI; obtain ⟨f0, f1, f2, f3, f4⟩ := kb.fiveFI))
    exact bodyPost_ret (v := .tuple #[.agg #[.int .i64 0, .slice none 0 0, .slice none 0 0, .int .i64 0, .int .i64 0], .int .i64 2]) (by simp [results, Try.results21, go_sem, r0, r1, r2, r3, r4]) rfl ⟨⟨none, 0, 0⟩, ⟨none, 0, 0⟩, rfl, CnFr.zero _ _, by repeat (first | refine Below.setCell ?_ (by dsimp only; omega) _ | exact bc)⟩
  have d1 : decide (q < -1) = false := by simp; omega
  by_cases cd2 : q < 4
  rotate_left
  · rw [if_neg (by omega)]
    have d2 : decide (4 ≤ q) = true := by simp; omega
    obtain ⟨p0, p1, p2, p3, p4⟩ := kb.fiveI; obtain ⟨r0, r1, r2, r3, r4⟩ := kr.fiveI; obtain ⟨g0, g1, g2, g3, g4⟩ := kr.fiveFI; obtain ⟨f0, f1, f2, f3, f4⟩ := kb.fiveFI
    go_enter Try.func21, Try.ntmps21
    go_wp2_with (first | (go_at_call 14; refine (HCK.out _ bc).mono ?_; rintro e w1 ⟨rfl, hC⟩; dsimp only; (try clear p0 p1 p2 p3 p4 r0 r1 r2 r3 r4 g0 g1 g2 g3 g4 f0 f1 f2 f3 f4); replace kb := kb.on hC; replace kr := kr.on hC; replace bc := bc.trans (hC.mono bc.size); clear hC; obtain ⟨p0, p1, p2, p3, p4⟩ := kb.fiveI; obtain ⟨r0, r1, r2, r3, r4⟩ := kr.fiveI; obtain ⟨g0, g1, g2, g3, g4⟩ := kr.fiveFI; obtain ⟨f0, f1, f2, f3, f4⟩ := kb.fiveFI))
    exact bodyPost_ret (v := .tuple #[.agg #[.int .i64 0, .slice none 0 0, .slice none 0 0, .int .i64 0, .int .i64 0], .int .i64 2]) (by simp [results, Try.results21, go_sem, r0, r1, r2, r3, r4]) rfl ⟨⟨none, 0, 0⟩, ⟨none, 0, 0⟩, rfl, CnFr.zero _ _, by repeat (first | refine Below.setCell ?_ (by dsimp only; omega) _ | exact bc)⟩
  have d2 : decide (4 ≤ q) = false := by simp; omega
  rw [if_pos ⟨cd1, cd2⟩]
  obtain ⟨p0, p1, p2, p3, p4⟩ := kb.fiveI; obtain ⟨r0, r1, r2, r3, r4⟩ := kr.fiveI; obtain ⟨g0, g1, g2, g3, g4⟩ := kr.fiveFI; obtain ⟨f0, f1, f2, f3, f4⟩ := kb.fiveFI
  go_enter Try.func21, Try.ntmps21
  go_upto_region 7 with (first | (go_at_call 14; refine (HCK.out _ bc).mono ?_; rintro e w1 ⟨rfl, hC⟩; dsimp only; (try clear p0 p1 p2 p3 p4 r0 r1 r2 r3 r4 g0 g1 g2 g3 g4 f0 f1 f2 f3 f4); replace kb := kb.on hC; replace kr := kr.on hC; replace bc := bc.trans (hC.mono bc.size); clear hC; obtain ⟨p0, p1, p2, p3, p4⟩ := kb.fiveI; obtain ⟨r0, r1, r2, r3, r4⟩ := kr.fiveI; obtain ⟨g0, g1, g2, g3, g4⟩ := kr.fiveFI; obtain ⟨f0, f1, f2, f3, f4⟩ := kb.fiveFI) | (go_at_call 9; refine (HCL.out _ bc).mono ?_; rintro e w2 ⟨⟨vA, vn, vc⟩, ⟨uA, un, uc⟩, l, rfl, hcl, hC⟩; dsimp only; (try clear p0 p1 p2 p3 p4 r0 r1 r2 r3 r4 g0 g1 g2 g3 g4 f0 f1 f2 f3 f4); replace kb := kb.on hC; replace kr := kr.on hC; have hcl := own_cl hcl bc.size; replace bc := bc.trans (hC.mono bc.size); clear hC; obtain ⟨p0, p1, p2, p3, p4⟩ := kb.fiveI; obtain ⟨r0, r1, r2, r3, r4⟩ := kr.fiveI; obtain ⟨g0, g1, g2, g3, g4⟩ := kr.fiveFI; obtain ⟨f0, f1, f2, f3, f4⟩ := kb.fiveFI))
  subst hS
  have hG := grown5I w2 w.heap.size (.int .i64 id) (.slice vA vn vc) (.slice uA un uc) (.int .i64 life) (.int .i64 want)
  replace hcl := hcl.keep kb (by decide) (by decide) hG
  replace kr := kr.grown hG (some_ne (by omega))
  replace bc := Below.off bc bc.size (Nat.le_refl _) hG
  replace kb := kb.put5I (.int .i64 id) (.slice vA vn vc) (.slice uA un uc) (.int .i64 life) (.int .i64 want)
  (try clear p0 p1 p2 p3 p4 r0 r1 r2 r3 r4 g0 g1 g2 g3 g4 f0 f1 f2 f3 f4)
  clear hG
  generalize (((((w2.setCell ⟨w.heap.size, 0, none⟩ (.int .i64 id)).setCell ⟨w.heap.size, 1, none⟩ (.slice vA vn vc)).setCell ⟨w.heap.size, 2, none⟩ (.slice uA un uc)).setCell ⟨w.heap.size, 3, none⟩ (.int .i64 life)).setCell ⟨w.heap.size, 4, none⟩ (.int .i64 want)) = u3 at *
  obtain ⟨p0, p1, p2, p3, p4⟩ := kb.fiveI; obtain ⟨r0, r1, r2, r3, r4⟩ := kr.fiveI; obtain ⟨g0, g1, g2, g3, g4⟩ := kr.fiveFI; obtain ⟨f0, f1, f2, f3, f4⟩ := kb.fiveFI
  have hG := only_setCell (World.grownBy.refl u3 (some w.heap.size)) (p := ⟨w.heap.size, 4, none⟩) (.inl rfl) (.int .i64 q)
  have hcl4 := hcl.keep kb (by decide) (by decide) hG
  have kr4 := kr.grown hG (some_ne (by omega))
  have bc4 := Below.off bc bc.size (Nat.le_refl _) hG
  have HCL4 := Lib.hid hcl4; clear hcl4 hG
  go_wp2
  exact bodyPost_ret (v := .tuple #[.agg #[.int .i64 id, .slice vA vn vc, .slice uA un uc, .int .i64 life, .int .i64 q], .int .i64 0]) (by simp [results, Try.results21, go_sem, r0, r1, r2, r3, r4]) rfl ⟨⟨vA, vn, vc⟩, ⟨uA, un, uc⟩, rfl, (ClOk.fr (l := l) (HCL4.out.keep kr4 (by decide) (by decide) (grown5I _ _ _ _ _ _ _))), by repeat (first | refine Below.setCell ?_ (by dsimp only; omega) _ | exact bc)⟩
set_option maxRecDepth 100000 in
set_option maxHeartbeats 4000000 in
theorem rwriteCn_any (s : Cn) (v u : Sl3) (x : Sl3) (bs : List UInt8) (w : World) (h : CnOk w.heap.size w s v u) (hx : BOk w.heap.size w bs x) : Calls Try.prog 17 #[.agg (cCn s v u), .slice x.A x.n x.c] w (ResCn w (writeCn s bs)) := by
  have hck := fun U (hb : Below w.heap.size w U) => rchkCn_any s v u U (h.on hb)
  have hcl := fun U (hz : SzCn s) (hb : Below w.heap.size w U) => rclone_any s v u U (h.on hb) hz
  have HX := Lib.hid hx
  have hxn := hx.bn; clear hx
  obtain ⟨xA, xn, xc⟩ := x
  unfold ResCn writeCn
  have hoz := @okCn_sz s
  have hce := @chkCn_zero s
  have hcn := @chkCn_no s
  clear h
  obtain ⟨id, out, ms, life, want⟩ := s
  obtain ⟨A, n, c⟩ := v
  obtain ⟨B, m, d⟩ := u
  dsimp only [cCn] at *
  generalize hS : (⟨id, out, ms, life, want⟩ : Cn) = S at *
  obtain ⟨kb, kr, bc⟩ := bx2 w #[.int .i64 id, .slice A n c, .slice B m d, .int .i64 life, .int .i64 want] #[.int .i64 0, .slice none 0 0, .slice none 0 0, .int .i64 0, .int .i64 0] 25 25
  by_cases hok : okCn S
  rotate_left
  · rw [if_neg hok]
    rw [hcn hok] at hck
    have HCK := Lib.hid hck; clear hck hcl hoz hce hcn
    obtain ⟨p0, p1, p2, p3, p4⟩ := kb.fiveI; obtain ⟨r0, r1, r2, r3, r4⟩ := kr.fiveI; obtain ⟨g0, g1, g2, g3, g4⟩ := kr.fiveFI; obtain ⟨f0, f1, f2, f3, f4⟩ := kb.fiveFI
    go_enter Try.func17, Try.ntmps17
    go_wp2_with (first | (go_at_call 14; refine (HCK.out _ bc).mono ?_; rintro e w1 ⟨rfl, hC⟩; dsimp only; (try clear p0 p1 p2 p3 p4 r0 r1 r2 r3 r4 g0 g1 g2 g3 g4 f0 f1 f2 f3 f4); replace kb := kb.on hC; replace kr := kr.on hC; replace bc := bc.trans (hC.mono bc.size); clear hC; obtain ⟨p0, p1, p2, p3, p4⟩ := kb.fiveI; obtain ⟨r0, r1, r2, r3, r4⟩ := kr.fiveI; obtain ⟨g0, g1, g2, g3, g4⟩ := kr.fiveFI; obtain ⟨f0, f1, f2, f3, f4⟩ := kb.fiveFI))
    exact bodyPost_ret (v := .tuple #[.agg #[.int .i64 0, .slice none 0 0, .slice none 0 0, .int .i64 0, .int .i64 0], .int .i64 120]) (by simp [results, Try.results17, go_sem, r0, r1, r2, r3, r4]) rfl ⟨⟨none, 0, 0⟩, ⟨none, 0, 0⟩, rfl, CnFr.zero _ _, by repeat (first | refine Below.setCell ?_ (by dsimp only; omega) _ | exact bc)⟩
  rw [if_pos hok]
  rw [hce.2 hok] at hck
  have hcl := fun U hb => hcl U (hoz hok) hb
  have HCK := Lib.hid hck; have HCL := Lib.hid hcl; clear hck hcl hoz hce hcn
  by_cases c1 : xn ≤ 8
  rotate_left
  · rw [if_neg (by omega)]
    have d1 : decide (8 < (xn : Int)) = true := by simp; omega
    clear hxn
    obtain ⟨p0, p1, p2, p3, p4⟩ := kb.fiveI; obtain ⟨r0, r1, r2, r3, r4⟩ := kr.fiveI; obtain ⟨g0, g1, g2, g3, g4⟩ := kr.fiveFI; obtain ⟨f0, f1, f2, f3, f4⟩ := kb.fiveFI
    go_enter Try.func17, Try.ntmps17
    go_wp2_with (first | (go_at_call 14; refine (HCK.out _ bc).mono ?_; rintro e w1 ⟨rfl, hC⟩; dsimp only; (try clear p0 p1 p2 p3 p4 r0 r1 r2 r3 r4 g0 g1 g2 g3 g4 f0 f1 f2 f3 f4); replace kb := kb.on hC; replace kr := kr.on hC; replace bc := bc.trans (hC.mono bc.size); clear hC; obtain ⟨p0, p1, p2, p3, p4⟩ := kb.fiveI; obtain ⟨r0, r1, r2, r3, r4⟩ := kr.fiveI; obtain ⟨g0, g1, g2, g3, g4⟩ := kr.fiveFI; obtain ⟨f0, f1, f2, f3, f4⟩ := kb.fiveFI))
    exact bodyPost_ret (v := .tuple #[.agg #[.int .i64 0, .slice none 0 0, .slice none 0 0, .int .i64 0, .int .i64 0], .int .i64 3]) (by simp [results, Try.results17, go_sem, r0, r1, r2, r3, r4]) rfl ⟨⟨none, 0, 0⟩, ⟨none, 0, 0⟩, rfl, CnFr.zero _ _, by repeat (first | refine Below.setCell ?_ (by dsimp only; omega) _ | exact bc)⟩
  have d1 : decide (8 < (xn : Int)) = false := by simp; omega
  rw [if_pos (by omega)]
  clear hxn
  obtain ⟨p0, p1, p2, p3, p4⟩ := kb.fiveI; obtain ⟨r0, r1, r2, r3, r4⟩ := kr.fiveI; obtain ⟨g0, g1, g2, g3, g4⟩ := kr.fiveFI; obtain ⟨f0, f1, f2, f3, f4⟩ := kb.fiveFI
  go_enter Try.func17, Try.ntmps17
  go_upto_region 7 with (first | (go_at_call 14; refine (HCK.out _ bc).mono ?_; rintro e w1 ⟨rfl, hC⟩; dsimp only; (try clear p0 p1 p2 p3 p4 r0 r1 r2 r3 r4 g0 g1 g2 g3 g4 f0 f1 f2 f3 f4); replace kb := kb.on hC; replace kr := kr.on hC; replace bc := bc.trans (hC.mono bc.size); clear hC; obtain ⟨p0, p1, p2, p3, p4⟩ := kb.fiveI; obtain ⟨r0, r1, r2, r3, r4⟩ := kr.fiveI; obtain ⟨g0, g1, g2, g3, g4⟩ := kr.fiveFI; obtain ⟨f0, f1, f2, f3, f4⟩ := kb.fiveFI) | (go_at_call 9; refine (HCL.out _ bc).mono ?_; rintro e w2 ⟨⟨vA, vn, vc⟩, ⟨uA, un, uc⟩, l, rfl, hcl, hC⟩; dsimp only; (try clear p0 p1 p2 p3 p4 r0 r1 r2 r3 r4 g0 g1 g2 g3 g4 f0 f1 f2 f3 f4); replace kb := kb.on hC; replace kr := kr.on hC; have hcl := own_cl hcl bc.size; replace bc := bc.trans (hC.mono bc.size); clear hC; obtain ⟨p0, p1, p2, p3, p4⟩ := kb.fiveI; obtain ⟨r0, r1, r2, r3, r4⟩ := kr.fiveI; obtain ⟨g0, g1, g2, g3, g4⟩ := kr.fiveFI; obtain ⟨f0, f1, f2, f3, f4⟩ := kb.fiveFI))
  subst hS
  have hG := grown5I w2 w.heap.size (.int .i64 id) (.slice vA vn vc) (.slice uA un uc) (.int .i64 life) (.int .i64 want)
  replace hcl := hcl.keep kb (by decide) (by decide) hG
  replace kr := kr.grown hG (some_ne (by omega))
  replace bc := Below.off bc bc.size (Nat.le_refl _) hG
  replace kb := kb.put5I (.int .i64 id) (.slice vA vn vc) (.slice uA un uc) (.int .i64 life) (.int .i64 want)
  (try clear p0 p1 p2 p3 p4 r0 r1 r2 r3 r4 g0 g1 g2 g3 g4 f0 f1 f2 f3 f4)
  clear hG
  generalize (((((w2.setCell ⟨w.heap.size, 0, none⟩ (.int .i64 id)).setCell ⟨w.heap.size, 1, none⟩ (.slice vA vn vc)).setCell ⟨w.heap.size, 2, none⟩ (.slice uA un uc)).setCell ⟨w.heap.size, 3, none⟩ (.int .i64 life)).setCell ⟨w.heap.size, 4, none⟩ (.int .i64 want)) = u3 at *
  obtain ⟨p0, p1, p2, p3, p4⟩ := kb.fiveI; obtain ⟨r0, r1, r2, r3, r4⟩ := kr.fiveI; obtain ⟨g0, g1, g2, g3, g4⟩ := kr.fiveFI; obtain ⟨f0, f1, f2, f3, f4⟩ := kb.fiveFI
  go_upto_region 8 with (at_builtin; refine wpList_append_bytes rfl _ _ rfl u3.heap.size bs ⟨xA, xn, xc⟩ (HX.out.on bc) (by dsimp only; omega) rfl rfl ?_; intro A5 c5 w5 hown hgrow; have hb0 := bc.size; have kb5 := kb.grown hgrow (by simp); have kr5 := kr.grown hgrow (by simp); have bc5 := below_none bc bc.size hgrow; have hcl5 := hcl.on (grown_below hgrow); (try clear p0 p1 p2 p3 p4 r0 r1 r2 r3 r4 g0 g1 g2 g3 g4 f0 f1 f2 f3 f4); clear hgrow kb kr bc hcl; dsimp only at hown; have hown5 := own_mono hown hb0; clear hown; have kb := kb5; have kr := kr5; have bc := bc5; clear kb5 kr5 bc5; obtain ⟨p0, p1, p2, p3, p4⟩ := kb.fiveI; obtain ⟨r0, r1, r2, r3, r4⟩ := kr.fiveI; obtain ⟨g0, g1, g2, g3, g4⟩ := kr.fiveFI; obtain ⟨f0, f1, f2, f3, f4⟩ := kb.fiveFI)
  have hnew : ClOk w.heap.size w5 ⟨id, bs, ms, life, want⟩ ⟨A5, xn, c5⟩ ⟨uA, un, uc⟩ l := ⟨hcl5.1, hcl5.2.1, hcl5.2.2.1, hown5⟩
  clear hcl5 hown5
  have hG := only_setCell (World.grownBy.refl w5 (some w.heap.size)) (p := ⟨w.heap.size, 1, none⟩) (.inl rfl) (.slice A5 xn c5)
  have hcl4 := hnew.keep kb (by decide) (by decide) hG
  have kr4 := kr.grown hG (some_ne (by omega))
  have bc4 := Below.off bc bc.size (Nat.le_refl _) hG
  have HCL4 := Lib.hid hcl4; clear hcl4 hG hnew
  have kb4 : Blk (w5.setCell ⟨w.heap.size, 1, none⟩ (.slice A5 xn c5)) w.heap.size 25 #[.int .i64 id, .slice A5 xn c5, .slice uA un uc, .int .i64 life, .int .i64 want] := by simpa using kb.set_ 1 (.slice A5 xn c5)
  (try clear p0 p1 p2 p3 p4 r0 r1 r2 r3 r4 g0 g1 g2 g3 g4 f0 f1 f2 f3 f4)
  clear kb kr bc
  generalize w5.setCell ⟨w.heap.size, 1, none⟩ (.slice A5 xn c5) = u6 at *
  have kb := kb4; have kr := kr4; have bc := bc4; clear kb4 kr4 bc4
  obtain ⟨p0, p1, p2, p3, p4⟩ := kb.fiveI; obtain ⟨r0, r1, r2, r3, r4⟩ := kr.fiveI; obtain ⟨g0, g1, g2, g3, g4⟩ := kr.fiveFI; obtain ⟨f0, f1, f2, f3, f4⟩ := kb.fiveFI
  go_wp2
  exact bodyPost_ret (v := .tuple #[.agg #[.int .i64 id, .slice A5 xn c5, .slice uA un uc, .int .i64 life, .int .i64 want], .int .i64 0]) (by simp [results, Try.results17, go_sem, r0, r1, r2, r3, r4]) rfl ⟨⟨A5, xn, c5⟩, ⟨uA, un, uc⟩, rfl, (ClOk.fr (l := l) (HCL4.out.keep kr (by decide) (by decide) (grown5I _ _ _ _ _ _ _))), by repeat (first | refine Below.setCell ?_ (by dsimp only; omega) _ | exact bc)⟩
end Go.Proofs.Ytnlmpemfpkmodaa
