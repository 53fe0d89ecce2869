/-
  Check of package medl answers as the document says, of all lists. Condition: a list that can be read. (Printed by tools/gen07h.py.)
-/
import Derived.Test.YtlkmipcenlhacaaMG
namespace Go.Proofs.Ytlkmipcenlhacaa
open Go.RowKit

theorem checkM_yes {m : ML} (h : okM m) : checkM m = 0 := if_pos h
theorem checkM_no {m : ML} (h : ¬ okM m) : checkM m = 70 := if_neg h
theorem beyond_true {lo hi n : Int} (h : beyondS lo hi n = true) (k : lo ≤ n ∧ n ≤ hi) : False := by
  rw [(beyond_iff lo hi n).2 k] at h; cases h
theorem beyond_false {lo hi n : Int} (h : ¬ beyondS lo hi n = true) : lo ≤ n ∧ n ≤ hi := by
  rw [Bool.not_eq_true] at h; exact (beyond_iff lo hi n).1 h
theorem not_beyond {lo hi n : Int} (h : ¬ beyondS lo hi n = true) : beyondS lo hi n = false := by simpa using h
set_option maxRecDepth 100000 in
set_option maxHeartbeats 8000000 in
theorem mcheck_any (m : ML) (c s : Slc) (w : World) (hM : Med w m c s) : Calls Try.prog 33 #[vM m c s] w fun e w' => e = .returned (.int .i64 (checkM m)) ∧ Below w.heap.size w w' := by
  obtain ⟨R, hR⟩ : ∃ R, R = checkM m := ⟨_, rfl⟩
  rw [← hR]
  have HM := Lib.hid hM; clear hM
  have HR := Lib.hid hR; clear hR
  obtain ⟨N, S, G, W, D, L, cold, ms⟩ := m
  obtain ⟨Ac, nc, cc⟩ := c
  obtain ⟨As, ns, cs⟩ := s
  dsimp only [vM] at *
  obtain ⟨kb, bc⟩ := bx1 w #[.int .i64 N, .int .i64 S, .int .i64 G, .int .i64 W, .int .i64 D, .int .i64 L, .slice Ac nc cc, .slice As ns cs] 25
  go_enter Try.func33, Try.ntmps33
  go_wp2_with fail
  generalize w.alloc (.cells #[.int .i64 N, .int .i64 S, .int .i64 G, .int .i64 W, .int .i64 D, .int .i64 L, .slice Ac nc cc, .slice As ns cs] 25) = u1 at *
  have hdr : Below u1.heap.size u1 u1.drew := (Below.refl _ _).drew
  replace kb := kb.on hdr; replace bc := bc.trans (hdr.mono bc.size); clear hdr
  (try clear p0 p1 p2 p3 p4 p5 p6 p7)
  obtain ⟨p0, p1, p2, p3, p4, p5, p6, p7⟩ := kb.eight
  by_cases c1 : beyondS 4 8 N = true
  · skip
    obtain rfl : R = 70 := by rw [HR.out]; exact checkM_no (fun h => beyond_true c1 h.1)
    clear HR
    go_region_held3 (fun w' => w'.cell? ⟨w.heap.size, 0, none⟩ = some (.int .i64 N)) (first | exact p0) (first
      | (go_at_call 45; refine (beyond_any 4 8 _).mono ?_; rintro e w2 ⟨g, rfl, hg, k1, k2, hC⟩; dsimp only; replace kb := kb.on hC; replace bc := bc.trans (hC.mono bc.size); clear hC; obtain ⟨p0, p1, p2, p3, p4, p5, p6, p7⟩ := kb.eight)
      | (go_at_call 58; refine (beyond1_any 4 8 _ _ _ k1 k2).mono ?_; rintro e w3 ⟨rfl, rfl⟩; rw [c1]))
    all_goals
      go_wp2
      go_ret
      exact ⟨rfl, bc⟩
  have c1f := not_beyond c1
  go_region_held3 (fun w' => w'.cell? ⟨w.heap.size, 0, none⟩ = some (.int .i64 N)) (first | exact p0) (first
    | (go_at_call 45; refine (beyond_any 4 8 _).mono ?_; rintro e w2 ⟨g1, rfl, hg, k1, k2, hC⟩; dsimp only; replace kb := kb.on hC; replace bc := bc.trans (hC.mono bc.size); clear hC; obtain ⟨p0, p1, p2, p3, p4, p5, p6, p7⟩ := kb.eight)
    | (go_at_call 58; refine (beyond1_any 4 8 _ _ _ k1 k2).mono ?_; rintro e w3 ⟨rfl, rfl⟩; rw [c1f]))
  replace c1 := beyond_false c1
  clear c1f k1 k2
  clear hg
  clear p0 p1 p2 p3 p4 p5 p6 p7
  (try clear p0 p1 p2 p3 p4 p5 p6 p7)
  obtain ⟨p0, p1, p2, p3, p4, p5, p6, p7⟩ := kb.eight
  go_wp2_with fail
  generalize w2 = u2 at *
  have hdr : Below u2.heap.size u2 u2.drew := (Below.refl _ _).drew
  replace kb := kb.on hdr; replace bc := bc.trans (hdr.mono bc.size); clear hdr
  (try clear p0 p1 p2 p3 p4 p5 p6 p7)
  obtain ⟨p0, p1, p2, p3, p4, p5, p6, p7⟩ := kb.eight
  by_cases c2 : beyondS 1 4 (ns : Int) = true
  · skip
    obtain rfl : R = 70 := by rw [HR.out]; exact checkM_no (fun h => beyond_true c2 (by have h2 := h.2.1; have h3 := HM.out.sn; dsimp only at h2 h3; omega))
    clear HR
    go_region_held3 (fun w' => w'.cell? ⟨w.heap.size, 7, none⟩ = some (.slice As ns cs)) (first | exact p7) (first
      | (go_at_call 45; refine (beyond_any 1 4 _).mono ?_; rintro e w2 ⟨g, rfl, hg, k1, k2, hC⟩; dsimp only; replace kb := kb.on hC; replace bc := bc.trans (hC.mono bc.size); clear hC; obtain ⟨p0, p1, p2, p3, p4, p5, p6, p7⟩ := kb.eight)
      | (go_at_call 58; refine (beyond1_any 1 4 _ _ _ k1 k2).mono ?_; rintro e w3 ⟨rfl, rfl⟩; rw [c2]))
    all_goals
      go_wp2
      go_ret
      exact ⟨rfl, bc⟩
  have c2f := not_beyond c2
  go_region_held3 (fun w' => w'.cell? ⟨w.heap.size, 7, none⟩ = some (.slice As ns cs)) (first | exact p7) (first
    | (go_at_call 45; refine (beyond_any 1 4 _).mono ?_; rintro e w2 ⟨g2, rfl, hg, k1, k2, hC⟩; dsimp only; replace kb := kb.on hC; replace bc := bc.trans (hC.mono bc.size); clear hC; obtain ⟨p0, p1, p2, p3, p4, p5, p6, p7⟩ := kb.eight)
    | (go_at_call 58; refine (beyond1_any 1 4 _ _ _ k1 k2).mono ?_; rintro e w3 ⟨rfl, rfl⟩; rw [c2f]))
  replace c2 := beyond_false c2
  clear c2f k1 k2
  clear hg
  (try clear p0 p1 p2 p3 p4 p5 p6 p7)
  obtain ⟨p0, p1, p2, p3, p4, p5, p6, p7⟩ := kb.eight
  have hcn := HM.out.cn
  have hcm := HM.out.cm
  dsimp only at hcn hcm
  have HCN := Lib.hid hcn; clear hcn
  have hho := fun W h => holding_any Ac nc cc cold W HCN.out hcm h
  have htl := trues_le cold
  have hw2 : 2 ≤ trues cold ∨ trues cold < 2 := by omega
  obtain ⟨t, ht⟩ : ∃ t, t = trues cold := ⟨_, rfl⟩
  rw [← ht] at hho hw2 htl
  have HT := Lib.hid ht; clear ht
  have HHO := Lib.hid hho; clear hho
  by_cases c3 : (nc : Int) = N
  rotate_left
  · have d3 : ((nc : Int) != N) = true := by simpa using c3
    obtain rfl : R = 70 := by rw [HR.out]; exact checkM_no (fun h => (by have h2 := h.2.2.1.1; have h3 := HCN.out; dsimp only at h2; omega))
    clear HR
    clear c3
    go_wp2_with fail
    go_ret
    exact ⟨rfl, bc⟩
  have d3 : ((nc : Int) != N) = false := by simpa using c3
  have hN3 : (cold.length : Int) = N := by have h3 := HCN.out; omega
  have HN3 := Lib.hid hN3; clear hN3 c3
  rcases hw2 with c3 | c3
  rotate_left
  · have d4 : decide ((t : Int) < 2) = true := by simp; omega
    obtain rfl : R = 70 := by rw [HR.out]; exact checkM_no (fun h => (by have h2 := h.2.2.1.2; have h3 := HT.out; dsimp only at h2; omega))
    clear HR
    go_wp2_with (first | (go_at_call 46; refine (HHO.out _ (HM.out.on bc).cb).mono ?_; rintro e w3 ⟨rfl, rfl⟩))
    go_ret
    exact ⟨rfl, bc⟩
  have d4 : decide ((t : Int) < 2) = false := by simp; omega
  generalize w2 = u3 at *
  go_wp2_with (first | (go_at_call 46; refine (HHO.out _ (HM.out.on bc).cb).mono ?_; rintro e w3 ⟨rfl, rfl⟩))
  clear HHO d3 d4
  have hdr : Below u3.heap.size u3 u3.drew := (Below.refl _ _).drew
  replace kb := kb.on hdr; replace bc := bc.trans (hdr.mono bc.size); clear hdr
  (try clear p0 p1 p2 p3 p4 p5 p6 p7)
  obtain ⟨p0, p1, p2, p3, p4, p5, p6, p7⟩ := kb.eight
  by_cases c4 : ms.all (okMode N cold ms.length) = true
  rotate_left
  · have c4f : ms.all (okMode N cold ms.length) = false := by simpa using c4
    obtain rfl : R = 70 := by rw [HR.out]; exact checkM_no (fun h => c4 h.2.2.2.1)
    clear HR
    go_region_held3 (fun w' => w'.cell? ⟨w.heap.size, 0, none⟩ = some (.int .i64 N) ∧ w'.cell? ⟨w.heap.size, 1, none⟩ = some (.int .i64 S) ∧ w'.cell? ⟨w.heap.size, 2, none⟩ = some (.int .i64 G) ∧ w'.cell? ⟨w.heap.size, 3, none⟩ = some (.int .i64 W) ∧ w'.cell? ⟨w.heap.size, 4, none⟩ = some (.int .i64 D) ∧ w'.cell? ⟨w.heap.size, 5, none⟩ = some (.int .i64 L) ∧ w'.cell? ⟨w.heap.size, 6, none⟩ = some (.slice Ac nc cc) ∧ w'.cell? ⟨w.heap.size, 7, none⟩ = some (.slice As ns cs)) (first | exact ⟨p0, p1, p2, p3, p4, p5, p6, p7⟩) (first
      | (go_at_call 48; refine (unfit_any ⟨N, S, G, W, D, L, cold, ms⟩ ⟨Ac, nc, cc⟩ ⟨As, ns, cs⟩ _).mono ?_; rintro e w2 ⟨g4, rfl, k1, hC⟩; dsimp only; replace kb := kb.on hC; replace bc := bc.trans (hC.mono bc.size); clear hC; obtain ⟨p0, p1, p2, p3, p4, p5, p6, p7⟩ := kb.eight)
      | (go_at_call 47; refine (containsM_any ⟨N, S, G, W, D, L, cold, ms⟩ ⟨Ac, nc, cc⟩ ⟨As, ns, cs⟩ _ _ k1 (HM.out.on bc) HN3.out).mono ?_; rintro e w3 ⟨rfl, hC⟩; dsimp only; replace kb := kb.on hC; replace bc := bc.trans (hC.mono bc.size); clear hC; obtain ⟨p0, p1, p2, p3, p4, p5, p6, p7⟩ := kb.eight; rw [c4f]))
    all_goals
      go_wp2
      go_ret
      exact ⟨rfl, bc⟩
  go_region_held3 (fun w' => w'.cell? ⟨w.heap.size, 0, none⟩ = some (.int .i64 N) ∧ w'.cell? ⟨w.heap.size, 1, none⟩ = some (.int .i64 S) ∧ w'.cell? ⟨w.heap.size, 2, none⟩ = some (.int .i64 G) ∧ w'.cell? ⟨w.heap.size, 3, none⟩ = some (.int .i64 W) ∧ w'.cell? ⟨w.heap.size, 4, none⟩ = some (.int .i64 D) ∧ w'.cell? ⟨w.heap.size, 5, none⟩ = some (.int .i64 L) ∧ w'.cell? ⟨w.heap.size, 6, none⟩ = some (.slice Ac nc cc) ∧ w'.cell? ⟨w.heap.size, 7, none⟩ = some (.slice As ns cs)) (first | exact ⟨p0, p1, p2, p3, p4, p5, p6, p7⟩) (first
    | (go_at_call 48; refine (unfit_any ⟨N, S, G, W, D, L, cold, ms⟩ ⟨Ac, nc, cc⟩ ⟨As, ns, cs⟩ _).mono ?_; rintro e w2 ⟨g4, rfl, k1, hC⟩; dsimp only; replace kb := kb.on hC; replace bc := bc.trans (hC.mono bc.size); clear hC; obtain ⟨p0, p1, p2, p3, p4, p5, p6, p7⟩ := kb.eight)
    | (go_at_call 47; refine (containsM_any ⟨N, S, G, W, D, L, cold, ms⟩ ⟨Ac, nc, cc⟩ ⟨As, ns, cs⟩ _ _ k1 (HM.out.on bc) HN3.out).mono ?_; rintro e w3 ⟨rfl, hC⟩; dsimp only; replace kb := kb.on hC; replace bc := bc.trans (hC.mono bc.size); clear hC; obtain ⟨p0, p1, p2, p3, p4, p5, p6, p7⟩ := kb.eight; rw [c4]))
  clear k1
  (try clear p0 p1 p2 p3 p4 p5 p6 p7)
  obtain ⟨p0, p1, p2, p3, p4, p5, p6, p7⟩ := kb.eight
  go_wp2_with fail
  generalize w3 = u4 at *
  have hdr : Below u4.heap.size u4 u4.drew := (Below.refl _ _).drew
  replace kb := kb.on hdr; replace bc := bc.trans (hdr.mono bc.size); clear hdr
  (try clear p0 p1 p2 p3 p4 p5 p6 p7)
  obtain ⟨p0, p1, p2, p3, p4, p5, p6, p7⟩ := kb.eight
  by_cases c5 : beyondS 0 64 D = true
  · skip
    obtain rfl : R = 70 := by rw [HR.out]; exact checkM_no (fun h => beyond_true c5 h.2.2.2.2.1)
    clear HR
    refine wp_region_any (by kernel_rfl) ?_
    refine wpAny_take (i := 1) (v := .pointer (some ⟨w.heap.size, 4, none⟩)) rfl (by kernel_rfl) (by kernel_rfl) (by kernel_rfl) (fun _ _ _ h => h) (Or.inl ⟨by rfl, fun w => by go_simp⟩) ?_
    change wpAny _ _ _ _ _ _ ⟨#[.agg #[.int .i64 N, .int .i64 S, .int .i64 G, .int .i64 W, .int .i64 D, .int .i64 L, .slice Ac nc cc, .slice As ns cs], .pointer (some ⟨w.heap.size, 0, none⟩), .int .i64 0, .bool false, .func (.func 58) #[] #[.pointer (some ⟨g1, 0, none⟩), .pointer (some ⟨g1 + 1, 0, none⟩)], .pointer (some ⟨w.heap.size, 0, none⟩), .int .i64 N, .bool false, .bool false, .func (.func 58) #[] #[.pointer (some ⟨g2, 0, none⟩), .pointer (some ⟨g2 + 1, 0, none⟩)], .pointer (some ⟨w.heap.size, 7, none⟩), .slice As ns cs, .int .i64 (ns : Int), .bool false, .bool false, .pointer (some ⟨w.heap.size, 6, none⟩), .slice Ac nc cc, .int .i64 (nc : Int), .pointer (some ⟨w.heap.size, 0, none⟩), .int .i64 N, .bool false, .bool false, .pointer (some ⟨w.heap.size, 6, none⟩), .slice Ac nc cc, .int .i64 (t : Int), .bool false, .bool false, .bool (!true), .pointer (some ⟨w.heap.size, 7, none⟩), .slice As ns cs, .agg #[.int .i64 N, .int .i64 S, .int .i64 G, .int .i64 W, .int .i64 D, .int .i64 L, .slice Ac nc cc, .slice As ns cs], .func (.func 60) #[] #[.pointer (some ⟨g4, 0, none⟩)], .bool (!true), undef, undef, .pointer (some ⟨w.heap.size, 4, none⟩), undef, undef, undef, undef, undef, undef, undef, undef, undef, undef, undef, undef, undef, undef, undef, undef, undef, undef, undef, undef, undef, undef, undef, undef, undef, undef, undef, undef, undef], []⟩ _
    refine wpAny_ready (rs := [0, 2]) (by kernel_rfl) (by simp) ?_
    refine AllReady.cons rfl (fun K hK => ?_) (AllReady.cons rfl (fun K hK => ?_) AllReady.nil)
    · skip
      go_simp
      refine (beyond_any 0 64 _).mono ?_
      rintro e w5 ⟨g5, rfl, hg, k1, k2, hC⟩
      dsimp only
      replace kb := kb.on hC; replace bc := bc.trans (hC.mono bc.size); clear hC
      clear p0 p1 p2 p3 p4 p5 p6 p7
      obtain ⟨p0, p1, p2, p3, p4, p5, p6, p7⟩ := kb.eight
      refine hK _ _ ?_
      clear hK K
      change wpAny _ _ _ _ _ _ ⟨#[.agg #[.int .i64 N, .int .i64 S, .int .i64 G, .int .i64 W, .int .i64 D, .int .i64 L, .slice Ac nc cc, .slice As ns cs], .pointer (some ⟨w.heap.size, 0, none⟩), .int .i64 0, .bool false, .func (.func 58) #[] #[.pointer (some ⟨g1, 0, none⟩), .pointer (some ⟨g1 + 1, 0, none⟩)], .pointer (some ⟨w.heap.size, 0, none⟩), .int .i64 N, .bool false, .bool false, .func (.func 58) #[] #[.pointer (some ⟨g2, 0, none⟩), .pointer (some ⟨g2 + 1, 0, none⟩)], .pointer (some ⟨w.heap.size, 7, none⟩), .slice As ns cs, .int .i64 (ns : Int), .bool false, .bool false, .pointer (some ⟨w.heap.size, 6, none⟩), .slice Ac nc cc, .int .i64 (nc : Int), .pointer (some ⟨w.heap.size, 0, none⟩), .int .i64 N, .bool false, .bool false, .pointer (some ⟨w.heap.size, 6, none⟩), .slice Ac nc cc, .int .i64 (t : Int), .bool false, .bool false, .bool (!true), .pointer (some ⟨w.heap.size, 7, none⟩), .slice As ns cs, .agg #[.int .i64 N, .int .i64 S, .int .i64 G, .int .i64 W, .int .i64 D, .int .i64 L, .slice Ac nc cc, .slice As ns cs], .func (.func 60) #[] #[.pointer (some ⟨g4, 0, none⟩)], .bool (!true), undef, .func (.func 58) #[] #[.pointer (some ⟨g5, 0, none⟩), .pointer (some ⟨g5 + 1, 0, none⟩)], .pointer (some ⟨w.heap.size, 4, none⟩), undef, undef, undef, undef, undef, undef, undef, undef, undef, undef, undef, undef, undef, undef, undef, undef, undef, undef, undef, undef, undef, undef, undef, undef, undef, undef, undef, undef, undef], []⟩ _
      refine wpAny_ready (rs := [2]) (by kernel_rfl) (by simp) ?_
      refine AllReady.cons rfl (fun K hK => ?_) AllReady.nil
      go_simp
      refine hK _ _ ?_
      clear hK K
      change wpAny _ _ _ _ _ _ ⟨#[.agg #[.int .i64 N, .int .i64 S, .int .i64 G, .int .i64 W, .int .i64 D, .int .i64 L, .slice Ac nc cc, .slice As ns cs], .pointer (some ⟨w.heap.size, 0, none⟩), .int .i64 0, .bool false, .func (.func 58) #[] #[.pointer (some ⟨g1, 0, none⟩), .pointer (some ⟨g1 + 1, 0, none⟩)], .pointer (some ⟨w.heap.size, 0, none⟩), .int .i64 N, .bool false, .bool false, .func (.func 58) #[] #[.pointer (some ⟨g2, 0, none⟩), .pointer (some ⟨g2 + 1, 0, none⟩)], .pointer (some ⟨w.heap.size, 7, none⟩), .slice As ns cs, .int .i64 (ns : Int), .bool false, .bool false, .pointer (some ⟨w.heap.size, 6, none⟩), .slice Ac nc cc, .int .i64 (nc : Int), .pointer (some ⟨w.heap.size, 0, none⟩), .int .i64 N, .bool false, .bool false, .pointer (some ⟨w.heap.size, 6, none⟩), .slice Ac nc cc, .int .i64 (t : Int), .bool false, .bool false, .bool (!true), .pointer (some ⟨w.heap.size, 7, none⟩), .slice As ns cs, .agg #[.int .i64 N, .int .i64 S, .int .i64 G, .int .i64 W, .int .i64 D, .int .i64 L, .slice Ac nc cc, .slice As ns cs], .func (.func 60) #[] #[.pointer (some ⟨g4, 0, none⟩)], .bool (!true), undef, .func (.func 58) #[] #[.pointer (some ⟨g5, 0, none⟩), .pointer (some ⟨g5 + 1, 0, none⟩)], .pointer (some ⟨w.heap.size, 4, none⟩), .int .i64 D, undef, undef, undef, undef, undef, undef, undef, undef, undef, undef, undef, undef, undef, undef, undef, undef, undef, undef, undef, undef, undef, undef, undef, undef, undef, undef, undef, undef], []⟩ _
      refine wpAny_ready (rs := [3]) (by kernel_rfl) (by simp) ?_
      refine AllReady.cons rfl (fun K hK => ?_) AllReady.nil
      go_simp
      refine (beyond1_any 0 64 _ _ _ k1 k2).mono ?_
      rintro e w6 ⟨rfl, rfl⟩
      dsimp only
      rw [c5]
      refine hK _ _ ?_
      clear hK K
      change wpAny _ _ _ _ _ _ ⟨#[.agg #[.int .i64 N, .int .i64 S, .int .i64 G, .int .i64 W, .int .i64 D, .int .i64 L, .slice Ac nc cc, .slice As ns cs], .pointer (some ⟨w.heap.size, 0, none⟩), .int .i64 0, .bool false, .func (.func 58) #[] #[.pointer (some ⟨g1, 0, none⟩), .pointer (some ⟨g1 + 1, 0, none⟩)], .pointer (some ⟨w.heap.size, 0, none⟩), .int .i64 N, .bool false, .bool false, .func (.func 58) #[] #[.pointer (some ⟨g2, 0, none⟩), .pointer (some ⟨g2 + 1, 0, none⟩)], .pointer (some ⟨w.heap.size, 7, none⟩), .slice As ns cs, .int .i64 (ns : Int), .bool false, .bool false, .pointer (some ⟨w.heap.size, 6, none⟩), .slice Ac nc cc, .int .i64 (nc : Int), .pointer (some ⟨w.heap.size, 0, none⟩), .int .i64 N, .bool false, .bool false, .pointer (some ⟨w.heap.size, 6, none⟩), .slice Ac nc cc, .int .i64 (t : Int), .bool false, .bool false, .bool (!true), .pointer (some ⟨w.heap.size, 7, none⟩), .slice As ns cs, .agg #[.int .i64 N, .int .i64 S, .int .i64 G, .int .i64 W, .int .i64 D, .int .i64 L, .slice Ac nc cc, .slice As ns cs], .func (.func 60) #[] #[.pointer (some ⟨g4, 0, none⟩)], .bool (!true), undef, .func (.func 58) #[] #[.pointer (some ⟨g5, 0, none⟩), .pointer (some ⟨g5 + 1, 0, none⟩)], .pointer (some ⟨w.heap.size, 4, none⟩), .int .i64 D, .bool true, undef, undef, undef, undef, undef, undef, undef, undef, undef, undef, undef, undef, undef, undef, undef, undef, undef, undef, undef, undef, undef, undef, undef, undef, undef, undef, undef], []⟩ _
      refine wpAny_take (i := 4) (v := .bool true) rfl (by kernel_rfl) (by kernel_rfl) (by kernel_rfl) (fun _ _ _ h => h) (Or.inl ⟨by rfl, fun w => by go_simp⟩) ?_
      change wpAny _ _ _ _ _ _ ⟨#[.agg #[.int .i64 N, .int .i64 S, .int .i64 G, .int .i64 W, .int .i64 D, .int .i64 L, .slice Ac nc cc, .slice As ns cs], .pointer (some ⟨w.heap.size, 0, none⟩), .int .i64 0, .bool false, .func (.func 58) #[] #[.pointer (some ⟨g1, 0, none⟩), .pointer (some ⟨g1 + 1, 0, none⟩)], .pointer (some ⟨w.heap.size, 0, none⟩), .int .i64 N, .bool false, .bool false, .func (.func 58) #[] #[.pointer (some ⟨g2, 0, none⟩), .pointer (some ⟨g2 + 1, 0, none⟩)], .pointer (some ⟨w.heap.size, 7, none⟩), .slice As ns cs, .int .i64 (ns : Int), .bool false, .bool false, .pointer (some ⟨w.heap.size, 6, none⟩), .slice Ac nc cc, .int .i64 (nc : Int), .pointer (some ⟨w.heap.size, 0, none⟩), .int .i64 N, .bool false, .bool false, .pointer (some ⟨w.heap.size, 6, none⟩), .slice Ac nc cc, .int .i64 (t : Int), .bool false, .bool false, .bool (!true), .pointer (some ⟨w.heap.size, 7, none⟩), .slice As ns cs, .agg #[.int .i64 N, .int .i64 S, .int .i64 G, .int .i64 W, .int .i64 D, .int .i64 L, .slice Ac nc cc, .slice As ns cs], .func (.func 60) #[] #[.pointer (some ⟨g4, 0, none⟩)], .bool (!true), undef, .func (.func 58) #[] #[.pointer (some ⟨g5, 0, none⟩), .pointer (some ⟨g5 + 1, 0, none⟩)], .pointer (some ⟨w.heap.size, 4, none⟩), .int .i64 D, .bool true, .bool true, undef, undef, undef, undef, undef, undef, undef, undef, undef, undef, undef, undef, undef, undef, undef, undef, undef, undef, undef, undef, undef, undef, undef, undef, undef, undef], []⟩ _
      refine wpAny_take (i := 5) (v := undef) rfl (by kernel_rfl) (by kernel_rfl) (by kernel_rfl) (fun _ _ _ h => h) (Or.inr ⟨by rfl, rfl⟩) ?_
      change wpAny _ _ _ _ _ _ ⟨#[.agg #[.int .i64 N, .int .i64 S, .int .i64 G, .int .i64 W, .int .i64 D, .int .i64 L, .slice Ac nc cc, .slice As ns cs], .pointer (some ⟨w.heap.size, 0, none⟩), .int .i64 0, .bool false, .func (.func 58) #[] #[.pointer (some ⟨g1, 0, none⟩), .pointer (some ⟨g1 + 1, 0, none⟩)], .pointer (some ⟨w.heap.size, 0, none⟩), .int .i64 N, .bool false, .bool false, .func (.func 58) #[] #[.pointer (some ⟨g2, 0, none⟩), .pointer (some ⟨g2 + 1, 0, none⟩)], .pointer (some ⟨w.heap.size, 7, none⟩), .slice As ns cs, .int .i64 (ns : Int), .bool false, .bool false, .pointer (some ⟨w.heap.size, 6, none⟩), .slice Ac nc cc, .int .i64 (nc : Int), .pointer (some ⟨w.heap.size, 0, none⟩), .int .i64 N, .bool false, .bool false, .pointer (some ⟨w.heap.size, 6, none⟩), .slice Ac nc cc, .int .i64 (t : Int), .bool false, .bool false, .bool (!true), .pointer (some ⟨w.heap.size, 7, none⟩), .slice As ns cs, .agg #[.int .i64 N, .int .i64 S, .int .i64 G, .int .i64 W, .int .i64 D, .int .i64 L, .slice Ac nc cc, .slice As ns cs], .func (.func 60) #[] #[.pointer (some ⟨g4, 0, none⟩)], .bool (!true), undef, .func (.func 58) #[] #[.pointer (some ⟨g5, 0, none⟩), .pointer (some ⟨g5 + 1, 0, none⟩)], .pointer (some ⟨w.heap.size, 4, none⟩), .int .i64 D, .bool true, .bool true, undef, undef, undef, undef, undef, undef, undef, undef, undef, undef, undef, undef, undef, undef, undef, undef, undef, undef, undef, undef, undef, undef, undef, undef, undef, undef], []⟩ _
      refine wpAny_take (i := 6) (v := undef) rfl (by kernel_rfl) (by kernel_rfl) (by kernel_rfl) (fun _ _ _ h => h) (Or.inr ⟨by rfl, rfl⟩) ?_
      change wpAny _ _ _ _ _ _ ⟨#[.agg #[.int .i64 N, .int .i64 S, .int .i64 G, .int .i64 W, .int .i64 D, .int .i64 L, .slice Ac nc cc, .slice As ns cs], .pointer (some ⟨w.heap.size, 0, none⟩), .int .i64 0, .bool false, .func (.func 58) #[] #[.pointer (some ⟨g1, 0, none⟩), .pointer (some ⟨g1 + 1, 0, none⟩)], .pointer (some ⟨w.heap.size, 0, none⟩), .int .i64 N, .bool false, .bool false, .func (.func 58) #[] #[.pointer (some ⟨g2, 0, none⟩), .pointer (some ⟨g2 + 1, 0, none⟩)], .pointer (some ⟨w.heap.size, 7, none⟩), .slice As ns cs, .int .i64 (ns : Int), .bool false, .bool false, .pointer (some ⟨w.heap.size, 6, none⟩), .slice Ac nc cc, .int .i64 (nc : Int), .pointer (some ⟨w.heap.size, 0, none⟩), .int .i64 N, .bool false, .bool false, .pointer (some ⟨w.heap.size, 6, none⟩), .slice Ac nc cc, .int .i64 (t : Int), .bool false, .bool false, .bool (!true), .pointer (some ⟨w.heap.size, 7, none⟩), .slice As ns cs, .agg #[.int .i64 N, .int .i64 S, .int .i64 G, .int .i64 W, .int .i64 D, .int .i64 L, .slice Ac nc cc, .slice As ns cs], .func (.func 60) #[] #[.pointer (some ⟨g4, 0, none⟩)], .bool (!true), undef, .func (.func 58) #[] #[.pointer (some ⟨g5, 0, none⟩), .pointer (some ⟨g5 + 1, 0, none⟩)], .pointer (some ⟨w.heap.size, 4, none⟩), .int .i64 D, .bool true, .bool true, undef, undef, undef, undef, undef, undef, undef, undef, undef, undef, undef, undef, undef, undef, undef, undef, undef, undef, undef, undef, undef, undef, undef, undef, undef, undef], []⟩ _
      refine wpAny_take (i := 7) (v := undef) rfl (by kernel_rfl) (by kernel_rfl) (by kernel_rfl) (fun _ _ _ h => h) (Or.inr ⟨by rfl, rfl⟩) ?_
      change wpAny _ _ _ _ _ _ ⟨#[.agg #[.int .i64 N, .int .i64 S, .int .i64 G, .int .i64 W, .int .i64 D, .int .i64 L, .slice Ac nc cc, .slice As ns cs], .pointer (some ⟨w.heap.size, 0, none⟩), .int .i64 0, .bool false, .func (.func 58) #[] #[.pointer (some ⟨g1, 0, none⟩), .pointer (some ⟨g1 + 1, 0, none⟩)], .pointer (some ⟨w.heap.size, 0, none⟩), .int .i64 N, .bool false, .bool false, .func (.func 58) #[] #[.pointer (some ⟨g2, 0, none⟩), .pointer (some ⟨g2 + 1, 0, none⟩)], .pointer (some ⟨w.heap.size, 7, none⟩), .slice As ns cs, .int .i64 (ns : Int), .bool false, .bool false, .pointer (some ⟨w.heap.size, 6, none⟩), .slice Ac nc cc, .int .i64 (nc : Int), .pointer (some ⟨w.heap.size, 0, none⟩), .int .i64 N, .bool false, .bool false, .pointer (some ⟨w.heap.size, 6, none⟩), .slice Ac nc cc, .int .i64 (t : Int), .bool false, .bool false, .bool (!true), .pointer (some ⟨w.heap.size, 7, none⟩), .slice As ns cs, .agg #[.int .i64 N, .int .i64 S, .int .i64 G, .int .i64 W, .int .i64 D, .int .i64 L, .slice Ac nc cc, .slice As ns cs], .func (.func 60) #[] #[.pointer (some ⟨g4, 0, none⟩)], .bool (!true), undef, .func (.func 58) #[] #[.pointer (some ⟨g5, 0, none⟩), .pointer (some ⟨g5 + 1, 0, none⟩)], .pointer (some ⟨w.heap.size, 4, none⟩), .int .i64 D, .bool true, .bool true, undef, undef, undef, undef, undef, undef, undef, undef, undef, undef, undef, undef, undef, undef, undef, undef, undef, undef, undef, undef, undef, undef, undef, undef, undef, undef], []⟩ _
      refine wpAny_take (i := 8) (v := undef) rfl (by kernel_rfl) (by kernel_rfl) (by kernel_rfl) (fun _ _ _ h => h) (Or.inr ⟨by rfl, rfl⟩) ?_
      change wpAny _ _ _ _ _ _ ⟨#[.agg #[.int .i64 N, .int .i64 S, .int .i64 G, .int .i64 W, .int .i64 D, .int .i64 L, .slice Ac nc cc, .slice As ns cs], .pointer (some ⟨w.heap.size, 0, none⟩), .int .i64 0, .bool false, .func (.func 58) #[] #[.pointer (some ⟨g1, 0, none⟩), .pointer (some ⟨g1 + 1, 0, none⟩)], .pointer (some ⟨w.heap.size, 0, none⟩), .int .i64 N, .bool false, .bool false, .func (.func 58) #[] #[.pointer (some ⟨g2, 0, none⟩), .pointer (some ⟨g2 + 1, 0, none⟩)], .pointer (some ⟨w.heap.size, 7, none⟩), .slice As ns cs, .int .i64 (ns : Int), .bool false, .bool false, .pointer (some ⟨w.heap.size, 6, none⟩), .slice Ac nc cc, .int .i64 (nc : Int), .pointer (some ⟨w.heap.size, 0, none⟩), .int .i64 N, .bool false, .bool false, .pointer (some ⟨w.heap.size, 6, none⟩), .slice Ac nc cc, .int .i64 (t : Int), .bool false, .bool false, .bool (!true), .pointer (some ⟨w.heap.size, 7, none⟩), .slice As ns cs, .agg #[.int .i64 N, .int .i64 S, .int .i64 G, .int .i64 W, .int .i64 D, .int .i64 L, .slice Ac nc cc, .slice As ns cs], .func (.func 60) #[] #[.pointer (some ⟨g4, 0, none⟩)], .bool (!true), undef, .func (.func 58) #[] #[.pointer (some ⟨g5, 0, none⟩), .pointer (some ⟨g5 + 1, 0, none⟩)], .pointer (some ⟨w.heap.size, 4, none⟩), .int .i64 D, .bool true, .bool true, undef, undef, undef, undef, undef, undef, undef, undef, undef, undef, undef, undef, undef, undef, undef, undef, undef, undef, undef, undef, undef, undef, undef, undef, undef, undef], []⟩ _
      refine wpAny_take (i := 9) (v := .bool true) rfl (by kernel_rfl) (by kernel_rfl) (by kernel_rfl) (fun _ _ _ h => h) (Or.inl ⟨by rfl, fun w => by go_simp⟩) ?_
      change wpAny _ _ _ _ _ _ ⟨#[.agg #[.int .i64 N, .int .i64 S, .int .i64 G, .int .i64 W, .int .i64 D, .int .i64 L, .slice Ac nc cc, .slice As ns cs], .pointer (some ⟨w.heap.size, 0, none⟩), .int .i64 0, .bool false, .func (.func 58) #[] #[.pointer (some ⟨g1, 0, none⟩), .pointer (some ⟨g1 + 1, 0, none⟩)], .pointer (some ⟨w.heap.size, 0, none⟩), .int .i64 N, .bool false, .bool false, .func (.func 58) #[] #[.pointer (some ⟨g2, 0, none⟩), .pointer (some ⟨g2 + 1, 0, none⟩)], .pointer (some ⟨w.heap.size, 7, none⟩), .slice As ns cs, .int .i64 (ns : Int), .bool false, .bool false, .pointer (some ⟨w.heap.size, 6, none⟩), .slice Ac nc cc, .int .i64 (nc : Int), .pointer (some ⟨w.heap.size, 0, none⟩), .int .i64 N, .bool false, .bool false, .pointer (some ⟨w.heap.size, 6, none⟩), .slice Ac nc cc, .int .i64 (t : Int), .bool false, .bool false, .bool (!true), .pointer (some ⟨w.heap.size, 7, none⟩), .slice As ns cs, .agg #[.int .i64 N, .int .i64 S, .int .i64 G, .int .i64 W, .int .i64 D, .int .i64 L, .slice Ac nc cc, .slice As ns cs], .func (.func 60) #[] #[.pointer (some ⟨g4, 0, none⟩)], .bool (!true), undef, .func (.func 58) #[] #[.pointer (some ⟨g5, 0, none⟩), .pointer (some ⟨g5 + 1, 0, none⟩)], .pointer (some ⟨w.heap.size, 4, none⟩), .int .i64 D, .bool true, .bool true, undef, undef, undef, undef, .bool true, undef, undef, undef, undef, undef, undef, undef, undef, undef, undef, undef, undef, undef, undef, undef, undef, undef, undef, undef, undef, undef], []⟩ _
      refine wpAny_take (i := 10) (v := .bool true) rfl (by kernel_rfl) (by kernel_rfl) (by kernel_rfl) (fun _ _ _ h => h) (Or.inl ⟨by rfl, fun w => by go_simp⟩) ?_
      change wpAny _ _ _ _ _ _ ⟨#[.agg #[.int .i64 N, .int .i64 S, .int .i64 G, .int .i64 W, .int .i64 D, .int .i64 L, .slice Ac nc cc, .slice As ns cs], .pointer (some ⟨w.heap.size, 0, none⟩), .int .i64 0, .bool false, .func (.func 58) #[] #[.pointer (some ⟨g1, 0, none⟩), .pointer (some ⟨g1 + 1, 0, none⟩)], .pointer (some ⟨w.heap.size, 0, none⟩), .int .i64 N, .bool false, .bool false, .func (.func 58) #[] #[.pointer (some ⟨g2, 0, none⟩), .pointer (some ⟨g2 + 1, 0, none⟩)], .pointer (some ⟨w.heap.size, 7, none⟩), .slice As ns cs, .int .i64 (ns : Int), .bool false, .bool false, .pointer (some ⟨w.heap.size, 6, none⟩), .slice Ac nc cc, .int .i64 (nc : Int), .pointer (some ⟨w.heap.size, 0, none⟩), .int .i64 N, .bool false, .bool false, .pointer (some ⟨w.heap.size, 6, none⟩), .slice Ac nc cc, .int .i64 (t : Int), .bool false, .bool false, .bool (!true), .pointer (some ⟨w.heap.size, 7, none⟩), .slice As ns cs, .agg #[.int .i64 N, .int .i64 S, .int .i64 G, .int .i64 W, .int .i64 D, .int .i64 L, .slice Ac nc cc, .slice As ns cs], .func (.func 60) #[] #[.pointer (some ⟨g4, 0, none⟩)], .bool (!true), .bool true, .func (.func 58) #[] #[.pointer (some ⟨g5, 0, none⟩), .pointer (some ⟨g5 + 1, 0, none⟩)], .pointer (some ⟨w.heap.size, 4, none⟩), .int .i64 D, .bool true, .bool true, undef, undef, undef, undef, .bool true, undef, undef, undef, undef, undef, undef, undef, undef, undef, undef, undef, undef, undef, undef, undef, undef, undef, undef, undef, undef, undef], []⟩ _
      refine wpAny_done (by kernel_rfl) ?_ _
      go_wp2
      go_ret
      exact ⟨rfl, bc⟩
    · skip
      go_simp
      refine hK _ _ ?_
      clear hK K
      change wpAny _ _ _ _ _ _ ⟨#[.agg #[.int .i64 N, .int .i64 S, .int .i64 G, .int .i64 W, .int .i64 D, .int .i64 L, .slice Ac nc cc, .slice As ns cs], .pointer (some ⟨w.heap.size, 0, none⟩), .int .i64 0, .bool false, .func (.func 58) #[] #[.pointer (some ⟨g1, 0, none⟩), .pointer (some ⟨g1 + 1, 0, none⟩)], .pointer (some ⟨w.heap.size, 0, none⟩), .int .i64 N, .bool false, .bool false, .func (.func 58) #[] #[.pointer (some ⟨g2, 0, none⟩), .pointer (some ⟨g2 + 1, 0, none⟩)], .pointer (some ⟨w.heap.size, 7, none⟩), .slice As ns cs, .int .i64 (ns : Int), .bool false, .bool false, .pointer (some ⟨w.heap.size, 6, none⟩), .slice Ac nc cc, .int .i64 (nc : Int), .pointer (some ⟨w.heap.size, 0, none⟩), .int .i64 N, .bool false, .bool false, .pointer (some ⟨w.heap.size, 6, none⟩), .slice Ac nc cc, .int .i64 (t : Int), .bool false, .bool false, .bool (!true), .pointer (some ⟨w.heap.size, 7, none⟩), .slice As ns cs, .agg #[.int .i64 N, .int .i64 S, .int .i64 G, .int .i64 W, .int .i64 D, .int .i64 L, .slice Ac nc cc, .slice As ns cs], .func (.func 60) #[] #[.pointer (some ⟨g4, 0, none⟩)], .bool (!true), undef, undef, .pointer (some ⟨w.heap.size, 4, none⟩), .int .i64 D, undef, undef, undef, undef, undef, undef, undef, undef, undef, undef, undef, undef, undef, undef, undef, undef, undef, undef, undef, undef, undef, undef, undef, undef, undef, undef, undef, undef], []⟩ _
      refine wpAny_ready (rs := [0]) (by kernel_rfl) (by simp) ?_
      refine AllReady.cons rfl (fun K hK => ?_) AllReady.nil
      go_simp
      refine (beyond_any 0 64 _).mono ?_
      rintro e w5 ⟨g5, rfl, hg, k1, k2, hC⟩
      dsimp only
      replace kb := kb.on hC; replace bc := bc.trans (hC.mono bc.size); clear hC
      clear p0 p1 p2 p3 p4 p5 p6 p7
      obtain ⟨p0, p1, p2, p3, p4, p5, p6, p7⟩ := kb.eight
      refine hK _ _ ?_
      clear hK K
      change wpAny _ _ _ _ _ _ ⟨#[.agg #[.int .i64 N, .int .i64 S, .int .i64 G, .int .i64 W, .int .i64 D, .int .i64 L, .slice Ac nc cc, .slice As ns cs], .pointer (some ⟨w.heap.size, 0, none⟩), .int .i64 0, .bool false, .func (.func 58) #[] #[.pointer (some ⟨g1, 0, none⟩), .pointer (some ⟨g1 + 1, 0, none⟩)], .pointer (some ⟨w.heap.size, 0, none⟩), .int .i64 N, .bool false, .bool false, .func (.func 58) #[] #[.pointer (some ⟨g2, 0, none⟩), .pointer (some ⟨g2 + 1, 0, none⟩)], .pointer (some ⟨w.heap.size, 7, none⟩), .slice As ns cs, .int .i64 (ns : Int), .bool false, .bool false, .pointer (some ⟨w.heap.size, 6, none⟩), .slice Ac nc cc, .int .i64 (nc : Int), .pointer (some ⟨w.heap.size, 0, none⟩), .int .i64 N, .bool false, .bool false, .pointer (some ⟨w.heap.size, 6, none⟩), .slice Ac nc cc, .int .i64 (t : Int), .bool false, .bool false, .bool (!true), .pointer (some ⟨w.heap.size, 7, none⟩), .slice As ns cs, .agg #[.int .i64 N, .int .i64 S, .int .i64 G, .int .i64 W, .int .i64 D, .int .i64 L, .slice Ac nc cc, .slice As ns cs], .func (.func 60) #[] #[.pointer (some ⟨g4, 0, none⟩)], .bool (!true), undef, .func (.func 58) #[] #[.pointer (some ⟨g5, 0, none⟩), .pointer (some ⟨g5 + 1, 0, none⟩)], .pointer (some ⟨w.heap.size, 4, none⟩), .int .i64 D, undef, undef, undef, undef, undef, undef, undef, undef, undef, undef, undef, undef, undef, undef, undef, undef, undef, undef, undef, undef, undef, undef, undef, undef, undef, undef, undef, undef], []⟩ _
      refine wpAny_ready (rs := [3]) (by kernel_rfl) (by simp) ?_
      refine AllReady.cons rfl (fun K hK => ?_) AllReady.nil
      go_simp
      refine (beyond1_any 0 64 _ _ _ k1 k2).mono ?_
      rintro e w6 ⟨rfl, rfl⟩
      dsimp only
      rw [c5]
      refine hK _ _ ?_
      clear hK K
      change wpAny _ _ _ _ _ _ ⟨#[.agg #[.int .i64 N, .int .i64 S, .int .i64 G, .int .i64 W, .int .i64 D, .int .i64 L, .slice Ac nc cc, .slice As ns cs], .pointer (some ⟨w.heap.size, 0, none⟩), .int .i64 0, .bool false, .func (.func 58) #[] #[.pointer (some ⟨g1, 0, none⟩), .pointer (some ⟨g1 + 1, 0, none⟩)], .pointer (some ⟨w.heap.size, 0, none⟩), .int .i64 N, .bool false, .bool false, .func (.func 58) #[] #[.pointer (some ⟨g2, 0, none⟩), .pointer (some ⟨g2 + 1, 0, none⟩)], .pointer (some ⟨w.heap.size, 7, none⟩), .slice As ns cs, .int .i64 (ns : Int), .bool false, .bool false, .pointer (some ⟨w.heap.size, 6, none⟩), .slice Ac nc cc, .int .i64 (nc : Int), .pointer (some ⟨w.heap.size, 0, none⟩), .int .i64 N, .bool false, .bool false, .pointer (some ⟨w.heap.size, 6, none⟩), .slice Ac nc cc, .int .i64 (t : Int), .bool false, .bool false, .bool (!true), .pointer (some ⟨w.heap.size, 7, none⟩), .slice As ns cs, .agg #[.int .i64 N, .int .i64 S, .int .i64 G, .int .i64 W, .int .i64 D, .int .i64 L, .slice Ac nc cc, .slice As ns cs], .func (.func 60) #[] #[.pointer (some ⟨g4, 0, none⟩)], .bool (!true), undef, .func (.func 58) #[] #[.pointer (some ⟨g5, 0, none⟩), .pointer (some ⟨g5 + 1, 0, none⟩)], .pointer (some ⟨w.heap.size, 4, none⟩), .int .i64 D, .bool true, undef, undef, undef, undef, undef, undef, undef, undef, undef, undef, undef, undef, undef, undef, undef, undef, undef, undef, undef, undef, undef, undef, undef, undef, undef, undef, undef], []⟩ _
      refine wpAny_take (i := 4) (v := .bool true) rfl (by kernel_rfl) (by kernel_rfl) (by kernel_rfl) (fun _ _ _ h => h) (Or.inl ⟨by rfl, fun w => by go_simp⟩) ?_
      change wpAny _ _ _ _ _ _ ⟨#[.agg #[.int .i64 N, .int .i64 S, .int .i64 G, .int .i64 W, .int .i64 D, .int .i64 L, .slice Ac nc cc, .slice As ns cs], .pointer (some ⟨w.heap.size, 0, none⟩), .int .i64 0, .bool false, .func (.func 58) #[] #[.pointer (some ⟨g1, 0, none⟩), .pointer (some ⟨g1 + 1, 0, none⟩)], .pointer (some ⟨w.heap.size, 0, none⟩), .int .i64 N, .bool false, .bool false, .func (.func 58) #[] #[.pointer (some ⟨g2, 0, none⟩), .pointer (some ⟨g2 + 1, 0, none⟩)], .pointer (some ⟨w.heap.size, 7, none⟩), .slice As ns cs, .int .i64 (ns : Int), .bool false, .bool false, .pointer (some ⟨w.heap.size, 6, none⟩), .slice Ac nc cc, .int .i64 (nc : Int), .pointer (some ⟨w.heap.size, 0, none⟩), .int .i64 N, .bool false, .bool false, .pointer (some ⟨w.heap.size, 6, none⟩), .slice Ac nc cc, .int .i64 (t : Int), .bool false, .bool false, .bool (!true), .pointer (some ⟨w.heap.size, 7, none⟩), .slice As ns cs, .agg #[.int .i64 N, .int .i64 S, .int .i64 G, .int .i64 W, .int .i64 D, .int .i64 L, .slice Ac nc cc, .slice As ns cs], .func (.func 60) #[] #[.pointer (some ⟨g4, 0, none⟩)], .bool (!true), undef, .func (.func 58) #[] #[.pointer (some ⟨g5, 0, none⟩), .pointer (some ⟨g5 + 1, 0, none⟩)], .pointer (some ⟨w.heap.size, 4, none⟩), .int .i64 D, .bool true, .bool true, undef, undef, undef, undef, undef, undef, undef, undef, undef, undef, undef, undef, undef, undef, undef, undef, undef, undef, undef, undef, undef, undef, undef, undef, undef, undef], []⟩ _
      refine wpAny_take (i := 5) (v := undef) rfl (by kernel_rfl) (by kernel_rfl) (by kernel_rfl) (fun _ _ _ h => h) (Or.inr ⟨by rfl, rfl⟩) ?_
      change wpAny _ _ _ _ _ _ ⟨#[.agg #[.int .i64 N, .int .i64 S, .int .i64 G, .int .i64 W, .int .i64 D, .int .i64 L, .slice Ac nc cc, .slice As ns cs], .pointer (some ⟨w.heap.size, 0, none⟩), .int .i64 0, .bool false, .func (.func 58) #[] #[.pointer (some ⟨g1, 0, none⟩), .pointer (some ⟨g1 + 1, 0, none⟩)], .pointer (some ⟨w.heap.size, 0, none⟩), .int .i64 N, .bool false, .bool false, .func (.func 58) #[] #[.pointer (some ⟨g2, 0, none⟩), .pointer (some ⟨g2 + 1, 0, none⟩)], .pointer (some ⟨w.heap.size, 7, none⟩), .slice As ns cs, .int .i64 (ns : Int), .bool false, .bool false, .pointer (some ⟨w.heap.size, 6, none⟩), .slice Ac nc cc, .int .i64 (nc : Int), .pointer (some ⟨w.heap.size, 0, none⟩), .int .i64 N, .bool false, .bool false, .pointer (some ⟨w.heap.size, 6, none⟩), .slice Ac nc cc, .int .i64 (t : Int), .bool false, .bool false, .bool (!true), .pointer (some ⟨w.heap.size, 7, none⟩), .slice As ns cs, .agg #[.int .i64 N, .int .i64 S, .int .i64 G, .int .i64 W, .int .i64 D, .int .i64 L, .slice Ac nc cc, .slice As ns cs], .func (.func 60) #[] #[.pointer (some ⟨g4, 0, none⟩)], .bool (!true), undef, .func (.func 58) #[] #[.pointer (some ⟨g5, 0, none⟩), .pointer (some ⟨g5 + 1, 0, none⟩)], .pointer (some ⟨w.heap.size, 4, none⟩), .int .i64 D, .bool true, .bool true, undef, undef, undef, undef, undef, undef, undef, undef, undef, undef, undef, undef, undef, undef, undef, undef, undef, undef, undef, undef, undef, undef, undef, undef, undef, undef], []⟩ _
      refine wpAny_take (i := 6) (v := undef) rfl (by kernel_rfl) (by kernel_rfl) (by kernel_rfl) (fun _ _ _ h => h) (Or.inr ⟨by rfl, rfl⟩) ?_
      change wpAny _ _ _ _ _ _ ⟨#[.agg #[.int .i64 N, .int .i64 S, .int .i64 G, .int .i64 W, .int .i64 D, .int .i64 L, .slice Ac nc cc, .slice As ns cs], .pointer (some ⟨w.heap.size, 0, none⟩), .int .i64 0, .bool false, .func (.func 58) #[] #[.pointer (some ⟨g1, 0, none⟩), .pointer (some ⟨g1 + 1, 0, none⟩)], .pointer (some ⟨w.heap.size, 0, none⟩), .int .i64 N, .bool false, .bool false, .func (.func 58) #[] #[.pointer (some ⟨g2, 0, none⟩), .pointer (some ⟨g2 + 1, 0, none⟩)], .pointer (some ⟨w.heap.size, 7, none⟩), .slice As ns cs, .int .i64 (ns : Int), .bool false, .bool false, .pointer (some ⟨w.heap.size, 6, none⟩), .slice Ac nc cc, .int .i64 (nc : Int), .pointer (some ⟨w.heap.size, 0, none⟩), .int .i64 N, .bool false, .bool false, .pointer (some ⟨w.heap.size, 6, none⟩), .slice Ac nc cc, .int .i64 (t : Int), .bool false, .bool false, .bool (!true), .pointer (some ⟨w.heap.size, 7, none⟩), .slice As ns cs, .agg #[.int .i64 N, .int .i64 S, .int .i64 G, .int .i64 W, .int .i64 D, .int .i64 L, .slice Ac nc cc, .slice As ns cs], .func (.func 60) #[] #[.pointer (some ⟨g4, 0, none⟩)], .bool (!true), undef, .func (.func 58) #[] #[.pointer (some ⟨g5, 0, none⟩), .pointer (some ⟨g5 + 1, 0, none⟩)], .pointer (some ⟨w.heap.size, 4, none⟩), .int .i64 D, .bool true, .bool true, undef, undef, undef, undef, undef, undef, undef, undef, undef, undef, undef, undef, undef, undef, undef, undef, undef, undef, undef, undef, undef, undef, undef, undef, undef, undef], []⟩ _
      refine wpAny_take (i := 7) (v := undef) rfl (by kernel_rfl) (by kernel_rfl) (by kernel_rfl) (fun _ _ _ h => h) (Or.inr ⟨by rfl, rfl⟩) ?_
      change wpAny _ _ _ _ _ _ ⟨#[.agg #[.int .i64 N, .int .i64 S, .int .i64 G, .int .i64 W, .int .i64 D, .int .i64 L, .slice Ac nc cc, .slice As ns cs], .pointer (some ⟨w.heap.size, 0, none⟩), .int .i64 0, .bool false, .func (.func 58) #[] #[.pointer (some ⟨g1, 0, none⟩), .pointer (some ⟨g1 + 1, 0, none⟩)], .pointer (some ⟨w.heap.size, 0, none⟩), .int .i64 N, .bool false, .bool false, .func (.func 58) #[] #[.pointer (some ⟨g2, 0, none⟩), .pointer (some ⟨g2 + 1, 0, none⟩)], .pointer (some ⟨w.heap.size, 7, none⟩), .slice As ns cs, .int .i64 (ns : Int), .bool false, .bool false, .pointer (some ⟨w.heap.size, 6, none⟩), .slice Ac nc cc, .int .i64 (nc : Int), .pointer (some ⟨w.heap.size, 0, none⟩), .int .i64 N, .bool false, .bool false, .pointer (some ⟨w.heap.size, 6, none⟩), .slice Ac nc cc, .int .i64 (t : Int), .bool false, .bool false, .bool (!true), .pointer (some ⟨w.heap.size, 7, none⟩), .slice As ns cs, .agg #[.int .i64 N, .int .i64 S, .int .i64 G, .int .i64 W, .int .i64 D, .int .i64 L, .slice Ac nc cc, .slice As ns cs], .func (.func 60) #[] #[.pointer (some ⟨g4, 0, none⟩)], .bool (!true), undef, .func (.func 58) #[] #[.pointer (some ⟨g5, 0, none⟩), .pointer (some ⟨g5 + 1, 0, none⟩)], .pointer (some ⟨w.heap.size, 4, none⟩), .int .i64 D, .bool true, .bool true, undef, undef, undef, undef, undef, undef, undef, undef, undef, undef, undef, undef, undef, undef, undef, undef, undef, undef, undef, undef, undef, undef, undef, undef, undef, undef], []⟩ _
      refine wpAny_take (i := 8) (v := undef) rfl (by kernel_rfl) (by kernel_rfl) (by kernel_rfl) (fun _ _ _ h => h) (Or.inr ⟨by rfl, rfl⟩) ?_
      change wpAny _ _ _ _ _ _ ⟨#[.agg #[.int .i64 N, .int .i64 S, .int .i64 G, .int .i64 W, .int .i64 D, .int .i64 L, .slice Ac nc cc, .slice As ns cs], .pointer (some ⟨w.heap.size, 0, none⟩), .int .i64 0, .bool false, .func (.func 58) #[] #[.pointer (some ⟨g1, 0, none⟩), .pointer (some ⟨g1 + 1, 0, none⟩)], .pointer (some ⟨w.heap.size, 0, none⟩), .int .i64 N, .bool false, .bool false, .func (.func 58) #[] #[.pointer (some ⟨g2, 0, none⟩), .pointer (some ⟨g2 + 1, 0, none⟩)], .pointer (some ⟨w.heap.size, 7, none⟩), .slice As ns cs, .int .i64 (ns : Int), .bool false, .bool false, .pointer (some ⟨w.heap.size, 6, none⟩), .slice Ac nc cc, .int .i64 (nc : Int), .pointer (some ⟨w.heap.size, 0, none⟩), .int .i64 N, .bool false, .bool false, .pointer (some ⟨w.heap.size, 6, none⟩), .slice Ac nc cc, .int .i64 (t : Int), .bool false, .bool false, .bool (!true), .pointer (some ⟨w.heap.size, 7, none⟩), .slice As ns cs, .agg #[.int .i64 N, .int .i64 S, .int .i64 G, .int .i64 W, .int .i64 D, .int .i64 L, .slice Ac nc cc, .slice As ns cs], .func (.func 60) #[] #[.pointer (some ⟨g4, 0, none⟩)], .bool (!true), undef, .func (.func 58) #[] #[.pointer (some ⟨g5, 0, none⟩), .pointer (some ⟨g5 + 1, 0, none⟩)], .pointer (some ⟨w.heap.size, 4, none⟩), .int .i64 D, .bool true, .bool true, undef, undef, undef, undef, undef, undef, undef, undef, undef, undef, undef, undef, undef, undef, undef, undef, undef, undef, undef, undef, undef, undef, undef, undef, undef, undef], []⟩ _
      refine wpAny_take (i := 9) (v := .bool true) rfl (by kernel_rfl) (by kernel_rfl) (by kernel_rfl) (fun _ _ _ h => h) (Or.inl ⟨by rfl, fun w => by go_simp⟩) ?_
      change wpAny _ _ _ _ _ _ ⟨#[.agg #[.int .i64 N, .int .i64 S, .int .i64 G, .int .i64 W, .int .i64 D, .int .i64 L, .slice Ac nc cc, .slice As ns cs], .pointer (some ⟨w.heap.size, 0, none⟩), .int .i64 0, .bool false, .func (.func 58) #[] #[.pointer (some ⟨g1, 0, none⟩), .pointer (some ⟨g1 + 1, 0, none⟩)], .pointer (some ⟨w.heap.size, 0, none⟩), .int .i64 N, .bool false, .bool false, .func (.func 58) #[] #[.pointer (some ⟨g2, 0, none⟩), .pointer (some ⟨g2 + 1, 0, none⟩)], .pointer (some ⟨w.heap.size, 7, none⟩), .slice As ns cs, .int .i64 (ns : Int), .bool false, .bool false, .pointer (some ⟨w.heap.size, 6, none⟩), .slice Ac nc cc, .int .i64 (nc : Int), .pointer (some ⟨w.heap.size, 0, none⟩), .int .i64 N, .bool false, .bool false, .pointer (some ⟨w.heap.size, 6, none⟩), .slice Ac nc cc, .int .i64 (t : Int), .bool false, .bool false, .bool (!true), .pointer (some ⟨w.heap.size, 7, none⟩), .slice As ns cs, .agg #[.int .i64 N, .int .i64 S, .int .i64 G, .int .i64 W, .int .i64 D, .int .i64 L, .slice Ac nc cc, .slice As ns cs], .func (.func 60) #[] #[.pointer (some ⟨g4, 0, none⟩)], .bool (!true), undef, .func (.func 58) #[] #[.pointer (some ⟨g5, 0, none⟩), .pointer (some ⟨g5 + 1, 0, none⟩)], .pointer (some ⟨w.heap.size, 4, none⟩), .int .i64 D, .bool true, .bool true, undef, undef, undef, undef, .bool true, undef, undef, undef, undef, undef, undef, undef, undef, undef, undef, undef, undef, undef, undef, undef, undef, undef, undef, undef, undef, undef], []⟩ _
      refine wpAny_take (i := 10) (v := .bool true) rfl (by kernel_rfl) (by kernel_rfl) (by kernel_rfl) (fun _ _ _ h => h) (Or.inl ⟨by rfl, fun w => by go_simp⟩) ?_
      change wpAny _ _ _ _ _ _ ⟨#[.agg #[.int .i64 N, .int .i64 S, .int .i64 G, .int .i64 W, .int .i64 D, .int .i64 L, .slice Ac nc cc, .slice As ns cs], .pointer (some ⟨w.heap.size, 0, none⟩), .int .i64 0, .bool false, .func (.func 58) #[] #[.pointer (some ⟨g1, 0, none⟩), .pointer (some ⟨g1 + 1, 0, none⟩)], .pointer (some ⟨w.heap.size, 0, none⟩), .int .i64 N, .bool false, .bool false, .func (.func 58) #[] #[.pointer (some ⟨g2, 0, none⟩), .pointer (some ⟨g2 + 1, 0, none⟩)], .pointer (some ⟨w.heap.size, 7, none⟩), .slice As ns cs, .int .i64 (ns : Int), .bool false, .bool false, .pointer (some ⟨w.heap.size, 6, none⟩), .slice Ac nc cc, .int .i64 (nc : Int), .pointer (some ⟨w.heap.size, 0, none⟩), .int .i64 N, .bool false, .bool false, .pointer (some ⟨w.heap.size, 6, none⟩), .slice Ac nc cc, .int .i64 (t : Int), .bool false, .bool false, .bool (!true), .pointer (some ⟨w.heap.size, 7, none⟩), .slice As ns cs, .agg #[.int .i64 N, .int .i64 S, .int .i64 G, .int .i64 W, .int .i64 D, .int .i64 L, .slice Ac nc cc, .slice As ns cs], .func (.func 60) #[] #[.pointer (some ⟨g4, 0, none⟩)], .bool (!true), .bool true, .func (.func 58) #[] #[.pointer (some ⟨g5, 0, none⟩), .pointer (some ⟨g5 + 1, 0, none⟩)], .pointer (some ⟨w.heap.size, 4, none⟩), .int .i64 D, .bool true, .bool true, undef, undef, undef, undef, .bool true, undef, undef, undef, undef, undef, undef, undef, undef, undef, undef, undef, undef, undef, undef, undef, undef, undef, undef, undef, undef, undef], []⟩ _
      refine wpAny_done (by kernel_rfl) ?_ _
      go_wp2
      go_ret
      exact ⟨rfl, bc⟩
  have c5f := not_beyond c5
  replace c5 := beyond_false c5
  by_cases c6 : beyondS 0 64 L = true
  · skip
    obtain rfl : R = 70 := by rw [HR.out]; exact checkM_no (fun h => beyond_true c6 h.2.2.2.2.2.1)
    clear HR
    go_region_held3 (fun w' => w'.cell? ⟨w.heap.size, 0, none⟩ = some (.int .i64 N) ∧ w'.cell? ⟨w.heap.size, 4, none⟩ = some (.int .i64 D) ∧ w'.cell? ⟨w.heap.size, 5, none⟩ = some (.int .i64 L)) (first | exact ⟨p0, p4, p5⟩) (first
      | (go_at_call 45; refine (beyond_any 0 64 _).mono ?_; rintro e w2 ⟨g, rfl, hg, k1, k2, hC⟩; dsimp only; replace kb := kb.on hC; replace bc := bc.trans (hC.mono bc.size); clear hC; obtain ⟨p0, p1, p2, p3, p4, p5, p6, p7⟩ := kb.eight)
      | (go_at_call 58; refine (beyond1_any 0 64 _ _ _ k1 k2).mono ?_; rintro e w3 ⟨rfl, rfl⟩; rw [c6])
      | (go_at_call 58; refine (beyond1_any 0 64 _ _ _ k1 k2).mono ?_; rintro e w3 ⟨rfl, rfl⟩; rw [c5f]))
    all_goals
      go_wp2
      go_ret
      exact ⟨rfl, bc⟩
  have c6f := not_beyond c6
  go_region_held3 (fun w' => w'.cell? ⟨w.heap.size, 0, none⟩ = some (.int .i64 N) ∧ w'.cell? ⟨w.heap.size, 4, none⟩ = some (.int .i64 D) ∧ w'.cell? ⟨w.heap.size, 5, none⟩ = some (.int .i64 L)) (first | exact ⟨p0, p4, p5⟩) (first
    | (go_at_call 45; refine (beyond_any 0 64 _).mono ?_; rintro e w2 ⟨g5, rfl, hg, k1, k2, hC⟩; dsimp only; replace kb := kb.on hC; replace bc := bc.trans (hC.mono bc.size); clear hC; obtain ⟨p0, p1, p2, p3, p4, p5, p6, p7⟩ := kb.eight)
    | (go_at_call 58; refine (beyond1_any 0 64 _ _ _ k1 k2).mono ?_; rintro e w3 ⟨rfl, rfl⟩; rw [c6f])
    | (go_at_call 58; refine (beyond1_any 0 64 _ _ _ k1 k2).mono ?_; rintro e w3 ⟨rfl, rfl⟩; rw [c5f]))
  replace c6 := beyond_false c6
  clear c5f c6f
  try clear k1 k2
  clear hg
  (try clear p0 p1 p2 p3 p4 p5 p6 p7)
  obtain ⟨p0, p1, p2, p3, p4, p5, p6, p7⟩ := kb.eight
  go_wp2_with fail
  generalize w2 = u5 at *
  have hdr : Below u5.heap.size u5 u5.drew := (Below.refl _ _).drew
  replace kb := kb.on hdr; replace bc := bc.trans (hdr.mono bc.size); clear hdr
  (try clear p0 p1 p2 p3 p4 p5 p6 p7)
  obtain ⟨p0, p1, p2, p3, p4, p5, p6, p7⟩ := kb.eight
  by_cases c7 : beyondS (16 * N * D + 16) 1048576 W = true
  · skip
    obtain rfl : R = 70 := by rw [HR.out]; exact checkM_no (fun h => beyond_true c7 h.2.2.2.2.2.2.1)
    clear HR
    go_region_held3 (fun w' => w'.cell? ⟨w.heap.size, 0, none⟩ = some (.int .i64 N) ∧ w'.cell? ⟨w.heap.size, 1, none⟩ = some (.int .i64 S) ∧ w'.cell? ⟨w.heap.size, 2, none⟩ = some (.int .i64 G) ∧ w'.cell? ⟨w.heap.size, 3, none⟩ = some (.int .i64 W) ∧ w'.cell? ⟨w.heap.size, 4, none⟩ = some (.int .i64 D) ∧ w'.cell? ⟨w.heap.size, 5, none⟩ = some (.int .i64 L) ∧ w'.cell? ⟨w.heap.size, 6, none⟩ = some (.slice Ac nc cc) ∧ w'.cell? ⟨w.heap.size, 7, none⟩ = some (.slice As ns cs)) (first | exact ⟨p0, p1, p2, p3, p4, p5, p6, p7⟩) (first
      | (go_at_call 49; refine (leastWindow_any ⟨N, S, G, W, D, L, cold, ms⟩ ⟨Ac, nc, cc⟩ ⟨As, ns, cs⟩ _ (by dsimp only; omega) (by dsimp only; omega) (by dsimp only; omega) (by dsimp only; omega)).mono ?_; rintro e w2 ⟨rfl, hC⟩; dsimp only; replace kb := kb.on hC; replace bc := bc.trans (hC.mono bc.size); clear hC; obtain ⟨p0, p1, p2, p3, p4, p5, p6, p7⟩ := kb.eight)
      | (go_at_call 45; refine (beyond_any (16 * N * D + 16) 1048576 _).mono ?_; rintro e w2 ⟨g, rfl, hg, k1, k2, hC⟩; dsimp only; replace kb := kb.on hC; replace bc := bc.trans (hC.mono bc.size); clear hC; obtain ⟨p0, p1, p2, p3, p4, p5, p6, p7⟩ := kb.eight)
      | (go_at_call 58; refine (beyond1_any (16 * N * D + 16) 1048576 _ _ _ k1 k2).mono ?_; rintro e w3 ⟨rfl, rfl⟩; rw [c7]))
    all_goals
      go_wp2
      go_ret
      exact ⟨rfl, bc⟩
  have c7f := not_beyond c7
  go_region_held3 (fun w' => w'.cell? ⟨w.heap.size, 0, none⟩ = some (.int .i64 N) ∧ w'.cell? ⟨w.heap.size, 1, none⟩ = some (.int .i64 S) ∧ w'.cell? ⟨w.heap.size, 2, none⟩ = some (.int .i64 G) ∧ w'.cell? ⟨w.heap.size, 3, none⟩ = some (.int .i64 W) ∧ w'.cell? ⟨w.heap.size, 4, none⟩ = some (.int .i64 D) ∧ w'.cell? ⟨w.heap.size, 5, none⟩ = some (.int .i64 L) ∧ w'.cell? ⟨w.heap.size, 6, none⟩ = some (.slice Ac nc cc) ∧ w'.cell? ⟨w.heap.size, 7, none⟩ = some (.slice As ns cs)) (first | exact ⟨p0, p1, p2, p3, p4, p5, p6, p7⟩) (first
    | (go_at_call 49; refine (leastWindow_any ⟨N, S, G, W, D, L, cold, ms⟩ ⟨Ac, nc, cc⟩ ⟨As, ns, cs⟩ _ (by dsimp only; omega) (by dsimp only; omega) (by dsimp only; omega) (by dsimp only; omega)).mono ?_; rintro e w2 ⟨rfl, hC⟩; dsimp only; replace kb := kb.on hC; replace bc := bc.trans (hC.mono bc.size); clear hC; obtain ⟨p0, p1, p2, p3, p4, p5, p6, p7⟩ := kb.eight)
    | (go_at_call 45; refine (beyond_any (16 * N * D + 16) 1048576 _).mono ?_; rintro e w2 ⟨g, rfl, hg, k1, k2, hC⟩; dsimp only; replace kb := kb.on hC; replace bc := bc.trans (hC.mono bc.size); clear hC; obtain ⟨p0, p1, p2, p3, p4, p5, p6, p7⟩ := kb.eight)
    | (go_at_call 58; refine (beyond1_any (16 * N * D + 16) 1048576 _ _ _ k1 k2).mono ?_; rintro e w3 ⟨rfl, rfl⟩; rw [c7f]))
  replace c7 := beyond_false c7
  clear c7f
  have hW0 : 0 ≤ W := by have := (mul_small (N := N) (D := D) (by omega) (by omega) (by omega) (by omega)).1; have e1 : 16 * N * D = 16 * (N * D) := Int.mul_assoc _ _ _; omega
  try clear k1 k2
  clear hg
  (try clear p0 p1 p2 p3 p4 p5 p6 p7)
  obtain ⟨p0, p1, p2, p3, p4, p5, p6, p7⟩ := kb.eight
  go_wp2_with fail
  generalize w2 = u6 at *
  have hdr : Below u6.heap.size u6 u6.drew := (Below.refl _ _).drew
  replace kb := kb.on hdr; replace bc := bc.trans (hdr.mono bc.size); clear hdr
  (try clear p0 p1 p2 p3 p4 p5 p6 p7)
  obtain ⟨p0, p1, p2, p3, p4, p5, p6, p7⟩ := kb.eight
  by_cases c8 : beyondS (2 * W + 2 * L + 4) 1048576 G = true
  · skip
    obtain rfl : R = 70 := by rw [HR.out]; exact checkM_no (fun h => beyond_true c8 h.2.2.2.2.2.2.2.1)
    clear HR
    go_region_held3 (fun w' => w'.cell? ⟨w.heap.size, 0, none⟩ = some (.int .i64 N) ∧ w'.cell? ⟨w.heap.size, 1, none⟩ = some (.int .i64 S) ∧ w'.cell? ⟨w.heap.size, 2, none⟩ = some (.int .i64 G) ∧ w'.cell? ⟨w.heap.size, 3, none⟩ = some (.int .i64 W) ∧ w'.cell? ⟨w.heap.size, 4, none⟩ = some (.int .i64 D) ∧ w'.cell? ⟨w.heap.size, 5, none⟩ = some (.int .i64 L) ∧ w'.cell? ⟨w.heap.size, 6, none⟩ = some (.slice Ac nc cc) ∧ w'.cell? ⟨w.heap.size, 7, none⟩ = some (.slice As ns cs)) (first | exact ⟨p0, p1, p2, p3, p4, p5, p6, p7⟩) (first
      | (go_at_call 50; refine (leastGap_any ⟨N, S, G, W, D, L, cold, ms⟩ ⟨Ac, nc, cc⟩ ⟨As, ns, cs⟩ _ (by dsimp only; omega) (by dsimp only; omega) (by dsimp only; omega) (by dsimp only; omega)).mono ?_; rintro e w2 ⟨rfl, hC⟩; dsimp only; replace kb := kb.on hC; replace bc := bc.trans (hC.mono bc.size); clear hC; obtain ⟨p0, p1, p2, p3, p4, p5, p6, p7⟩ := kb.eight)
      | (go_at_call 45; refine (beyond_any (2 * W + 2 * L + 4) 1048576 _).mono ?_; rintro e w2 ⟨g, rfl, hg, k1, k2, hC⟩; dsimp only; replace kb := kb.on hC; replace bc := bc.trans (hC.mono bc.size); clear hC; obtain ⟨p0, p1, p2, p3, p4, p5, p6, p7⟩ := kb.eight)
      | (go_at_call 58; refine (beyond1_any (2 * W + 2 * L + 4) 1048576 _ _ _ k1 k2).mono ?_; rintro e w3 ⟨rfl, rfl⟩; rw [c8]))
    all_goals
      go_wp2
      go_ret
      exact ⟨rfl, bc⟩
  have c8f := not_beyond c8
  go_region_held3 (fun w' => w'.cell? ⟨w.heap.size, 0, none⟩ = some (.int .i64 N) ∧ w'.cell? ⟨w.heap.size, 1, none⟩ = some (.int .i64 S) ∧ w'.cell? ⟨w.heap.size, 2, none⟩ = some (.int .i64 G) ∧ w'.cell? ⟨w.heap.size, 3, none⟩ = some (.int .i64 W) ∧ w'.cell? ⟨w.heap.size, 4, none⟩ = some (.int .i64 D) ∧ w'.cell? ⟨w.heap.size, 5, none⟩ = some (.int .i64 L) ∧ w'.cell? ⟨w.heap.size, 6, none⟩ = some (.slice Ac nc cc) ∧ w'.cell? ⟨w.heap.size, 7, none⟩ = some (.slice As ns cs)) (first | exact ⟨p0, p1, p2, p3, p4, p5, p6, p7⟩) (first
    | (go_at_call 50; refine (leastGap_any ⟨N, S, G, W, D, L, cold, ms⟩ ⟨Ac, nc, cc⟩ ⟨As, ns, cs⟩ _ (by dsimp only; omega) (by dsimp only; omega) (by dsimp only; omega) (by dsimp only; omega)).mono ?_; rintro e w2 ⟨rfl, hC⟩; dsimp only; replace kb := kb.on hC; replace bc := bc.trans (hC.mono bc.size); clear hC; obtain ⟨p0, p1, p2, p3, p4, p5, p6, p7⟩ := kb.eight)
    | (go_at_call 45; refine (beyond_any (2 * W + 2 * L + 4) 1048576 _).mono ?_; rintro e w2 ⟨g, rfl, hg, k1, k2, hC⟩; dsimp only; replace kb := kb.on hC; replace bc := bc.trans (hC.mono bc.size); clear hC; obtain ⟨p0, p1, p2, p3, p4, p5, p6, p7⟩ := kb.eight)
    | (go_at_call 58; refine (beyond1_any (2 * W + 2 * L + 4) 1048576 _ _ _ k1 k2).mono ?_; rintro e w3 ⟨rfl, rfl⟩; rw [c8f]))
  replace c8 := beyond_false c8
  clear c8f
  have har := maxAir_range N ms
  obtain ⟨x, hx⟩ : ∃ x, x = maxAirS N ms := ⟨_, rfl⟩
  have hls := fun W1 (h : Med W1 ⟨N, S, G, W, D, L, cold, ms⟩ ⟨Ac, nc, cc⟩ ⟨As, ns, cs⟩) => leastSlot_any ⟨N, S, G, W, D, L, cold, ms⟩ ⟨Ac, nc, cc⟩ ⟨As, ns, cs⟩ W1 (by dsimp only; omega) (by dsimp only; omega) h
  dsimp only [vM] at hls
  rw [← hx] at hls har
  have HLS := Lib.hid hls; have HX := Lib.hid hx; clear hls hx
  try clear k1 k2
  clear hg
  (try clear p0 p1 p2 p3 p4 p5 p6 p7)
  obtain ⟨p0, p1, p2, p3, p4, p5, p6, p7⟩ := kb.eight
  go_wp2_with fail
  generalize w2 = u7 at *
  have hdr : Below u7.heap.size u7 u7.drew := (Below.refl _ _).drew
  replace kb := kb.on hdr; replace bc := bc.trans (hdr.mono bc.size); clear hdr
  (try clear p0 p1 p2 p3 p4 p5 p6 p7)
  obtain ⟨p0, p1, p2, p3, p4, p5, p6, p7⟩ := kb.eight
  by_cases c9 : beyondS (2 * G + x) 16777216 S = true
  · skip
    obtain rfl : R = 70 := by rw [HR.out]; exact checkM_no (fun h => by have h9 := h.2.2.2.2.2.2.2.2; dsimp only at h9; rw [← HX.out] at h9; exact beyond_true c9 h9)
    clear HR
    go_region_held3 (fun w' => w'.cell? ⟨w.heap.size, 0, none⟩ = some (.int .i64 N) ∧ w'.cell? ⟨w.heap.size, 1, none⟩ = some (.int .i64 S) ∧ w'.cell? ⟨w.heap.size, 2, none⟩ = some (.int .i64 G) ∧ w'.cell? ⟨w.heap.size, 3, none⟩ = some (.int .i64 W) ∧ w'.cell? ⟨w.heap.size, 4, none⟩ = some (.int .i64 D) ∧ w'.cell? ⟨w.heap.size, 5, none⟩ = some (.int .i64 L) ∧ w'.cell? ⟨w.heap.size, 6, none⟩ = some (.slice Ac nc cc) ∧ w'.cell? ⟨w.heap.size, 7, none⟩ = some (.slice As ns cs)) (first | exact ⟨p0, p1, p2, p3, p4, p5, p6, p7⟩) (first
      | (go_at_call 51; refine (HLS.out _ (HM.out.on bc)).mono ?_; rintro e w2 ⟨rfl, hC⟩; dsimp only; replace kb := kb.on hC; replace bc := bc.trans (hC.mono bc.size); clear hC; obtain ⟨p0, p1, p2, p3, p4, p5, p6, p7⟩ := kb.eight)
      | (go_at_call 45; refine (beyond_any (2 * G + x) 16777216 _).mono ?_; rintro e w2 ⟨g, rfl, hg, k1, k2, hC⟩; dsimp only; replace kb := kb.on hC; replace bc := bc.trans (hC.mono bc.size); clear hC; obtain ⟨p0, p1, p2, p3, p4, p5, p6, p7⟩ := kb.eight)
      | (go_at_call 58; refine (beyond1_any (2 * G + x) 16777216 _ _ _ k1 k2).mono ?_; rintro e w3 ⟨rfl, rfl⟩; rw [c9]))
    all_goals
      go_wp2
      go_ret
      exact ⟨rfl, bc⟩
  have c9f := not_beyond c9
  go_region_held3 (fun w' => w'.cell? ⟨w.heap.size, 0, none⟩ = some (.int .i64 N) ∧ w'.cell? ⟨w.heap.size, 1, none⟩ = some (.int .i64 S) ∧ w'.cell? ⟨w.heap.size, 2, none⟩ = some (.int .i64 G) ∧ w'.cell? ⟨w.heap.size, 3, none⟩ = some (.int .i64 W) ∧ w'.cell? ⟨w.heap.size, 4, none⟩ = some (.int .i64 D) ∧ w'.cell? ⟨w.heap.size, 5, none⟩ = some (.int .i64 L) ∧ w'.cell? ⟨w.heap.size, 6, none⟩ = some (.slice Ac nc cc) ∧ w'.cell? ⟨w.heap.size, 7, none⟩ = some (.slice As ns cs)) (first | exact ⟨p0, p1, p2, p3, p4, p5, p6, p7⟩) (first
    | (go_at_call 51; refine (HLS.out _ (HM.out.on bc)).mono ?_; rintro e w2 ⟨rfl, hC⟩; dsimp only; replace kb := kb.on hC; replace bc := bc.trans (hC.mono bc.size); clear hC; obtain ⟨p0, p1, p2, p3, p4, p5, p6, p7⟩ := kb.eight)
    | (go_at_call 45; refine (beyond_any (2 * G + x) 16777216 _).mono ?_; rintro e w2 ⟨g, rfl, hg, k1, k2, hC⟩; dsimp only; replace kb := kb.on hC; replace bc := bc.trans (hC.mono bc.size); clear hC; obtain ⟨p0, p1, p2, p3, p4, p5, p6, p7⟩ := kb.eight)
    | (go_at_call 58; refine (beyond1_any (2 * G + x) 16777216 _ _ _ k1 k2).mono ?_; rintro e w3 ⟨rfl, rfl⟩; rw [c9f]))
  replace c9 := beyond_false c9
  obtain rfl : R = 0 := by
    rw [HR.out]
    rw [HX.out] at c9
    refine checkM_yes ⟨c1, ?_, ⟨HN3.out, by dsimp only; rw [← HT.out]; omega⟩, c4, c5, c6, c7, c8, c9⟩
    have h3 := HM.out.sn; dsimp only at h3 ⊢; omega
  all_goals
    go_wp2
    go_ret
    exact ⟨rfl, bc⟩
end Go.Proofs.Ytlkmipcenlhacaa
