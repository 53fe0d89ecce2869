/-
  The statement of the slots, of package sched. Condition: a count below 256.
-/
import Derived.Test.YtjdhodobfkkoiaaTD
import Derived.Test.YtjdhodobfkkoiaaTG
namespace Go.Proofs.Ytjdhodobfkkoiaa
open Go.RowKit

theorem slS_get (g : Gr) (k0 : Int) {k j : Nat} (h : j < k) : (slS g k0 k)[j]?.getD (0, 0) = slotAt g (k0 + j) := by
  simp [slS, h]
theorem first_from {g : Gr} {t : Int} (hb : 1 ≤ g.2.1) : t ≤ g.1 + firstS g t * g.2.1 := by
  unfold firstS
  split
  · rw [Int.zero_mul]; omega
  · have m2 := Int.lt_ediv_add_one_mul_self (t - g.1 - 1) (show 0 < g.2.1 by omega)
    omega
/-- A slot is there just where it is told. -/
theorem there_iff {g : Gr} {x y : Int} (hg : okG g) (hx : x ≤ 1099511627776) (j : Nat) : (isIn g (firstS g x) y j → (slotS g (firstS g x + j)).1 = 0) ∧ ((slotS g (firstS g x + j)).1 = 0 → (slotS g (firstS g x + j)).2 = slotAt g (firstS g x + j) ∧ x ≤ (slotAt g (firstS g x + j)).1 ∧ ((slotAt g (firstS g x + j)).1 < y ↔ isIn g (firstS g x) y j)) := by
  obtain ⟨⟨a1, a2⟩, ⟨b1, b2⟩, _⟩ := hg
  obtain ⟨f1, _, _⟩ := first_bound (a := g.1) (b := g.2.1) (n := g.2.2) (t := x) a1 b1 hx
  have f1' : 0 ≤ firstS g x := f1
  have ff := first_from (g := g) (t := x) b1
  generalize firstS g x = k0 at *
  have hm : k0 * g.2.1 ≤ (k0 + (j : Int)) * g.2.1 := Int.mul_le_mul_of_nonneg_right (by omega) (by omega)
  refine ⟨fun h => ?_, fun h => ?_⟩
  · unfold isIn slotAt at h; dsimp only at h
    have hr : k0 + (j : Int) + 1 ≤ (1099511627776 - g.1) / g.2.1 := (Int.le_ediv_iff_mul_le (by omega)).2 (by rw [Int.add_mul (k0 + (j : Int)) 1, Int.one_mul]; omega)
    unfold slotS
    rw [if_pos ⟨⟨a1, a2⟩, ⟨b1, b2⟩, by assumption⟩, if_neg (by omega), if_neg (by omega)]
  · obtain ⟨_, i0, i1, e⟩ := slotS_ok h
    have hr := slot_room b1 i1
    refine ⟨e, by unfold slotAt; dsimp only; omega, ?_⟩
    unfold isIn slotAt; dsimp only
    omega
theorem there_all {g : Gr} {x y : Int} {C mo M : Nat} (hg : okG g) (hx : x ≤ 1099511627776) (hin : ∀ j, isIn g (firstS g x) y j ↔ j < C) (hM : M = min C mo) (j : Nat) (hj : j < mo) :
    (j < M → (slotS g (firstS g x + j)).1 = 0 ∧ (slotS g (firstS g x + j)).2 = slotAt g (firstS g x + j) ∧ x ≤ (slotS g (firstS g x + j)).2.1 ∧ (slotS g (firstS g x + j)).2.1 < y) ∧ (¬ j < M → (slotS g (firstS g x + j)).1 = 0 → x ≤ (slotS g (firstS g x + j)).2.1 ∧ ¬ (slotS g (firstS g x + j)).2.1 < y) := by
  obtain ⟨t1, t2⟩ := there_iff (y := y) hg hx j
  refine ⟨fun h => ?_, fun h h0 => ?_⟩
  · have hi := (hin j).2 (by omega)
    have h0 := t1 hi
    obtain ⟨e, hx2, hy⟩ := t2 h0
    rw [e]
    exact ⟨h0, rfl, hx2, hy.2 hi⟩
  · obtain ⟨e, hx2, hy⟩ := t2 h0
    rw [e]
    exact ⟨hx2, fun h2 => h (by have := (hin j).1 (hy.1 h2); omega)⟩
set_option maxRecDepth 100000 in
set_option maxHeartbeats 40000000 in
theorem slots_law (a b n k t pos x y : Int) (mo : Nat) (w : World) (hmo : mo < 256) :
    Calls Try.prog 5 #[vG a b n, .int .i64 k, .int .i64 t, .int .i64 pos, vS x y, .int .u8 mo] w fun e w' => e = .returned (.bool true) ∧ Below w.heap.size w w' := by
  have h1 := fun W => slot_any a b n k W
  have h2 := fun W => rslot_any a b n k W
  have h3 := fun W => sslotOf_any a b n t W
  have h4 := fun W => rslotOf_any a b n t W
  have h5 := fun W => next_any a b n t pos W
  have h6 := fun W => rnext_any a b n t pos W
  have h7 := fun W => checkG_any a b n W
  have h8 := fun W => rcheckG_any a b n W
  have h9 := fun W => rscheck_any x y W
  have hs := fun (j : Int) W => rslot_any a b n j W
  obtain ⟨C, hC⟩ := count_is (a, b, n) (x, y)
  have h10 := fun W => slots_any a b n x y C W hC
  obtain ⟨M, hM⟩ : ∃ M, M = min C mo := ⟨_, rfl⟩
  have hkb : 0 ≤ k0S (a, b, n) (x, y) ∧ k0S (a, b, n) (x, y) ≤ 1099511627776 + 16777216 := by
    unfold k0S
    split
    · rename_i h
      obtain ⟨⟨⟨a1, a2⟩, ⟨b1, b2⟩, _⟩, o0, o1, o2⟩ := h
      dsimp only at a1 a2 b1 b2 o0 o1 o2
      have := first_bound (a := a) (b := b) (n := n) (t := x) a1 b1 (by omega)
      dsimp only
      omega
    · omega
  have h11 := fun (gf sb : Nat) (lb : Array Value) (W : World) hent htells ho => told_sl gf sb mo C lb (a, b, n) (k0S (a, b, n) (x, y)) W (by omega) hkb hent htells ho
  rw [← hM] at h11
  obtain ⟨K0, hK0⟩ : ∃ K0 : Int, K0 = k0S (a, b, n) (x, y) := ⟨_, rfl⟩
  rw [← hK0] at h10 h11 hkb
  obtain ⟨FK, hFK⟩ : ∃ FK : Int, FK = if M = 0 then 0 else K0 := ⟨_, rfl⟩
  rw [← hFK] at h11
  generalize slotS (a, b, n) k = r1 at *
  generalize slotOfS (a, b, n) t = r3 at *
  generalize nextS (a, b, n) t pos = r5 at *
  obtain ⟨e1, x1, y1⟩ := r1
  obtain ⟨e3, k3⟩ := r3
  obtain ⟨e5, k5⟩ := r5
  dsimp only at h1 h2 h3 h4 h5 h6
  simp only [chkG_if] at h7 h8
  simp only [chkS_if] at h9
  have hcg : ∃ cg : Int, cg = if okG (a, b, n) then 0 else 61 := ⟨_, rfl⟩
  obtain ⟨cg, hcg⟩ := hcg
  rw [← hcg] at h7 h8
  have c0 : IntKind.i64.wrap (mo : Int) = (mo : Int) := IntWalk.i64_in _ (by omega)
  have H1 := Lib.hid h1; have H2 := Lib.hid h2; have H3 := Lib.hid h3; have H4 := Lib.hid h4; have H5 := Lib.hid h5; have H6 := Lib.hid h6; have H7 := Lib.hid h7; have H8 := Lib.hid h8; have H9 := Lib.hid h9; have HS := Lib.hid hs; have H10 := Lib.hid h10; have H11 := Lib.hid h11
  have HM := Lib.hid hM; have HCG := Lib.hid hcg; have HC := Lib.hid hC; have HMO := Lib.hid hmo; have HKB := Lib.hid hkb; have HK0 := Lib.hid hK0; have HFK := Lib.hid hFK
  clear h1 h2 h3 h4 h5 h6 h7 h8 h9 hs h10 h11 hM hcg hC hmo hkb hK0 hFK
  obtain ⟨kg, ks, bc⟩ := bx2 w #[.int .i64 a, .int .i64 b, .int .i64 n] #[.int .i64 x, .int .i64 y] 41 23
  go_enter Try.func5, Try.ntmps5
  obtain ⟨p0, p1, p2, -, -, -⟩ := kg.three
  go_wp2_with fail
  clear p0 p1 p2
  generalize (w.alloc _).alloc _ = u0 at *
  refine (H1.out _).mono ?_
  rintro e w1 ⟨rfl, hC⟩
  dsimp only
  replace kg := kg.on hC; replace ks := ks.on hC; replace bc := below_then bc hC; clear hC
  have k1 := Blk.new w1 23 #[.int .i64 x1, .int .i64 y1]
  have al := Below.al w1 (.cells #[.int .i64 x1, .int .i64 y1] 23)
  replace kg := kg.on al; replace ks := ks.on al; replace bc := below_then bc al; clear al
  obtain ⟨p0, p1, p2, -, -, -⟩ := kg.three
  go_wp2_with fail
  clear p0 p1 p2
  refine (H2.out _).mono ?_
  rintro e w2 ⟨rfl, hC⟩
  dsimp only
  replace kg := kg.on hC; replace ks := ks.on hC; replace k1 := k1.on hC; replace bc := below_then bc hC; clear hC
  have k2 := Blk.new w2 23 #[.int .i64 x1, .int .i64 y1]
  have al := Below.al w2 (.cells #[.int .i64 x1, .int .i64 y1] 23)
  replace kg := kg.on al; replace ks := ks.on al; replace k1 := k1.on al; replace bc := below_then bc al; clear al
  obtain ⟨p0, p1, p2, -, -, -⟩ := kg.three
  go_wp2_with fail
  clear p0 p1 p2
  refine (H3.out _).mono ?_
  rintro e w3 ⟨rfl, hC⟩
  dsimp only
  replace kg := kg.on hC; replace ks := ks.on hC; replace k1 := k1.on hC; replace k2 := k2.on hC; replace bc := below_then bc hC; clear hC
  obtain ⟨p0, p1, p2, -, -, -⟩ := kg.three
  go_wp2_with fail
  clear p0 p1 p2
  refine (H4.out _).mono ?_
  rintro e w4 ⟨rfl, hC⟩
  dsimp only
  replace kg := kg.on hC; replace ks := ks.on hC; replace k1 := k1.on hC; replace k2 := k2.on hC; replace bc := below_then bc hC; clear hC
  obtain ⟨p0, p1, p2, -, -, -⟩ := kg.three
  go_wp2_with fail
  clear p0 p1 p2
  refine (H5.out _).mono ?_
  rintro e w5 ⟨rfl, hC⟩
  dsimp only
  replace kg := kg.on hC; replace ks := ks.on hC; replace k1 := k1.on hC; replace k2 := k2.on hC; replace bc := below_then bc hC; clear hC
  obtain ⟨p0, p1, p2, -, -, -⟩ := kg.three
  go_wp2_with fail
  clear p0 p1 p2
  refine (H6.out _).mono ?_
  rintro e w6 ⟨rfl, hC⟩
  dsimp only
  replace kg := kg.on hC; replace ks := ks.on hC; replace k1 := k1.on hC; replace k2 := k2.on hC; replace bc := below_then bc hC; clear hC
  go_wp2_with fail
  obtain ⟨q0, q1, q2⟩ := near_three kg
  obtain ⟨q3, q4⟩ := near_two k1
  obtain ⟨q5, q6⟩ := near_two k2
  refine wp_region_near (by kernel_rfl) (by kernel_rfl) ?_
  repeat (go_big_quiet_step (first
    | (go_at_call 11; exact near_call (sbegun_any _))
    | (go_at_call 33; exact near_call (H7.out _))
    | (go_at_call 34; exact near_call (H8.out _))))
  refine wpQuiet_nil ?_
  rintro _ ⟨nw, rfl⟩
  have kg := kg.on nw.h; have ks := ks.on nw.h; have bc := below_then bc nw.h
  clear q0 q1 q2 q3 q4 q5 q6 k1 k2
  generalize nw.W = w7 at *
  clear nw
  obtain ⟨p0, p1, p2, -, -, -⟩ := kg.three
  obtain ⟨s0, s1, -, -⟩ := ks.two
  go_wp2_with fail
  clear p0 p1 p2
  clear s0 s1
  refine (H10.out _).mono ?_
  rintro e w8 ⟨gf, lb, sb, rfl, hent, htells, -, hsb, hC⟩
  dsimp only
  replace kg := kg.on hC; replace ks := ks.on hC; replace bc := below_then bc hC; clear hC
  have HE := Lib.hid hent; have HT := Lib.hid htells; clear hent htells
  go_wp2_with fail
  refine (H11.out gf sb lb _ HE.out HT.out hsb).mono ?_
  rintro e w9 ⟨v, rfl, hrow, hC⟩
  dsimp only
  replace kg := kg.on hC; replace ks := ks.on hC; replace bc := below_then bc hC; clear hC
  obtain ⟨LA, lc, rfl, hL⟩ : ∃ LA lc, v = .slice LA M lc ∧ Smps w9.heap.size w9 LA (slS (a, b, n) K0 M) := by
    obtain ⟨LA, lc, h, -, -, hL⟩ := spans_of_own hrow
    rw [slS_length] at h
    exact ⟨LA, lc, h, hL⟩
  clear hrow H10 H11 HE HT hsb H1 H2 H3 H4 H5 H6 H7
  obtain ⟨p0, p1, p2, -, -, -⟩ := kg.three
  go_wp2_with fail
  clear p0 p1 p2
  by_cases hg : okG (a, b, n)
  · have hcg : cg = 0 := by rw [HCG.out, if_pos hg]
    subst hcg
    refine (H8.out _).mono ?_
    rintro e w10 ⟨rfl, hC⟩
    dsimp only
    replace kg := kg.on hC; replace ks := ks.on hC; replace hL := hL.on hC; replace bc := below_then bc hC; clear hC
    obtain ⟨s0, s1, -, -⟩ := ks.two
    go_wp2_with fail
    clear s0 s1
    by_cases hs : okS (x, y)
    · have h9 := H9.out
      simp only [hs, if_true] at h9
      replace H9 := Lib.hid h9; clear h9
      refine (H9.out _).mono ?_
      rintro e w11 ⟨rfl, hC⟩
      dsimp only
      replace kg := kg.on hC; replace ks := ks.on hC; replace hL := hL.on hC; replace bc := below_then bc hC; clear hC
      have hK := HK0.out
      rw [show k0S (a, b, n) (x, y) = firstS (a, b, n) x from if_pos ⟨hg, hs⟩] at hK
      have hic := HC.out
      unfold IsCount at hic
      rw [if_pos ⟨hg, hs⟩] at hic
      have hxm : x ≤ 1099511627776 := by unfold okS at hs; dsimp only at hs; omega
      have hth := there_all (y := y) (mo := mo) hg hxm hic.1 HM.out
      rw [← hK] at hth
      obtain ⟨⟨o0, o1⟩, ⟨o2, o3⟩, o4, o5⟩ := hg
      obtain ⟨i0, i1, i2⟩ := hs
      dsimp only at o0 o1 o2 o3 o4 o5 i0 i1 i2
      have HTH := Lib.hid hth; have HK := Lib.hid hK; have HI := Lib.hid (show x ≤ y ∧ y ≤ 1099511627776 ∧ 4 ≤ n ∧ n ≤ 8 from ⟨i1, i2, o4, o5⟩)
      clear hth hK hic hxm i1 i2 o4 o5
      by_cases hax : a < x
      · have hdx : decide (a < x) = true := by simpa using hax
        have hi := HI.out
        have v1 : IntKind.i64.wrap (x - a) = x - a := IntWalk.i64_in _ (by omega)
        have v2 : IntKind.i64.wrap (x - a + b) = x - a + b := IntWalk.i64_in _ (by omega)
        have v3 : IntKind.i64.wrap (x - a + b - 1) = x - a + b - 1 := IntWalk.i64_in _ (by omega)
        have v4 : IntKind.i64.wrap ((x - a + b - 1).tdiv b) = K0 := by rw [quo_in (by omega) (by omega) o2, HK.out]; exact first_div o2 hax
        have hb0 : b ≠ 0 := by omega
        clear hi
        obtain ⟨p0, p1, p2, -, -, -⟩ := kg.three
        obtain ⟨s0, s1, -, -⟩ := ks.two
        clear o0 o1 o2 o3 i0 HI
        go_wp2
        clear p0 p1 p2 s0 s1
        go_loopw [153] (fun i wr => ∃ j : Nat, j ≤ mo ∧ i = .int .i64 j ∧ Blk wr w.heap.size 41 #[.int .i64 a, .int .i64 b, .int .i64 n] ∧ Blk wr (w.heap.size + 1) 23 #[.int .i64 x, .int .i64 y] ∧ Smps wr.heap.size wr LA (slS (a, b, n) K0 M) ∧ Below w.heap.size w wr)
          (fun i _ => mo - (intOf i).toNat)
        case atStart => exact ⟨0, by omega, rfl, kg, ks, hL, bc⟩
        case round =>
          clear kg ks hL bc
          obtain ⟨j, hj, rfl, kg, ks, hL, bc⟩ := hrel
          by_cases hlt : j < mo
          · have hmo := HMO.out
            have hth := HTH.out j hlt
            obtain ⟨ht1, ht2⟩ := hth
            have hr := HS.out (K0 + (j : Int))
            have hw : IntKind.i64.wrap (K0 + (j : Int)) = K0 + (j : Int) := IntWalk.i64_in _ (by have := HKB.out; omega)
            have hdj : decide ((j : Int) < (mo : Int)) = true := by simpa using hlt
            have hg2 := fun h => slS_get (a, b, n) K0 (k := M) (j := j) h
            generalize slotS (a, b, n) (K0 + (j : Int)) = r at *
            generalize slotAt (a, b, n) (K0 + (j : Int)) = sl at *
            obtain ⟨er, u, v⟩ := r
            dsimp only at hr ht1 ht2
            have HR := Lib.hid hr; have HT1 := Lib.hid ht1; have HT2 := Lib.hid ht2; have HG2 := Lib.hid hg2
            clear hr ht1 ht2 hg2
            obtain ⟨p0, p1, p2, -, -, -⟩ := kg.three
            go_wp2_with fail
            clear p0 p1 p2
            refine (HR.out _).mono ?_
            rintro e w12 ⟨rfl, hC⟩
            dsimp only
            replace kg := kg.on hC; replace ks := ks.on hC; replace hL := hL.on hC; replace bc := below_then bc hC; clear hC
            have k3 := Blk.new w12 23 #[.int .i64 u, .int .i64 v]
            have al := Below.al w12 (.cells #[.int .i64 u, .int .i64 v] 23)
            replace kg := kg.on al; replace ks := ks.on al; replace hL := hL.on al; replace bc := below_then bc al; clear al
            obtain ⟨z0, z1, -, -⟩ := k3.two
            obtain ⟨s0, s1, -, -⟩ := ks.two
            have BC := Lib.hid bc; have KG := Lib.hid kg; have KS := Lib.hid ks; have HL := Lib.hid hL
            clear bc kg ks hL k3
            by_cases hjM : j < M
            · obtain ⟨rfl, hsl, hxu, huy⟩ := HT1.out hjM
              have d1 : decide (x ≤ u) = true := by simpa using hxu
              have d2 : decide (u < y) = true := by simpa using huy
              have d3 : decide ((j : Int) < (M : Int)) = true := by simpa using hjM
              have hjM2 : (j : Int) < (M : Int) := by omega
              obtain ⟨bl, off, rfl, _, hc0, hc1⟩ := HL.out.at_ (k := j) (by rw [slS_length]; exact hjM)
              rw [HG2.out hjM, ← hsl] at hc0 hc1
              dsimp only at hc0 hc1
              clear hsl hxu huy HT1 HT2 HG2
              go_wp2
              go_quiet (fail)
              go_wp2
              go_roundw
              case rel => exact ⟨j + 1, by omega, by go_num, KG.out.drewN _, KS.out.drewN _, HL.out.on (below_drewN (Below.refl _ _) _), below_drewN BC.out _⟩
              case measure => simp [intOf]; omega
            · have d3 : decide ((j : Int) < (M : Int)) = false := by simp; omega
              by_cases he : er = 0
              · subst he
                obtain ⟨hxu, huy⟩ := HT2.out hjM (by trivial)
                have d1 : decide (x ≤ u) = true := by simpa using hxu
                have d2 : decide (u < y) = false := by simp; omega
                clear hxu huy HT1 HT2 HG2
                go_wp2
                go_quiet (fail)
                go_wp2
                go_roundw
                case rel => exact ⟨j + 1, by omega, by go_num, KG.out.drewN _, KS.out.drewN _, HL.out.on (below_drewN (Below.refl _ _) _), below_drewN BC.out _⟩
                case measure => simp [intOf]; omega
              · have b1 : (er == 0) = false := by simpa using he
                clear HT1 HT2 HG2
                go_wp2
                go_quiet (fail)
                go_wp2
                go_roundw
                case rel => exact ⟨j + 1, by omega, by go_num, KG.out.drewN _, KS.out.drewN _, HL.out.on (below_drewN (Below.refl _ _) _), below_drewN BC.out _⟩
                case measure => simp [intOf]; omega
          · obtain rfl : j = mo := by omega
            by_cases hM0 : M = 0
            · subst hM0
              go_wp2
              go_ret
              exact ⟨rfl, bc⟩
            · have hF : FK = K0 := by rw [HFK.out, if_neg hM0]
              rw [hF]
              clear hF HFK
              have m1 : ((M : Int) == 0) = false := by rw [beq_eq_false_iff_ne]; omega
              have m2 : decide ((M : Int) = 0) = false := by simp; omega
              have m3 : (M == 0) = false := by simpa using hM0
              go_wp2
              go_ret
              exact ⟨rfl, bc⟩
      · have hdx : decide (a < x) = false := by simp; omega
        have hK00 : K0 = 0 := by rw [HK.out]; unfold firstS; rw [if_pos (by dsimp only; omega)]
        subst hK00
        obtain ⟨p0, p1, p2, -, -, -⟩ := kg.three
        obtain ⟨s0, s1, -, -⟩ := ks.two
        clear o0 o1 o2 o3 i0 HI
        go_wp2
        clear p0 p1 p2 s0 s1
        go_loopw [153] (fun i wr => ∃ j : Nat, j ≤ mo ∧ i = .int .i64 j ∧ Blk wr w.heap.size 41 #[.int .i64 a, .int .i64 b, .int .i64 n] ∧ Blk wr (w.heap.size + 1) 23 #[.int .i64 x, .int .i64 y] ∧ Smps wr.heap.size wr LA (slS (a, b, n) 0 M) ∧ Below w.heap.size w wr)
          (fun i _ => mo - (intOf i).toNat)
        case atStart => exact ⟨0, by omega, rfl, kg, ks, hL, bc⟩
        case round =>
          clear kg ks hL bc
          obtain ⟨j, hj, rfl, kg, ks, hL, bc⟩ := hrel
          by_cases hlt : j < mo
          · have hmo := HMO.out
            have hth := HTH.out j hlt; simp only [Int.zero_add] at hth
            obtain ⟨ht1, ht2⟩ := hth
            have hr := HS.out ((j : Int))
            have hw : IntKind.i64.wrap ((j : Int)) = (j : Int) := IntWalk.i64_in _ (by have := HKB.out; omega)
            have hdj : decide ((j : Int) < (mo : Int)) = true := by simpa using hlt
            have hg2 := fun h => slS_get (a, b, n) 0 (k := M) (j := j) h; simp only [Int.zero_add] at hg2
            generalize slotS (a, b, n) ((j : Int)) = r at *
            generalize slotAt (a, b, n) ((j : Int)) = sl at *
            obtain ⟨er, u, v⟩ := r
            dsimp only at hr ht1 ht2
            have HR := Lib.hid hr; have HT1 := Lib.hid ht1; have HT2 := Lib.hid ht2; have HG2 := Lib.hid hg2
            clear hr ht1 ht2 hg2
            obtain ⟨p0, p1, p2, -, -, -⟩ := kg.three
            go_wp2_with fail
            clear p0 p1 p2
            refine (HR.out _).mono ?_
            rintro e w12 ⟨rfl, hC⟩
            dsimp only
            replace kg := kg.on hC; replace ks := ks.on hC; replace hL := hL.on hC; replace bc := below_then bc hC; clear hC
            have k3 := Blk.new w12 23 #[.int .i64 u, .int .i64 v]
            have al := Below.al w12 (.cells #[.int .i64 u, .int .i64 v] 23)
            replace kg := kg.on al; replace ks := ks.on al; replace hL := hL.on al; replace bc := below_then bc al; clear al
            obtain ⟨z0, z1, -, -⟩ := k3.two
            obtain ⟨s0, s1, -, -⟩ := ks.two
            have BC := Lib.hid bc; have KG := Lib.hid kg; have KS := Lib.hid ks; have HL := Lib.hid hL
            clear bc kg ks hL k3
            by_cases hjM : j < M
            · obtain ⟨rfl, hsl, hxu, huy⟩ := HT1.out hjM
              have d1 : decide (x ≤ u) = true := by simpa using hxu
              have d2 : decide (u < y) = true := by simpa using huy
              have d3 : decide ((j : Int) < (M : Int)) = true := by simpa using hjM
              have hjM2 : (j : Int) < (M : Int) := by omega
              obtain ⟨bl, off, rfl, _, hc0, hc1⟩ := HL.out.at_ (k := j) (by rw [slS_length]; exact hjM)
              rw [HG2.out hjM, ← hsl] at hc0 hc1
              dsimp only at hc0 hc1
              clear hsl hxu huy HT1 HT2 HG2
              go_wp2
              go_quiet (fail)
              go_wp2
              go_roundw
              case rel => exact ⟨j + 1, by omega, by go_num, KG.out.drewN _, KS.out.drewN _, HL.out.on (below_drewN (Below.refl _ _) _), below_drewN BC.out _⟩
              case measure => simp [intOf]; omega
            · have d3 : decide ((j : Int) < (M : Int)) = false := by simp; omega
              by_cases he : er = 0
              · subst he
                obtain ⟨hxu, huy⟩ := HT2.out hjM (by trivial)
                have d1 : decide (x ≤ u) = true := by simpa using hxu
                have d2 : decide (u < y) = false := by simp; omega
                clear hxu huy HT1 HT2 HG2
                go_wp2
                go_quiet (fail)
                go_wp2
                go_roundw
                case rel => exact ⟨j + 1, by omega, by go_num, KG.out.drewN _, KS.out.drewN _, HL.out.on (below_drewN (Below.refl _ _) _), below_drewN BC.out _⟩
                case measure => simp [intOf]; omega
              · have b1 : (er == 0) = false := by simpa using he
                clear HT1 HT2 HG2
                go_wp2
                go_quiet (fail)
                go_wp2
                go_roundw
                case rel => exact ⟨j + 1, by omega, by go_num, KG.out.drewN _, KS.out.drewN _, HL.out.on (below_drewN (Below.refl _ _) _), below_drewN BC.out _⟩
                case measure => simp [intOf]; omega
          · obtain rfl : j = mo := by omega
            by_cases hM0 : M = 0
            · subst hM0
              go_wp2
              go_ret
              exact ⟨rfl, bc⟩
            · have hF : FK = 0 := by rw [HFK.out, if_neg hM0]
              rw [hF]
              clear hF HFK
              have m1 : ((M : Int) == 0) = false := by rw [beq_eq_false_iff_ne]; omega
              have m2 : decide ((M : Int) = 0) = false := by simp; omega
              have m3 : (M == 0) = false := by simpa using hM0
              go_wp2
              go_ret
              exact ⟨rfl, bc⟩
    · have h9 := H9.out
      simp only [hs, if_false] at h9
      replace H9 := Lib.hid h9; clear h9
      have hM0 : M = 0 := by
        have h := HC.out
        unfold IsCount at h
        rw [if_neg (fun h => hs h.2)] at h
        have := HM.out
        omega
      subst hM0
      refine (H9.out _).mono ?_
      rintro e w11 ⟨rfl, hC⟩
      dsimp only
      replace kg := kg.on hC; replace ks := ks.on hC; replace hL := hL.on hC; replace bc := below_then bc hC; clear hC
      go_wp2
      go_ret
      exact ⟨rfl, bc⟩
  · have hcg : cg = 61 := by rw [HCG.out, if_neg hg]
    subst hcg
    have hM0 : M = 0 := by
      have h := HC.out
      unfold IsCount at h
      rw [if_neg (fun h => hg h.1)] at h
      have := HM.out
      omega
    subst hM0
    refine (H8.out _).mono ?_
    rintro e w10 ⟨rfl, hC⟩
    dsimp only
    replace kg := kg.on hC; replace ks := ks.on hC; replace hL := hL.on hC; replace bc := below_then bc hC; clear hC
    go_wp2
    go_ret
    exact ⟨rfl, bc⟩
end Go.Proofs.Ytjdhodobfkkoiaa
