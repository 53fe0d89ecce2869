/-
  The document's Check, Slot, Send and Window of layer 13. Conditions: a list and a clock that can be read. (Printed by tools/gen13b.py; laid ahead.)
-/
import Derived.Test.YtlkmipcenlhacaaLA
namespace Go.Proofs.Ytlkmipcenlhacaa
open Go.RowKit

theorem near_eightK {w0 : World} {g : Nat} {t : TypeId} {a b c d e f k l : Value} (h : Blk w0 g t #[a, b, c, d, e, f, k, l]) : ∀ n : NearW w0, n.W.cell? ⟨g, 3, none⟩ = some d := fun n => by
  obtain ⟨-, -, -, h3, -⟩ := (h.below n.h h.lt).eight
  exact h3
theorem near_cellK {w0 : World} {b off : Nat} {v : Value} (hb : b < w0.heap.size) (h : w0.cell? ⟨b, off, none⟩ = some v) : ∀ n : NearW w0, n.W.cell? ⟨b, off, none⟩ = some v := fun n => (n.h.cell (p := ⟨b, off, none⟩) hb).trans h

set_option maxRecDepth 100000 in
set_option maxHeartbeats 4000000 in
theorem rchkK_any (m : ML) (c s : Slc) (k : Ck) (v : Slc) (w : World) (hM : Med w m c s) (hk : CkOk w.heap.size w k v) : Calls Try.prog 13 #[vM m c s, .agg (cK k v)] w fun e w' => e = .returned (.int .i64 (chkK m k)) ∧ Below w.heap.size w w' := by
  obtain ⟨R, hR⟩ : ∃ R, R = chkK m k := ⟨_, rfl⟩
  rw [← hR]
  have h70 : ¬ okM m → R = 70 := fun h => by rw [hR]; exact chkK_list h
  have h130 : okM m → ¬ okCk m.W k → R = 130 := fun h h2 => by rw [hR]; exact chkK_clock h h2
  have h0 : okM m → okCk m.W k → R = 0 := fun h h2 => by rw [hR]; exact chkK_zero.2 ⟨h, h2⟩
  clear hR
  have hck := fun U (hb : Below w.heap.size w U) => rmcheck_any m c s U (hM.on hb)
  obtain ⟨ck, hcke⟩ : ∃ ck, ck = checkM m := ⟨_, rfl⟩
  rw [← hcke] at hck
  have hz : okM m → ck = 0 ∧ 16 ≤ m.W ∧ m.W ≤ 1048576 := fun h => ⟨by rw [hcke]; exact checkM_zero.2 h, (okM_nums h).2.2.2.1⟩
  have hnz : ¬ okM m → ck = 70 := fun h => by rw [hcke]; exact checkM_no h
  obtain ⟨ok, hokm⟩ : ∃ ok, ok = okM m := ⟨_, rfl⟩
  rw [← hokm] at h70 h130 h0 hz hnz
  clear hokm hcke
  have hA := hk.d; have hn := hk.dn
  clear hk hM
  obtain ⟨N, S, G, W, D, L, cold, ms⟩ := m
  obtain ⟨Ac, nc, cc⟩ := c
  obtain ⟨As, ns, cs⟩ := s
  obtain ⟨st, sl, dv⟩ := k
  obtain ⟨A, n, c⟩ := v
  dsimp only [vM, cK] at *
  have HCK := Lib.hid hck; clear hck
  obtain ⟨km, kc, bc⟩ := bx2 w #[.int .i64 N, .int .i64 S, .int .i64 G, .int .i64 W, .int .i64 D, .int .i64 L, .slice Ac nc cc, .slice As ns cs] #[.int .i64 st, .int .i64 sl, .slice A n c] 25 28
  obtain ⟨p0, p1, p2, p3, p4, p5, p6, p7⟩ := km.eight; obtain ⟨q0, q1, q2, -⟩ := kc.three
  by_cases hok : ok
  rotate_left
  · obtain rfl := h70 hok
    obtain rfl := hnz hok
    clear h130 h0 hz hnz h70 hA hn
    go_enter Try.func13, Try.ntmps13
    go_wp2_with (first | (go_at_call 35; refine (HCK.out _ bc).mono ?_; rintro e w1 ⟨rfl, hC⟩; dsimp only; clear p0 p1 p2 p3 p4 p5 p6 p7 q0 q1 q2; replace km := km.on hC; replace kc := kc.on hC; replace bc := bc.trans (hC.mono bc.size); clear hC; obtain ⟨p0, p1, p2, p3, p4, p5, p6, p7⟩ := km.eight; obtain ⟨q0, q1, q2, -⟩ := kc.three))
    go_ret
    exact ⟨rfl, bc⟩
  obtain ⟨rfl, hW0, hW1⟩ := hz hok
  replace h130 := h130 hok; replace h0 := h0 hok
  clear h70 hnz hz hok
  unfold okCk at h130 h0
  dsimp only at h130 h0
  by_cases c0 : 0 ≤ st
  rotate_left
  · obtain rfl : R = 130 := h130 (fun hh => c0 (by have := hh.1.1.1; omega))
    have d0 : decide (st < 0) = true := by simp; omega
    clear h130 h0 hA hn
    go_enter Try.func13, Try.ntmps13
    go_wp2_with (first | (go_at_call 35; refine (HCK.out _ bc).mono ?_; rintro e w1 ⟨rfl, hC⟩; dsimp only; clear p0 p1 p2 p3 p4 p5 p6 p7 q0 q1 q2; replace km := km.on hC; replace kc := kc.on hC; replace bc := bc.trans (hC.mono bc.size); clear hC; obtain ⟨p0, p1, p2, p3, p4, p5, p6, p7⟩ := km.eight; obtain ⟨q0, q1, q2, -⟩ := kc.three))
    go_ret
    exact ⟨rfl, bc⟩
  have d0 : decide (st < 0) = false := by simp; omega
  by_cases c1 : st ≤ 1099494850560
  rotate_left
  · obtain rfl : R = 130 := h130 (fun hh => c1 (by have := hh.1.1.2; omega))
    have d1 : decide (1099494850560 < st) = true := by simp; omega
    clear h130 h0 hA hn
    go_enter Try.func13, Try.ntmps13
    go_wp2_with (first | (go_at_call 35; refine (HCK.out _ bc).mono ?_; rintro e w1 ⟨rfl, hC⟩; dsimp only; clear p0 p1 p2 p3 p4 p5 p6 p7 q0 q1 q2; replace km := km.on hC; replace kc := kc.on hC; replace bc := bc.trans (hC.mono bc.size); clear hC; obtain ⟨p0, p1, p2, p3, p4, p5, p6, p7⟩ := km.eight; obtain ⟨q0, q1, q2, -⟩ := kc.three))
    go_ret
    exact ⟨rfl, bc⟩
  have d1 : decide (1099494850560 < st) = false := by simp; omega
  by_cases c2 : 0 ≤ sl
  rotate_left
  · obtain rfl : R = 130 := h130 (fun hh => c2 (by have := hh.1.2.1; omega))
    have d2 : decide (sl < 0) = true := by simp; omega
    clear h130 h0 hA hn
    go_enter Try.func13, Try.ntmps13
    go_wp2_with (first | (go_at_call 35; refine (HCK.out _ bc).mono ?_; rintro e w1 ⟨rfl, hC⟩; dsimp only; clear p0 p1 p2 p3 p4 p5 p6 p7 q0 q1 q2; replace km := km.on hC; replace kc := kc.on hC; replace bc := bc.trans (hC.mono bc.size); clear hC; obtain ⟨p0, p1, p2, p3, p4, p5, p6, p7⟩ := km.eight; obtain ⟨q0, q1, q2, -⟩ := kc.three))
    go_ret
    exact ⟨rfl, bc⟩
  have d2 : decide (sl < 0) = false := by simp; omega
  by_cases c3 : sl ≤ 1048576
  rotate_left
  · obtain rfl : R = 130 := h130 (fun hh => c3 (by have := hh.1.2.2; omega))
    have d3 : decide (1048576 < sl) = true := by simp; omega
    clear h130 h0 hA hn
    go_enter Try.func13, Try.ntmps13
    go_wp2_with (first | (go_at_call 35; refine (HCK.out _ bc).mono ?_; rintro e w1 ⟨rfl, hC⟩; dsimp only; clear p0 p1 p2 p3 p4 p5 p6 p7 q0 q1 q2; replace km := km.on hC; replace kc := kc.on hC; replace bc := bc.trans (hC.mono bc.size); clear hC; obtain ⟨p0, p1, p2, p3, p4, p5, p6, p7⟩ := km.eight; obtain ⟨q0, q1, q2, -⟩ := kc.three))
    go_ret
    exact ⟨rfl, bc⟩
  have d3 : decide (1048576 < sl) = false := by simp; omega
  by_cases c4 : n ≤ 8
  rotate_left
  · obtain rfl : R = 130 := h130 (fun hh => c4 (by have := hh.2.1; omega))
    have d4 : decide (8 < (n : Int)) = true := by simp; omega
    clear h130 h0 hA hn
    go_enter Try.func13, Try.ntmps13
    go_wp2_with (first | (go_at_call 35; refine (HCK.out _ bc).mono ?_; rintro e w1 ⟨rfl, hC⟩; dsimp only; clear p0 p1 p2 p3 p4 p5 p6 p7 q0 q1 q2; replace km := km.on hC; replace kc := kc.on hC; replace bc := bc.trans (hC.mono bc.size); clear hC; obtain ⟨p0, p1, p2, p3, p4, p5, p6, p7⟩ := km.eight; obtain ⟨q0, q1, q2, -⟩ := kc.three))
    go_ret
    exact ⟨rfl, bc⟩
  have d4 : decide (8 < (n : Int)) = false := by simp; omega
  replace h0 : (∀ i, i < n → -W ≤ nth dv i ∧ nth dv i ≤ W) → R = 0 := fun h => h0 ⟨⟨⟨c0, c1⟩, c2, c3⟩, by omega, by rw [← hn]; exact h⟩
  replace h130 : ∀ i, i < n → ¬ (-W ≤ nth dv i ∧ nth dv i ≤ W) → R = 130 := fun i hi h => h130 (fun hh => h (hh.2.2 i (by omega)))
  have HY := Lib.hid h0; have HNO := Lib.hid h130; have HA := Lib.hid hA; have HN := Lib.hid hn
  clear h0 h130 hA hn
  have hwn : IntKind.i64.wrap (-W) = -W := IntWalk.i64_in _ (by omega)
  go_enter Try.func13, Try.ntmps13
  go_wp2_with (first | (go_at_call 35; refine (HCK.out _ bc).mono ?_; rintro e w1 ⟨rfl, hC⟩; dsimp only; clear p0 p1 p2 p3 p4 p5 p6 p7 q0 q1 q2; replace km := km.on hC; replace kc := kc.on hC; replace bc := bc.trans (hC.mono bc.size); clear hC; obtain ⟨p0, p1, p2, p3, p4, p5, p6, p7⟩ := km.eight; obtain ⟨q0, q1, q2, -⟩ := kc.three))
  clear p0 p1 p2 p3 p4 p5 p6 p7 q0 q1 q2
  go_loopw [6] (fun i wr => ∃ j : Nat, j ≤ n ∧ i = .int .i64 j ∧ (∀ i, i < j → -W ≤ nth dv i ∧ nth dv i ≤ W) ∧ Blk wr w.heap.size 25 #[.int .i64 N, .int .i64 S, .int .i64 G, .int .i64 W, .int .i64 D, .int .i64 L, .slice Ac nc cc, .slice As ns cs] ∧ Blk wr (w.heap.size + 1) 28 #[.int .i64 st, .int .i64 sl, .slice A n c] ∧ Below w.heap.size w wr)
    (fun i _ => n - (intOf i).toNat)
  case atStart => exact ⟨0, by omega, rfl, fun j hj => by omega, km, kc, bc⟩
  case round =>
    clear km kc bc
    obtain ⟨j, hj, rfl, hall, km, kc, bc⟩ := hrel
    obtain ⟨p0, p1, p2, p3, p4, p5, p6, p7⟩ := km.eight; obtain ⟨q0, q1, q2, -⟩ := kc.three
    by_cases hlt : j < n
    rotate_left
    · obtain rfl : j = n := by omega
      obtain rfl := HY.out hall
      clear hall
      go_wp2
      go_ret
      exact ⟨rfl, bc⟩
    have hlt2 : (j : Int) < (n : Int) := by omega
    obtain ⟨b, off, rfl, hb, hcell⟩ := (HA.out.below bc).nAt (k := j) (by have := HN.out; omega)
    have hbw : b < wr.heap.size := Nat.lt_of_lt_of_le hb bc.size
    have x3 := near_eightK km
    obtain ⟨y0, y1, y2⟩ := near_three kc
    have m0 := near_cellK hbw hcell
    have hno := HNO.out j hlt
    have hst : (-W ≤ nth dv j ∧ nth dv j ≤ W) → ∀ i, i < j + 1 → -W ≤ nth dv i ∧ nth dv i ≤ W := fun h1 i hi => by
      rcases Nat.lt_or_ge i j with h2 | h2
      · exact hall i h2
      · obtain rfl : i = j := by omega
        exact h1
    have HST := Lib.hid hst; have HB := Lib.hid hno
    have KM := Lib.hid km; have KC := Lib.hid kc; have BC := Lib.hid bc
    clear hst hno hall hcell km kc bc
    generalize nth dv j = x at *
    by_cases e1 : -W ≤ x
    rotate_left
    · obtain rfl : R = 130 := HB.out (fun h => e1 h.1)
      have d5 : decide (x < -W) = true := by simp; omega
      go_wp2_with fail
      refine wp_region_near (by kernel_rfl) (by kernel_rfl) ?_
      repeat (go_big_quiet_step (first | fail))
      refine wpQuiet_nil ?_
      rintro _ ⟨nw, rfl⟩
      have km := KM.out.on nw.h
      have kc := KC.out.on nw.h
      have bc := BC.out.trans (nw.h.mono BC.out.size)
      clear x3 y0 y1 y2 m0 p0 p1 p2 p3 p4 p5 p6 p7 q0 q1 q2
      go_wp2
      go_ret
      exact ⟨rfl, bc⟩
    have d5 : decide (x < -W) = false := by simp; omega
    by_cases e2 : x ≤ W
    rotate_left
    · obtain rfl : R = 130 := HB.out (fun h => e2 h.2)
      have d6 : decide (W < x) = true := by simp; omega
      go_wp2_with fail
      refine wp_region_near (by kernel_rfl) (by kernel_rfl) ?_
      repeat (go_big_quiet_step (first | fail))
      refine wpQuiet_nil ?_
      rintro _ ⟨nw, rfl⟩
      have km := KM.out.on nw.h
      have kc := KC.out.on nw.h
      have bc := BC.out.trans (nw.h.mono BC.out.size)
      clear x3 y0 y1 y2 m0 p0 p1 p2 p3 p4 p5 p6 p7 q0 q1 q2
      go_wp2
      go_ret
      exact ⟨rfl, bc⟩
    have d6 : decide (W < x) = false := by simp; omega
    have HS2 := Lib.hid (HST.out ⟨e1, e2⟩)
    go_wp2_with fail
    refine wp_region_near (by kernel_rfl) (by kernel_rfl) ?_
    repeat (go_big_quiet_step (first | fail))
    refine wpQuiet_nil ?_
    rintro _ ⟨nw, rfl⟩
    have km := KM.out.on nw.h
    have kc := KC.out.on nw.h
    have bc := BC.out.trans (nw.h.mono BC.out.size)
    clear x3 y0 y1 y2 m0 p0 p1 p2 p3 p4 p5 p6 p7 q0 q1 q2
    go_wp2_with fail
    go_roundw
    case rel => exact ⟨j + 1, by omega, by go_num, HS2.out, km, kc, bc⟩
    case measure => simp [intOf]; omega
set_option maxRecDepth 100000 in
set_option maxHeartbeats 4000000 in
theorem rslotK_any (m : ML) (c s : Slc) (k : Ck) (v : Slc) (w : World) (hM : Med w m c s) (hk : CkOk w.heap.size w k v) : Calls Try.prog 10 #[vM m c s, .agg (cK k v)] w ((ResSp w (slotK m k))) := by
  have hck := fun U (hb : Below w.heap.size w U) => rchkK_any m c s k v U (hM.on hb) (hk.on hb)
  have hb1 : chkK m k = 0 → okM m ∧ okCk m.W k := chkK_zero.1
  have hbn := fun h => okM_nums (m := m) h
  unfold ResSp slotK 
  obtain ⟨ck, hcke⟩ : ∃ ck, ck = chkK m k := ⟨_, rfl⟩
  rw [← hcke] at hck hb1
  rw [← hcke]
  clear hcke hM hk
  obtain ⟨N, S, G, W, D, L, cold, ms⟩ := m
  obtain ⟨Ac, nc, cc⟩ := c
  obtain ⟨As, ns, cs⟩ := s
  obtain ⟨st, sl, dv⟩ := k
  obtain ⟨A, n, c⟩ := v
  dsimp only [vM, cK] at *
  have HCK := Lib.hid hck; clear hck
  obtain ⟨km, kc, kr, bc⟩ := bx3 w #[.int .i64 N, .int .i64 S, .int .i64 G, .int .i64 W, .int .i64 D, .int .i64 L, .slice Ac nc cc, .slice As ns cs] #[.int .i64 st, .int .i64 sl, .slice A n c] #[.int .i64 0, .int .i64 0] 25 28 30
  obtain ⟨p0, p1, p2, p3, p4, p5, p6, p7⟩ := km.eight; obtain ⟨q0, q1, q2, -⟩ := kc.three; obtain ⟨r0, r1, g0, g1⟩ := kr.two
  by_cases h0 : ck = 0
  rotate_left
  · rw [if_neg h0]
    have d0 : (ck != 0) = true := by simpa using h0
    clear hb1 hbn
    go_enter Try.func10, Try.ntmps10
    go_wp2_with (first | (go_at_call 13; refine (HCK.out _ bc).mono ?_; rintro e w1 ⟨rfl, hC⟩; dsimp only; (try clear p0 p1 p2 p3 p4 p5 p6 p7); (try clear q0 q1 q2); (try clear r0 r1 g0 g1); (try clear r2 g2); replace km := km.on hC; replace kc := kc.on hC; replace kr := kr.on hC; replace bc := bc.trans (hC.mono bc.size); clear hC; obtain ⟨p0, p1, p2, p3, p4, p5, p6, p7⟩ := km.eight; obtain ⟨q0, q1, q2, -⟩ := kc.three; obtain ⟨r0, r1, g0, g1⟩ := kr.two))
    exact bodyPost_ret (v := .tuple #[.agg #[.int .i64 0, .int .i64 0], .int .i64 ck]) (by simp [results, Try.results10, go_sem, r0, r1]) rfl ⟨rfl, by repeat (first | refine Below.setCell ?_ (by dsimp only; omega) _ | exact bc)⟩
  subst h0
  rw [if_pos rfl]
  obtain ⟨h1, h2⟩ := hb1 rfl
  obtain ⟨-, -, ⟨l0, l1⟩, ⟨w0, w1⟩, ⟨g9, g8⟩, ⟨s0, s1⟩, -⟩ := hbn h1
  obtain ⟨⟨⟨t0, t1⟩, -⟩, -⟩ := h2
  dsimp only at t0 t1 l0 l1 w0 w1 g9 g8 s0 s1
  clear hb1 hbn h1
  have e1 : IntKind.i64.wrap (st + S) = st + S := IntWalk.i64_in _ (by omega)
  go_enter Try.func10, Try.ntmps10
  go_wp2_with (first | (go_at_call 13; refine (HCK.out _ bc).mono ?_; rintro e w1 ⟨rfl, hC⟩; dsimp only; (try clear p0 p1 p2 p3 p4 p5 p6 p7); (try clear q0 q1 q2); (try clear r0 r1 g0 g1); (try clear r2 g2); replace km := km.on hC; replace kc := kc.on hC; replace kr := kr.on hC; replace bc := bc.trans (hC.mono bc.size); clear hC; obtain ⟨p0, p1, p2, p3, p4, p5, p6, p7⟩ := km.eight; obtain ⟨q0, q1, q2, -⟩ := kc.three; obtain ⟨r0, r1, g0, g1⟩ := kr.two))
  exact bodyPost_ret (v := .tuple #[.agg #[.int .i64 st, .int .i64 (st + S)], .int .i64 0]) (by simp [results, Try.results10, go_sem, r0, r1]) rfl ⟨rfl, by repeat (first | refine Below.setCell ?_ (by dsimp only; omega) _ | exact bc)⟩
set_option maxRecDepth 100000 in
set_option maxHeartbeats 4000000 in
theorem rsendK_any (m : ML) (c s : Slc) (k : Ck) (v : Slc) (w : World) (hM : Med w m c s) (hk : CkOk w.heap.size w k v) : Calls Try.prog 19 #[vM m c s, .agg (cK k v)] w (fun e w' => e = .returned (.tuple #[.int .i64 (sendK m k).2, .int .i64 (sendK m k).1]) ∧ Below w.heap.size w w') := by
  have hck := fun U (hb : Below w.heap.size w U) => rchkK_any m c s k v U (hM.on hb) (hk.on hb)
  have hb1 : chkK m k = 0 → okM m ∧ okCk m.W k := chkK_zero.1
  have hbn := fun h => okM_nums (m := m) h
  unfold sendK 
  obtain ⟨ck, hcke⟩ : ∃ ck, ck = chkK m k := ⟨_, rfl⟩
  rw [← hcke] at hck hb1
  rw [← hcke]
  clear hcke hM hk
  obtain ⟨N, S, G, W, D, L, cold, ms⟩ := m
  obtain ⟨Ac, nc, cc⟩ := c
  obtain ⟨As, ns, cs⟩ := s
  obtain ⟨st, sl, dv⟩ := k
  obtain ⟨A, n, c⟩ := v
  dsimp only [vM, cK] at *
  have HCK := Lib.hid hck; clear hck
  obtain ⟨km, kc, bc⟩ := bx2 w #[.int .i64 N, .int .i64 S, .int .i64 G, .int .i64 W, .int .i64 D, .int .i64 L, .slice Ac nc cc, .slice As ns cs] #[.int .i64 st, .int .i64 sl, .slice A n c] 25 28
  obtain ⟨p0, p1, p2, p3, p4, p5, p6, p7⟩ := km.eight; obtain ⟨q0, q1, q2, -⟩ := kc.three
  by_cases h0 : ck = 0
  rotate_left
  · rw [if_neg h0]
    have d0 : (ck != 0) = true := by simpa using h0
    clear hb1 hbn
    go_enter Try.func19, Try.ntmps19
    go_wp2_with (first | (go_at_call 13; refine (HCK.out _ bc).mono ?_; rintro e w1 ⟨rfl, hC⟩; dsimp only; (try clear p0 p1 p2 p3 p4 p5 p6 p7); (try clear q0 q1 q2); (try clear r0 r1 g0 g1); (try clear r2 g2); replace km := km.on hC; replace kc := kc.on hC; replace bc := bc.trans (hC.mono bc.size); clear hC; obtain ⟨p0, p1, p2, p3, p4, p5, p6, p7⟩ := km.eight; obtain ⟨q0, q1, q2, -⟩ := kc.three))
    go_ret2
    exact ⟨rfl, bc⟩
  subst h0
  rw [if_pos rfl]
  obtain ⟨h1, h2⟩ := hb1 rfl
  obtain ⟨-, -, ⟨l0, l1⟩, ⟨w0, w1⟩, ⟨g9, g8⟩, ⟨s0, s1⟩, -⟩ := hbn h1
  obtain ⟨⟨⟨t0, t1⟩, -⟩, -⟩ := h2
  dsimp only at t0 t1 l0 l1 w0 w1 g9 g8 s0 s1
  clear hb1 hbn h1
  have e1 : IntKind.i64.wrap (st + G) = st + G := IntWalk.i64_in _ (by omega)
  go_enter Try.func19, Try.ntmps19
  go_wp2_with (first | (go_at_call 13; refine (HCK.out _ bc).mono ?_; rintro e w1 ⟨rfl, hC⟩; dsimp only; (try clear p0 p1 p2 p3 p4 p5 p6 p7); (try clear q0 q1 q2); (try clear r0 r1 g0 g1); (try clear r2 g2); replace km := km.on hC; replace kc := kc.on hC; replace bc := bc.trans (hC.mono bc.size); clear hC; obtain ⟨p0, p1, p2, p3, p4, p5, p6, p7⟩ := km.eight; obtain ⟨q0, q1, q2, -⟩ := kc.three))
  go_ret2
  exact ⟨rfl, bc⟩
set_option maxRecDepth 100000 in
set_option maxHeartbeats 4000000 in
theorem rwinK_any (m : ML) (c s : Slc) (k : Ck) (v : Slc) (w : World) (hM : Med w m c s) (hk : CkOk w.heap.size w k v) : Calls Try.prog 17 #[vM m c s, .agg (cK k v)] w ((ResSp w (winK m k))) := by
  have hck := fun U (hb : Below w.heap.size w U) => rchkK_any m c s k v U (hM.on hb) (hk.on hb)
  have hb1 : chkK m k = 0 → okM m ∧ okCk m.W k := chkK_zero.1
  have hbn := fun h => okM_nums (m := m) h
  unfold ResSp winK expK
  obtain ⟨ck, hcke⟩ : ∃ ck, ck = chkK m k := ⟨_, rfl⟩
  rw [← hcke] at hck hb1
  rw [← hcke]
  clear hcke hM hk
  obtain ⟨N, S, G, W, D, L, cold, ms⟩ := m
  obtain ⟨Ac, nc, cc⟩ := c
  obtain ⟨As, ns, cs⟩ := s
  obtain ⟨st, sl, dv⟩ := k
  obtain ⟨A, n, c⟩ := v
  dsimp only [vM, cK] at *
  have HCK := Lib.hid hck; clear hck
  obtain ⟨km, kc, kr, bc⟩ := bx3 w #[.int .i64 N, .int .i64 S, .int .i64 G, .int .i64 W, .int .i64 D, .int .i64 L, .slice Ac nc cc, .slice As ns cs] #[.int .i64 st, .int .i64 sl, .slice A n c] #[.int .i64 0, .int .i64 0] 25 28 30
  obtain ⟨p0, p1, p2, p3, p4, p5, p6, p7⟩ := km.eight; obtain ⟨q0, q1, q2, -⟩ := kc.three; obtain ⟨r0, r1, g0, g1⟩ := kr.two
  by_cases h0 : ck = 0
  rotate_left
  · rw [if_neg h0]
    have d0 : (ck != 0) = true := by simpa using h0
    clear hb1 hbn
    go_enter Try.func17, Try.ntmps17
    go_wp2_with (first | (go_at_call 13; refine (HCK.out _ bc).mono ?_; rintro e w1 ⟨rfl, hC⟩; dsimp only; (try clear p0 p1 p2 p3 p4 p5 p6 p7); (try clear q0 q1 q2); (try clear r0 r1 g0 g1); (try clear r2 g2); replace km := km.on hC; replace kc := kc.on hC; replace kr := kr.on hC; replace bc := bc.trans (hC.mono bc.size); clear hC; obtain ⟨p0, p1, p2, p3, p4, p5, p6, p7⟩ := km.eight; obtain ⟨q0, q1, q2, -⟩ := kc.three; obtain ⟨r0, r1, g0, g1⟩ := kr.two))
    exact bodyPost_ret (v := .tuple #[.agg #[.int .i64 0, .int .i64 0], .int .i64 ck]) (by simp [results, Try.results17, go_sem, r0, r1]) rfl ⟨rfl, by repeat (first | refine Below.setCell ?_ (by dsimp only; omega) _ | exact bc)⟩
  subst h0
  rw [if_pos rfl]
  obtain ⟨h1, h2⟩ := hb1 rfl
  obtain ⟨-, -, ⟨l0, l1⟩, ⟨w0, w1⟩, ⟨g9, g8⟩, ⟨s0, s1⟩, -⟩ := hbn h1
  obtain ⟨⟨⟨t0, t1⟩, -⟩, -⟩ := h2
  dsimp only at t0 t1 l0 l1 w0 w1 g9 g8 s0 s1
  clear hb1 hbn h1
  have hmx : max (st + G + L - W) 0 = st + G + L - W := by omega
  have e1 : IntKind.i64.wrap (st + G) = st + G := IntWalk.i64_in _ (by omega)
  have e2 : IntKind.i64.wrap (st + G + L) = st + G + L := IntWalk.i64_in _ (by omega)
  have e3 : IntKind.i64.wrap (st + G + L - W) = st + G + L - W := IntWalk.i64_in _ (by omega)
  have e4 : IntKind.i64.wrap (st + G + L + W) = st + G + L + W := IntWalk.i64_in _ (by omega)
  have e5 : IntKind.i64.wrap (st + G + L + W + 1) = st + G + L + W + 1 := IntWalk.i64_in _ (by omega)
  go_enter Try.func17, Try.ntmps17
  go_wp2_with (first | (go_at_call 13; refine (HCK.out _ bc).mono ?_; rintro e w1 ⟨rfl, hC⟩; dsimp only; (try clear p0 p1 p2 p3 p4 p5 p6 p7); (try clear q0 q1 q2); (try clear r0 r1 g0 g1); (try clear r2 g2); replace km := km.on hC; replace kc := kc.on hC; replace kr := kr.on hC; replace bc := bc.trans (hC.mono bc.size); clear hC; obtain ⟨p0, p1, p2, p3, p4, p5, p6, p7⟩ := km.eight; obtain ⟨q0, q1, q2, -⟩ := kc.three; obtain ⟨r0, r1, g0, g1⟩ := kr.two))
  exact bodyPost_ret (v := .tuple #[.agg #[.int .i64 (st + G + L - W), .int .i64 (st + G + L + W + 1)], .int .i64 0]) (by simp [results, Try.results17, go_sem, r0, r1]) rfl ⟨by rw [hmx], by repeat (first | refine Below.setCell ?_ (by dsimp only; omega) _ | exact bc)⟩
end Go.Proofs.Ytlkmipcenlhacaa
