/-
  Check, Slot, Send, Window and Correct of package clock. Conditions: a list and a clock that can be read. (Printed by tools/gen13s.py.)
-/
import Derived.Test.YtlkmipcenlhacaaLR
import Derived.Test.YtlkmipcenlhacaaLF
namespace Go.Proofs.Ytlkmipcenlhacaa
open Go.RowKit

set_option maxRecDepth 100000 in
set_option maxHeartbeats 4000000 in
theorem check13 : ClkCheckC := by
  intro m c s k v w hM hk
  have hm := fun U (hb : Below w.heap.size w U) => mcheck_any m c s U (hM.on hb)
  have hcc := fun U (hb : Below w.heap.size w U) (hW : 0 ≤ m.W ∧ m.W ≤ 1048576) => ckClock_any m c s k v U hW (hk.on hb)
  have qA : ¬ okM m → checkM m = 70 ∧ chkK m k = 70 := fun h => ⟨checkM_no h, chkK_list h⟩
  have qB : okM m → checkM m = 0 ∧ chkK m k = (if okCk m.W k then 0 else 130) ∧ (0 ≤ m.W ∧ m.W ≤ 1048576) := fun h => ⟨checkM_zero.2 h, by unfold chkK; rw [if_pos h], by have := (okM_nums h).2.2.2.1; omega⟩
  generalize checkM m = cm at *
  generalize chkK m k = R at *
  generalize (if okCk m.W k then (0 : Int) else 130) = Q at *
  generalize okM m = ok at *
  clear hM hk
  obtain ⟨N, S, G, W, D, L, cold, ms⟩ := m
  obtain ⟨Ac, nc, cc⟩ := c
  obtain ⟨As, ns, cs⟩ := s
  obtain ⟨st, sl, dv⟩ := k
  obtain ⟨A, n, c⟩ := v
  dsimp only [vM, cK] at *
  have HM := Lib.hid hm; clear hm
  obtain ⟨km, kc, bc⟩ := bx2 w #[.int .i64 N, .int .i64 S, .int .i64 G, .int .i64 W, .int .i64 D, .int .i64 L, .slice Ac nc cc, .slice As ns cs] #[.int .i64 st, .int .i64 sl, .slice A n c] 25 28
  obtain ⟨p0, p1, p2, p3, p4, p5, p6, p7⟩ := km.eight; obtain ⟨q0, q1, q2, -⟩ := kc.three
  by_cases h0 : ok
  · obtain ⟨rfl, rfl, hW⟩ := qB h0
    have HK := Lib.hid (fun U hb => hcc U hb hW)
    clear qA qB hcc
    go_enter Try.func12, Try.ntmps12
    go_wp2_with (first | (go_at_call 33; refine (HM.out _ bc).mono ?_; rintro e w1 ⟨rfl, hC⟩; dsimp only; (try clear p0 p1 p2 p3 p4 p5 p6 p7); (try clear q0 q1 q2); (try clear r0 r1 g0 g1); (try clear r2 g2); replace km := km.on hC; replace kc := kc.on hC; replace bc := bc.trans (hC.mono bc.size); clear hC; obtain ⟨p0, p1, p2, p3, p4, p5, p6, p7⟩ := km.eight; obtain ⟨q0, q1, q2, -⟩ := kc.three) | (go_at_call 34; refine (HK.out _ bc).mono ?_; rintro e w1 ⟨rfl, hC⟩; dsimp only; (try clear p0 p1 p2 p3 p4 p5 p6 p7); (try clear q0 q1 q2); (try clear r0 r1 g0 g1); (try clear r2 g2); replace km := km.on hC; replace kc := kc.on hC; replace bc := bc.trans (hC.mono bc.size); clear hC; obtain ⟨p0, p1, p2, p3, p4, p5, p6, p7⟩ := km.eight; obtain ⟨q0, q1, q2, -⟩ := kc.three))
    go_ret
    exact ⟨rfl, bc⟩
  · obtain ⟨rfl, rfl⟩ := qA h0
    clear qA qB hcc
    go_enter Try.func12, Try.ntmps12
    go_wp2_with (first | (go_at_call 33; refine (HM.out _ bc).mono ?_; rintro e w1 ⟨rfl, hC⟩; dsimp only; (try clear p0 p1 p2 p3 p4 p5 p6 p7); (try clear q0 q1 q2); (try clear r0 r1 g0 g1); (try clear r2 g2); replace km := km.on hC; replace kc := kc.on hC; replace bc := bc.trans (hC.mono bc.size); clear hC; obtain ⟨p0, p1, p2, p3, p4, p5, p6, p7⟩ := km.eight; obtain ⟨q0, q1, q2, -⟩ := kc.three))
    go_ret
    exact ⟨rfl, bc⟩
set_option maxRecDepth 100000 in
set_option maxHeartbeats 4000000 in
theorem slot13 : ClkSlotC := by
  intro m c s k v w hM hk
  have hck := fun U (hb : Below w.heap.size w U) => check13 m c s k v U (hM.on hb) (hk.on hb)
  have hb1 : chkK m k = 0 → okM m ∧ okCk m.W k := chkK_zero.1
  have hbn := fun h => okM_nums (m := m) h

  unfold ResSp slotK
  obtain ⟨ck, hcke⟩ : ∃ ck, ck = chkK m k := ⟨_, rfl⟩
  rw [← hcke] at hck hb1
  rw [← hcke]
  clear hcke hM hk

  obtain ⟨N, S, G, W, D, L, cold, ms⟩ := m
  obtain ⟨Ac, nc, cc⟩ := c
  obtain ⟨As, ns, cs⟩ := s
  obtain ⟨st, sl, dv⟩ := k
  obtain ⟨A, n, c⟩ := v
  dsimp only [vM, cK] at *
  have HCK := Lib.hid hck; clear hck

  obtain ⟨km, kc, kr, bc⟩ := bx3 w #[.int .i64 N, .int .i64 S, .int .i64 G, .int .i64 W, .int .i64 D, .int .i64 L, .slice Ac nc cc, .slice As ns cs] #[.int .i64 st, .int .i64 sl, .slice A n c] #[.int .i64 0, .int .i64 0] 25 28 30
  obtain ⟨p0, p1, p2, p3, p4, p5, p6, p7⟩ := km.eight; obtain ⟨q0, q1, q2, -⟩ := kc.three; obtain ⟨r0, r1, g0, g1⟩ := kr.two
  by_cases h0 : ck = 0
  rotate_left
  · rw [if_neg h0]
    have d0 : (ck != 0) = true := by simpa using h0
    clear hb1 hbn
    go_enter Try.func9, Try.ntmps9
    go_wp2_with (first | (go_at_call 12; refine (HCK.out _ bc).mono ?_; rintro e w1 ⟨rfl, hC⟩; dsimp only; (try clear p0 p1 p2 p3 p4 p5 p6 p7); (try clear q0 q1 q2); (try clear r0 r1 g0 g1); (try clear r2 g2); replace km := km.on hC; replace kc := kc.on hC; replace kr := kr.on hC; replace bc := bc.trans (hC.mono bc.size); clear hC; obtain ⟨p0, p1, p2, p3, p4, p5, p6, p7⟩ := km.eight; obtain ⟨q0, q1, q2, -⟩ := kc.three; obtain ⟨r0, r1, g0, g1⟩ := kr.two))
    exact bodyPost_ret (v := .tuple #[.agg #[.int .i64 0, .int .i64 0], .int .i64 ck]) (by simp [results, Try.results9, go_sem, r0, r1]) rfl ⟨rfl, by repeat (first | refine Below.setCell ?_ (by dsimp only; omega) _ | exact bc)⟩
  subst h0
  rw [if_pos rfl]
  obtain ⟨h1, h2⟩ := hb1 rfl
  have HOK := Lib.hid h2
  obtain ⟨-, -, ⟨l0, l1⟩, ⟨w0, w1⟩, ⟨g9, g8⟩, ⟨s0, s1⟩, -⟩ := hbn h1
  obtain ⟨⟨⟨t0, t1⟩, -⟩, -⟩ := h2
  dsimp only at t0 t1 l0 l1 w0 w1 g9 g8 s0 s1
  clear hb1 hbn h1
  have e1 : IntKind.i64.wrap (st + S) = st + S := IntWalk.i64_in _ (by omega)
  go_enter Try.func9, Try.ntmps9
  go_wp2_with (first | (go_at_call 12; refine (HCK.out _ bc).mono ?_; rintro e w1 ⟨rfl, hC⟩; dsimp only; (try clear p0 p1 p2 p3 p4 p5 p6 p7); (try clear q0 q1 q2); (try clear r0 r1 g0 g1); (try clear r2 g2); replace km := km.on hC; replace kc := kc.on hC; replace kr := kr.on hC; replace bc := bc.trans (hC.mono bc.size); clear hC; obtain ⟨p0, p1, p2, p3, p4, p5, p6, p7⟩ := km.eight; obtain ⟨q0, q1, q2, -⟩ := kc.three; obtain ⟨r0, r1, g0, g1⟩ := kr.two))
  exact bodyPost_ret (v := .tuple #[.agg #[.int .i64 st, .int .i64 (st + S)], .int .i64 0]) (by simp [results, Try.results9, go_sem, r0, r1]) rfl ⟨rfl, by repeat (first | refine Below.setCell ?_ (by dsimp only; omega) _ | exact bc)⟩
set_option maxRecDepth 100000 in
set_option maxHeartbeats 4000000 in
theorem send13 : ClkSendC := by
  intro m c s k v w hM hk
  have hck := fun U (hb : Below w.heap.size w U) => check13 m c s k v U (hM.on hb) (hk.on hb)
  have hb1 : chkK m k = 0 → okM m ∧ okCk m.W k := chkK_zero.1
  have hbn := fun h => okM_nums (m := m) h

  unfold sendK
  obtain ⟨ck, hcke⟩ : ∃ ck, ck = chkK m k := ⟨_, rfl⟩
  rw [← hcke] at hck hb1
  rw [← hcke]
  clear hcke hM hk

  obtain ⟨N, S, G, W, D, L, cold, ms⟩ := m
  obtain ⟨Ac, nc, cc⟩ := c
  obtain ⟨As, ns, cs⟩ := s
  obtain ⟨st, sl, dv⟩ := k
  obtain ⟨A, n, c⟩ := v
  dsimp only [vM, cK] at *
  have HCK := Lib.hid hck; clear hck

  obtain ⟨km, kc, bc⟩ := bx2 w #[.int .i64 N, .int .i64 S, .int .i64 G, .int .i64 W, .int .i64 D, .int .i64 L, .slice Ac nc cc, .slice As ns cs] #[.int .i64 st, .int .i64 sl, .slice A n c] 25 28
  obtain ⟨p0, p1, p2, p3, p4, p5, p6, p7⟩ := km.eight; obtain ⟨q0, q1, q2, -⟩ := kc.three
  by_cases h0 : ck = 0
  rotate_left
  · rw [if_neg h0]
    have d0 : (ck != 0) = true := by simpa using h0
    clear hb1 hbn
    go_enter Try.func18, Try.ntmps18
    go_wp2_with (first | (go_at_call 12; refine (HCK.out _ bc).mono ?_; rintro e w1 ⟨rfl, hC⟩; dsimp only; (try clear p0 p1 p2 p3 p4 p5 p6 p7); (try clear q0 q1 q2); (try clear r0 r1 g0 g1); (try clear r2 g2); replace km := km.on hC; replace kc := kc.on hC; replace bc := bc.trans (hC.mono bc.size); clear hC; obtain ⟨p0, p1, p2, p3, p4, p5, p6, p7⟩ := km.eight; obtain ⟨q0, q1, q2, -⟩ := kc.three))
    go_ret2
    exact ⟨rfl, bc⟩
  subst h0
  rw [if_pos rfl]
  obtain ⟨h1, h2⟩ := hb1 rfl
  have HOK := Lib.hid h2
  obtain ⟨-, -, ⟨l0, l1⟩, ⟨w0, w1⟩, ⟨g9, g8⟩, ⟨s0, s1⟩, -⟩ := hbn h1
  obtain ⟨⟨⟨t0, t1⟩, -⟩, -⟩ := h2
  dsimp only at t0 t1 l0 l1 w0 w1 g9 g8 s0 s1
  clear hb1 hbn h1
  have e1 : IntKind.i64.wrap (st + G) = st + G := IntWalk.i64_in _ (by omega)
  go_enter Try.func18, Try.ntmps18
  go_wp2_with (first | (go_at_call 12; refine (HCK.out _ bc).mono ?_; rintro e w1 ⟨rfl, hC⟩; dsimp only; (try clear p0 p1 p2 p3 p4 p5 p6 p7); (try clear q0 q1 q2); (try clear r0 r1 g0 g1); (try clear r2 g2); replace km := km.on hC; replace kc := kc.on hC; replace bc := bc.trans (hC.mono bc.size); clear hC; obtain ⟨p0, p1, p2, p3, p4, p5, p6, p7⟩ := km.eight; obtain ⟨q0, q1, q2, -⟩ := kc.three))
  go_ret2
  exact ⟨rfl, bc⟩
set_option maxRecDepth 100000 in
set_option maxHeartbeats 4000000 in
theorem window13 : ClkWindowC := by
  intro m c s k v w hM hk
  have hck := fun U (hb : Below w.heap.size w U) => check13 m c s k v U (hM.on hb) (hk.on hb)
  have hb1 : chkK m k = 0 → okM m ∧ okCk m.W k := chkK_zero.1
  have hbn := fun h => okM_nums (m := m) h
  have hwa := fun h1 h2 h3 h4 U (hb : Below w.heap.size w U) => window_any m c s k v U h1 h2 h3 h4
  unfold ResSp winK
  obtain ⟨ck, hcke⟩ : ∃ ck, ck = chkK m k := ⟨_, rfl⟩
  rw [← hcke] at hck hb1
  rw [← hcke]
  clear hcke hM hk
  generalize max (expK m k - m.W) 0 = lo at *
  generalize expK m k + m.W + 1 = hi at *
  obtain ⟨N, S, G, W, D, L, cold, ms⟩ := m
  obtain ⟨Ac, nc, cc⟩ := c
  obtain ⟨As, ns, cs⟩ := s
  obtain ⟨st, sl, dv⟩ := k
  obtain ⟨A, n, c⟩ := v
  dsimp only [vM, cK] at *
  have HCK := Lib.hid hck; clear hck
  have HWA := Lib.hid hwa; clear hwa
  obtain ⟨km, kc, kr, bc⟩ := bx3 w #[.int .i64 N, .int .i64 S, .int .i64 G, .int .i64 W, .int .i64 D, .int .i64 L, .slice Ac nc cc, .slice As ns cs] #[.int .i64 st, .int .i64 sl, .slice A n c] #[.int .i64 0, .int .i64 0] 25 28 30
  obtain ⟨p0, p1, p2, p3, p4, p5, p6, p7⟩ := km.eight; obtain ⟨q0, q1, q2, -⟩ := kc.three; obtain ⟨r0, r1, g0, g1⟩ := kr.two
  by_cases h0 : ck = 0
  rotate_left
  · rw [if_neg h0]
    have d0 : (ck != 0) = true := by simpa using h0
    clear hb1 hbn
    go_enter Try.func16, Try.ntmps16
    go_wp2_with (first | (go_at_call 12; refine (HCK.out _ bc).mono ?_; rintro e w1 ⟨rfl, hC⟩; dsimp only; (try clear p0 p1 p2 p3 p4 p5 p6 p7); (try clear q0 q1 q2); (try clear r0 r1 g0 g1); (try clear r2 g2); replace km := km.on hC; replace kc := kc.on hC; replace kr := kr.on hC; replace bc := bc.trans (hC.mono bc.size); clear hC; obtain ⟨p0, p1, p2, p3, p4, p5, p6, p7⟩ := km.eight; obtain ⟨q0, q1, q2, -⟩ := kc.three; obtain ⟨r0, r1, g0, g1⟩ := kr.two))
    exact bodyPost_ret (v := .tuple #[.agg #[.int .i64 0, .int .i64 0], .int .i64 ck]) (by simp [results, Try.results16, go_sem, r0, r1]) rfl ⟨rfl, by repeat (first | refine Below.setCell ?_ (by dsimp only; omega) _ | exact bc)⟩
  subst h0
  rw [if_pos rfl]
  obtain ⟨h1, h2⟩ := hb1 rfl
  have HOK := Lib.hid h2
  obtain ⟨-, -, ⟨l0, l1⟩, ⟨w0, w1⟩, ⟨g9, g8⟩, ⟨s0, s1⟩, -⟩ := hbn h1
  obtain ⟨⟨⟨t0, t1⟩, -⟩, -⟩ := h2
  dsimp only at t0 t1 l0 l1 w0 w1 g9 g8 s0 s1
  clear hb1 hbn h1
  have HW := Lib.hid (HWA.out (by omega) (by omega) (by omega) (by omega))
  clear HWA
  go_enter Try.func16, Try.ntmps16
  go_wp2_with (first | (go_at_call 12; refine (HCK.out _ bc).mono ?_; rintro e w1 ⟨rfl, hC⟩; dsimp only; (try clear p0 p1 p2 p3 p4 p5 p6 p7); (try clear q0 q1 q2); (try clear r0 r1 g0 g1); (try clear r2 g2); replace km := km.on hC; replace kc := kc.on hC; replace kr := kr.on hC; replace bc := bc.trans (hC.mono bc.size); clear hC; obtain ⟨p0, p1, p2, p3, p4, p5, p6, p7⟩ := km.eight; obtain ⟨q0, q1, q2, -⟩ := kc.three; obtain ⟨r0, r1, g0, g1⟩ := kr.two) | (go_at_call 36; refine (HW.out _ bc).mono ?_; rintro e w1 ⟨rfl, hC⟩; dsimp only; (try clear p0 p1 p2 p3 p4 p5 p6 p7); (try clear q0 q1 q2); (try clear r0 r1 g0 g1); (try clear r2 g2); replace km := km.on hC; replace kc := kc.on hC; replace kr := kr.on hC; replace bc := bc.trans (hC.mono bc.size); clear hC; obtain ⟨p0, p1, p2, p3, p4, p5, p6, p7⟩ := km.eight; obtain ⟨q0, q1, q2, -⟩ := kc.three; obtain ⟨r0, r1, g0, g1⟩ := kr.two))
  exact bodyPost_ret (v := .tuple #[.agg #[.int .i64 lo, .int .i64 hi], .int .i64 0]) (by simp [results, Try.results16, go_sem, r0, r1]) rfl ⟨rfl, by repeat (first | refine Below.setCell ?_ (by dsimp only; omega) _ | exact bc)⟩
set_option maxRecDepth 100000 in
set_option maxHeartbeats 4000000 in
theorem correct13 : ClkCorrectC := by
  intro m c s k v w hM hk
  have hck := fun U (hb : Below w.heap.size w U) => check13 m c s k v U (hM.on hb) (hk.on hb)
  have hb1 : chkK m k = 0 → okM m ∧ okCk m.W k := chkK_zero.1
  have hbn := fun h => okM_nums (m := m) h
  have hla := fun hW ho U (hb : Below w.heap.size w U) => late_any m.W k v U hW ho (hk.on hb)
  unfold corK
  obtain ⟨ck, hcke⟩ : ∃ ck, ck = chkK m k := ⟨_, rfl⟩
  rw [← hcke] at hck hb1
  rw [← hcke]
  clear hcke hM hk
  generalize byK k = by_ at *
  obtain ⟨N, S, G, W, D, L, cold, ms⟩ := m
  obtain ⟨Ac, nc, cc⟩ := c
  obtain ⟨As, ns, cs⟩ := s
  obtain ⟨st, sl, dv⟩ := k
  obtain ⟨A, n, c⟩ := v
  dsimp only [vM, cK] at *
  have HCK := Lib.hid hck; clear hck
  have HLA := Lib.hid hla; clear hla
  obtain ⟨km, kc, bc⟩ := bx2 w #[.int .i64 N, .int .i64 S, .int .i64 G, .int .i64 W, .int .i64 D, .int .i64 L, .slice Ac nc cc, .slice As ns cs] #[.int .i64 st, .int .i64 sl, .slice A n c] 25 28
  obtain ⟨p0, p1, p2, p3, p4, p5, p6, p7⟩ := km.eight; obtain ⟨q0, q1, q2, -⟩ := kc.three
  by_cases h0 : ck = 0
  rotate_left
  · rw [if_neg h0]
    have d0 : (ck != 0) = true := by simpa using h0
    clear hb1 hbn
    go_enter Try.func20, Try.ntmps20
    go_wp2_with (first | (go_at_call 12; refine (HCK.out _ bc).mono ?_; rintro e w1 ⟨rfl, hC⟩; dsimp only; (try clear p0 p1 p2 p3 p4 p5 p6 p7); (try clear q0 q1 q2); (try clear r0 r1 g0 g1); (try clear r2 g2); replace km := km.on hC; replace kc := kc.on hC; replace bc := bc.trans (hC.mono bc.size); clear hC; obtain ⟨p0, p1, p2, p3, p4, p5, p6, p7⟩ := km.eight; obtain ⟨q0, q1, q2, -⟩ := kc.three))
    go_ret2
    exact ⟨rfl, bc⟩
  subst h0
  rw [if_pos rfl]
  obtain ⟨h1, h2⟩ := hb1 rfl
  have HOK := Lib.hid h2
  obtain ⟨-, -, ⟨l0, l1⟩, ⟨w0, w1⟩, ⟨g9, g8⟩, ⟨s0, s1⟩, -⟩ := hbn h1
  obtain ⟨⟨⟨t0, t1⟩, -⟩, -⟩ := h2
  dsimp only at t0 t1 l0 l1 w0 w1 g9 g8 s0 s1
  clear hb1 hbn h1
  have HL := Lib.hid (HLA.out (by omega) HOK.out)
  clear HLA
  go_enter Try.func20, Try.ntmps20
  go_wp2_with (first | (go_at_call 12; refine (HCK.out _ bc).mono ?_; rintro e w1 ⟨rfl, hC⟩; dsimp only; (try clear p0 p1 p2 p3 p4 p5 p6 p7); (try clear q0 q1 q2); (try clear r0 r1 g0 g1); (try clear r2 g2); replace km := km.on hC; replace kc := kc.on hC; replace bc := bc.trans (hC.mono bc.size); clear hC; obtain ⟨p0, p1, p2, p3, p4, p5, p6, p7⟩ := km.eight; obtain ⟨q0, q1, q2, -⟩ := kc.three) | (go_at_call 37; refine (HL.out _ bc).mono ?_; rintro e w1 ⟨rfl, hC⟩; dsimp only; (try clear p0 p1 p2 p3 p4 p5 p6 p7); (try clear q0 q1 q2); (try clear r0 r1 g0 g1); (try clear r2 g2); replace km := km.on hC; replace kc := kc.on hC; replace bc := bc.trans (hC.mono bc.size); clear hC; obtain ⟨p0, p1, p2, p3, p4, p5, p6, p7⟩ := km.eight; obtain ⟨q0, q1, q2, -⟩ := kc.three))
  go_ret2
  exact ⟨rfl, bc⟩
end Go.Proofs.Ytlkmipcenlhacaa
