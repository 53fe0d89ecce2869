/-
  The document's See of layer 13. Conditions: a list and a clock that can be read. (Printed by tools/gen13d.py; laid ahead.)
-/
import Derived.Test.YtlkmipcenlhacaaLC
import Derived.Deep.CutBlock
import Derived.Deep.RegionLaw
namespace Go.Proofs.Ytlkmipcenlhacaa
open Go.RowKit

set_option maxRecDepth 100000 in
set_option maxHeartbeats 8000000 in
theorem rsee_any (m : ML) (c s : Slc) (k : Ck) (v : Slc) (x : Int) (w : World) (hM : Med w m c s) (hk : CkOk w.heap.size w k v) : Calls Try.prog 24 #[vM m c s, .agg (cK k v), .int .i64 x] w (ResCk w (seeK m k x)) := by
  have hw := fun U (hb : Below w.heap.size w U) => rwinK_any m c s k v U (hM.on hb) (hk.on hb)
  have qA : ¬ chkK m k = 0 → winK m k = (chkK m k, 0, 0) ∧ seeK m k x = (chkK m k, zeroCk) := fun h => ⟨by unfold winK; rw [if_neg h], by unfold seeK; rw [if_neg h]⟩
  have qB : chkK m k = 0 → winK m k = (0, max (expK m k - m.W) 0, expK m k + m.W + 1) := fun h => by unfold winK; rw [if_pos h]
  have qC : chkK m k = 0 → ¬ (v.n < 8 ∧ max (expK m k - m.W) 0 ≤ x ∧ x ≤ expK m k + m.W) → seeK m k x = (2, zeroCk) := fun h h2 => by unfold seeK; rw [if_pos h, if_neg (by rw [← hk.dn]; exact h2)]
  have qD : chkK m k = 0 → (v.n < 8 ∧ max (expK m k - m.W) 0 ≤ x ∧ x ≤ expK m k + m.W) → seeK m k x = (0, ⟨k.st, k.sl, k.dv ++ [x - expK m k]⟩) := fun h h2 => by unfold seeK; rw [if_pos h, if_pos (by rw [← hk.dn]; exact h2)]
  have hz1 : chkK m k = 0 → okM m ∧ okCk m.W k := chkK_zero.1
  have hbn := fun h => okM_nums (m := m) h
  unfold ResSp at hw
  unfold ResCk
  generalize seeK m k x = RR at *
  generalize winK m k = WW at *
  obtain ⟨ck, hcke⟩ : ∃ ck, ck = chkK m k := ⟨_, rfl⟩
  rw [← hcke] at qA qB qC qD hz1
  clear hcke hM
  obtain ⟨hd, hdn, hdc, hdm, hdz⟩ := hk
  obtain ⟨N, S, G, W, D, L, cold, ms⟩ := m
  obtain ⟨Ac, nc, cc⟩ := c
  obtain ⟨As, ns, cs⟩ := s
  obtain ⟨st, sl, dv⟩ := k
  obtain ⟨A, n, c⟩ := v
  dsimp only [vM, cK] at *
  obtain ⟨ex, hex⟩ : ∃ ex, ex = expK ⟨N, S, G, W, D, L, cold, ms⟩ ⟨st, sl, dv⟩ := ⟨_, rfl⟩
  rw [← hex] at qB qC qD
  unfold expK at hex
  dsimp only at hex
  have HDN := Lib.hid hdn; have HEX := Lib.hid hex; clear hdn hex
  obtain ⟨km, kc, kr, bc⟩ := bx3 w #[.int .i64 N, .int .i64 S, .int .i64 G, .int .i64 W, .int .i64 D, .int .i64 L, .slice Ac nc cc, .slice As ns cs] #[.int .i64 st, .int .i64 sl, .slice A n c] #[.int .i64 0, .int .i64 0, .slice none 0 0] 25 28 28
  obtain ⟨p0, p1, p2, p3, p4, p5, p6, p7⟩ := km.eight; obtain ⟨q0, q1, q2, -⟩ := kc.three; obtain ⟨r0, r1, r2, g0, g1, g2⟩ := kr.three
  by_cases h0 : ck = 0
  rotate_left
  · obtain ⟨rfl, rfl⟩ := qA h0
    have d0 : (ck != 0) = true := by simpa using h0
    dsimp only at hw
    have HW := Lib.hid hw
    clear hw qA qB qC qD hz1 hbn hd hdz
    go_enter Try.func24, Try.ntmps24
    go_upto_region 2 with (first | (go_at_call 17; refine (HW.out _ bc).mono ?_; rintro e w1 ⟨rfl, hC⟩; dsimp only; (try clear p0 p1 p2 p3 p4 p5 p6 p7); (try clear q0 q1 q2); (try clear r0 r1 g0 g1); (try clear r2 g2); replace km := km.on hC; replace kc := kc.on hC; replace kr := kr.on hC; replace bc := bc.trans (hC.mono bc.size); clear hC; obtain ⟨p0, p1, p2, p3, p4, p5, p6, p7⟩ := km.eight; obtain ⟨q0, q1, q2, -⟩ := kc.three; obtain ⟨r0, r1, r2, g0, g1, g2⟩ := kr.three))
    have kw := Blk.new w1 30 #[.int .i64 0, .int .i64 0]
    have al := Below.al w1 (.cells #[.int .i64 0, .int .i64 0] 30)
    have hgw := kr.lt
    (try clear p0 p1 p2 p3 p4 p5 p6 p7); (try clear q0 q1 q2); (try clear r0 r1 g0 g1); (try clear r2 g2)
    replace km := km.on al; replace kc := kc.on al; replace kr := kr.on al; replace bc := bc.trans (al.mono bc.size); clear al
    generalize w1.alloc (.cells #[.int .i64 0, .int .i64 0] 30) = u1 at *
    generalize w1.heap.size = gw at *
    clear w1
    obtain ⟨p0, p1, p2, p3, p4, p5, p6, p7⟩ := km.eight; obtain ⟨q0, q1, q2, -⟩ := kc.three; obtain ⟨r0, r1, r2, g0, g1, g2⟩ := kr.three
    obtain ⟨s0, s1, -, -⟩ := kw.two
    go_wp2
    exact bodyPost_ret (v := .tuple #[.agg #[.int .i64 0, .int .i64 0, .slice none 0 0], .int .i64 ck]) (by simp [results, Try.results24, go_sem, r0, r1, r2]) rfl ⟨⟨none, 0, 0⟩, rfl, CkFr.zero _ _ _ _, by repeat (first | refine Below.setCell ?_ (by dsimp only; omega) _ | exact bc)⟩
  subst h0
  obtain rfl := qB rfl
  replace qC := qC rfl; replace qD := qD rfl
  obtain ⟨h1, h2⟩ := hz1 rfl
  obtain ⟨-, -, ⟨l0, l1⟩, ⟨w0, w1⟩, ⟨g9, g8⟩, -⟩ := hbn h1
  obtain ⟨⟨⟨t0, t1⟩, -⟩, h2n, -⟩ := h2
  dsimp only at h2n t0 t1 l0 l1 w0 w1 g9 g8 hw
  have HW := Lib.hid hw
  clear hw qA qB hz1 hbn h1
  obtain ⟨lo, hlo⟩ : ∃ lo, lo = max (ex - W) 0 := ⟨_, rfl⟩
  rw [← hlo] at HW qC qD
  have HLO := Lib.hid hlo; clear hlo
  rw [← HDN.out] at h2n
  by_cases c0 : n < 8
  rotate_left
  · obtain rfl := qC (fun hh => c0 (by omega))
    have d1 : ((n : Int) == 8) = true := by have := h2n; simp; omega
    clear qC qD hd hdz
    go_enter Try.func24, Try.ntmps24
    go_upto_region 2 with (first | (go_at_call 17; refine (HW.out _ bc).mono ?_; rintro e w1 ⟨rfl, hC⟩; dsimp only; (try clear p0 p1 p2 p3 p4 p5 p6 p7); (try clear q0 q1 q2); (try clear r0 r1 g0 g1); (try clear r2 g2); replace km := km.on hC; replace kc := kc.on hC; replace kr := kr.on hC; replace bc := bc.trans (hC.mono bc.size); clear hC; obtain ⟨p0, p1, p2, p3, p4, p5, p6, p7⟩ := km.eight; obtain ⟨q0, q1, q2, -⟩ := kc.three; obtain ⟨r0, r1, r2, g0, g1, g2⟩ := kr.three))
    have kw := Blk.new w1 30 #[.int .i64 lo, .int .i64 (ex + W + 1)]
    have al := Below.al w1 (.cells #[.int .i64 lo, .int .i64 (ex + W + 1)] 30)
    have hgw := kr.lt
    (try clear p0 p1 p2 p3 p4 p5 p6 p7); (try clear q0 q1 q2); (try clear r0 r1 g0 g1); (try clear r2 g2)
    replace km := km.on al; replace kc := kc.on al; replace kr := kr.on al; replace bc := bc.trans (al.mono bc.size); clear al
    generalize w1.alloc (.cells #[.int .i64 lo, .int .i64 (ex + W + 1)] 30) = u1 at *
    generalize w1.heap.size = gw at *
    clear w1
    obtain ⟨p0, p1, p2, p3, p4, p5, p6, p7⟩ := km.eight; obtain ⟨q0, q1, q2, -⟩ := kc.three; obtain ⟨r0, r1, r2, g0, g1, g2⟩ := kr.three
    obtain ⟨s0, s1, -, -⟩ := kw.two
    go_wp2
    exact bodyPost_ret (v := .tuple #[.agg #[.int .i64 0, .int .i64 0, .slice none 0 0], .int .i64 2]) (by simp [results, Try.results24, go_sem, r0, r1, r2]) rfl ⟨⟨none, 0, 0⟩, rfl, CkFr.zero _ _ _ _, by repeat (first | refine Below.setCell ?_ (by dsimp only; omega) _ | exact bc)⟩
  have d1 : ((n : Int) == 8) = false := by simp; omega
  by_cases c1 : lo ≤ x
  rotate_left
  · obtain rfl := qC (fun hh => c1 (by omega))
    have d2 : decide (x < lo) = true := by simp; omega
    clear qC qD hd hdz
    go_enter Try.func24, Try.ntmps24
    go_upto_region 2 with (first | (go_at_call 17; refine (HW.out _ bc).mono ?_; rintro e w1 ⟨rfl, hC⟩; dsimp only; (try clear p0 p1 p2 p3 p4 p5 p6 p7); (try clear q0 q1 q2); (try clear r0 r1 g0 g1); (try clear r2 g2); replace km := km.on hC; replace kc := kc.on hC; replace kr := kr.on hC; replace bc := bc.trans (hC.mono bc.size); clear hC; obtain ⟨p0, p1, p2, p3, p4, p5, p6, p7⟩ := km.eight; obtain ⟨q0, q1, q2, -⟩ := kc.three; obtain ⟨r0, r1, r2, g0, g1, g2⟩ := kr.three))
    have kw := Blk.new w1 30 #[.int .i64 lo, .int .i64 (ex + W + 1)]
    have al := Below.al w1 (.cells #[.int .i64 lo, .int .i64 (ex + W + 1)] 30)
    have hgw := kr.lt
    (try clear p0 p1 p2 p3 p4 p5 p6 p7); (try clear q0 q1 q2); (try clear r0 r1 g0 g1); (try clear r2 g2)
    replace km := km.on al; replace kc := kc.on al; replace kr := kr.on al; replace bc := bc.trans (al.mono bc.size); clear al
    generalize w1.alloc (.cells #[.int .i64 lo, .int .i64 (ex + W + 1)] 30) = u1 at *
    generalize w1.heap.size = gw at *
    clear w1
    obtain ⟨p0, p1, p2, p3, p4, p5, p6, p7⟩ := km.eight; obtain ⟨q0, q1, q2, -⟩ := kc.three; obtain ⟨r0, r1, r2, g0, g1, g2⟩ := kr.three
    obtain ⟨s0, s1, -, -⟩ := kw.two
    go_wp2
    exact bodyPost_ret (v := .tuple #[.agg #[.int .i64 0, .int .i64 0, .slice none 0 0], .int .i64 2]) (by simp [results, Try.results24, go_sem, r0, r1, r2]) rfl ⟨⟨none, 0, 0⟩, rfl, CkFr.zero _ _ _ _, by repeat (first | refine Below.setCell ?_ (by dsimp only; omega) _ | exact bc)⟩
  have d2 : decide (x < lo) = false := by simp; omega
  by_cases c2 : x ≤ ex + W
  rotate_left
  · obtain rfl := qC (fun hh => c2 (by omega))
    have d3 : decide (ex + W + 1 ≤ x) = true := by simp; omega
    clear qC qD hd hdz
    go_enter Try.func24, Try.ntmps24
    go_upto_region 2 with (first | (go_at_call 17; refine (HW.out _ bc).mono ?_; rintro e w1 ⟨rfl, hC⟩; dsimp only; (try clear p0 p1 p2 p3 p4 p5 p6 p7); (try clear q0 q1 q2); (try clear r0 r1 g0 g1); (try clear r2 g2); replace km := km.on hC; replace kc := kc.on hC; replace kr := kr.on hC; replace bc := bc.trans (hC.mono bc.size); clear hC; obtain ⟨p0, p1, p2, p3, p4, p5, p6, p7⟩ := km.eight; obtain ⟨q0, q1, q2, -⟩ := kc.three; obtain ⟨r0, r1, r2, g0, g1, g2⟩ := kr.three))
    have kw := Blk.new w1 30 #[.int .i64 lo, .int .i64 (ex + W + 1)]
    have al := Below.al w1 (.cells #[.int .i64 lo, .int .i64 (ex + W + 1)] 30)
    have hgw := kr.lt
    (try clear p0 p1 p2 p3 p4 p5 p6 p7); (try clear q0 q1 q2); (try clear r0 r1 g0 g1); (try clear r2 g2)
    replace km := km.on al; replace kc := kc.on al; replace kr := kr.on al; replace bc := bc.trans (al.mono bc.size); clear al
    generalize w1.alloc (.cells #[.int .i64 lo, .int .i64 (ex + W + 1)] 30) = u1 at *
    generalize w1.heap.size = gw at *
    clear w1
    obtain ⟨p0, p1, p2, p3, p4, p5, p6, p7⟩ := km.eight; obtain ⟨q0, q1, q2, -⟩ := kc.three; obtain ⟨r0, r1, r2, g0, g1, g2⟩ := kr.three
    obtain ⟨s0, s1, -, -⟩ := kw.two
    go_wp2
    exact bodyPost_ret (v := .tuple #[.agg #[.int .i64 0, .int .i64 0, .slice none 0 0], .int .i64 2]) (by simp [results, Try.results24, go_sem, r0, r1, r2]) rfl ⟨⟨none, 0, 0⟩, rfl, CkFr.zero _ _ _ _, by repeat (first | refine Below.setCell ?_ (by dsimp only; omega) _ | exact bc)⟩
  have d3 : decide (ex + W + 1 ≤ x) = false := by simp; omega
  have Q3 := Lib.hid (qD ⟨c0, c1, c2⟩)
  clear qC qD
  have hex := HEX.out
  have hlo := HLO.out
  have e1 : IntKind.i64.wrap (x - st) = x - st := IntWalk.i64_in _ (by omega)
  have e2 : IntKind.i64.wrap (x - st - G) = x - st - G := IntWalk.i64_in _ (by omega)
  have e3 : IntKind.i64.wrap (x - st - G - L) = x - ex := by rw [show x - st - G - L = x - ex by omega]; exact IntWalk.i64_in _ (by omega)
  clear hex hlo t0 t1 l0 l1 w0 w1 g9 g8
  obtain ⟨i0, hi, hz0, hz1, hz2⟩ := info_parts Try.infoJ
  go_enter Try.func24, Try.ntmps24
  go_upto_region 2 with (first | (go_at_call 17; refine (HW.out _ bc).mono ?_; rintro e w1 ⟨rfl, hC⟩; dsimp only; (try clear p0 p1 p2 p3 p4 p5 p6 p7); (try clear q0 q1 q2); (try clear r0 r1 g0 g1); (try clear r2 g2); replace km := km.on hC; replace kc := kc.on hC; replace kr := kr.on hC; replace bc := bc.trans (hC.mono bc.size); clear hC; obtain ⟨p0, p1, p2, p3, p4, p5, p6, p7⟩ := km.eight; obtain ⟨q0, q1, q2, -⟩ := kc.three; obtain ⟨r0, r1, r2, g0, g1, g2⟩ := kr.three))
  have kw := Blk.new w1 30 #[.int .i64 lo, .int .i64 (ex + W + 1)]
  have al := Below.al w1 (.cells #[.int .i64 lo, .int .i64 (ex + W + 1)] 30)
  have hgw := kr.lt
  (try clear p0 p1 p2 p3 p4 p5 p6 p7); (try clear q0 q1 q2); (try clear r0 r1 g0 g1); (try clear r2 g2)
  replace km := km.on al; replace kc := kc.on al; replace kr := kr.on al; replace bc := bc.trans (al.mono bc.size); clear al
  generalize w1.alloc (.cells #[.int .i64 lo, .int .i64 (ex + W + 1)] 30) = u1 at *
  generalize w1.heap.size = gw at *
  clear w1
  obtain ⟨p0, p1, p2, p3, p4, p5, p6, p7⟩ := km.eight; obtain ⟨q0, q1, q2, -⟩ := kc.three; obtain ⟨r0, r1, r2, g0, g1, g2⟩ := kr.three
  obtain ⟨s0, s1, -, -⟩ := kw.two
  go_upto_region 6 with fail
  (try clear p0 p1 p2 p3 p4 p5 p6 p7); (try clear q0 q1 q2); (try clear r0 r1 g0 g1); (try clear r2 g2)
  (try clear s0 s1)
  have hdr : Below u1.heap.size u1 u1.drew := (Below.refl _ _).drew
  have hA := hd.below (bc.trans (hdr.mono bc.size))
  have kc1 := kc.on hdr; have km1 := km.on hdr; have kr1 := kr.on hdr; have bc1 := bc.trans (hdr.mono bc.size)
  have hdA : Below u1.heap.size u1 ((u1.alloc (.cells #[.int .i64 (x - ex)] 2)).drew) := (Below.al u1 (.cells #[.int .i64 (x - ex)] 2)).trans ((Below.refl _ _).drew.mono (Below.al u1 (.cells #[.int .i64 (x - ex)] 2)).size)
  have kcA := kc.on hdA; have kmA := km.on hdA; have krA := kr.on hdA; have bcA := bc.trans (hdA.mono bc.size); have hAA := hd.below bcA
  have kNA : Blk ((u1.alloc (.cells #[.int .i64 (x - ex)] 2)).drew) u1.heap.size 2 #[.int .i64 (x - ex)] := (Blk.new u1 2 #[.int .i64 (x - ex)]).on (Below.refl _ _).drew
  have hkl := kc1.lt; have hml := km1.lt
  clear hdr km kc kr bc kw hd
  obtain ⟨q0, q1, q2, -⟩ := kc1.three
  obtain ⟨p0, p1, p2, p3, p4, p5, p6, p7⟩ := km1.eight
  obtain ⟨jA0, jA1, jA2, -⟩ := kcA.three
  obtain ⟨lA0, lA1, lA2, lA3, lA4, lA5, lA6, lA7⟩ := kmA.eight
  go_wp2_with fail
  go_region_law (first
    | (have _ := kN; refine step_append_lies _ rfl (.tmp 39) (.tmp 50) 26 rfl u1.drew.heap.size 2 i0 (.int .i64 0) 1 8 Try.underlying26 hi hz0 hz1 hz2 rfl (by decide) (.slice A3 n c3) n (valsK dv) (by first | rfl | simp [Act.eval]) hrow4 ⟨w3.heap.size, 0, none⟩ 1 1 [.int .i64 (x - ex)] (by first | rfl | simp [Act.eval]) (by rfl) (World.news_of_block kN) (by simp [Value.oneCell']) (by decide) (by unfold maxLen; omega) (by first | exact Nat.le_trans hs4 hs5 | omega) (by first | exact Nat.le_trans hs4 hs5 | omega) _ rfl ?_; intro g5 cap5 w5 hown5 hgrow5 hat5 hlt5; have kc5 := kc4.grown hgrow5 (own_ne_blkK hrow4 kc4 (by decide)); obtain ⟨z0, z1, z2, y0, y1, y2⟩ := kc5.three)
    | (have _ := kN; refine step_append_lies _ rfl (.tmp 39) (.tmp 50) 26 rfl u1.drew.heap.size 2 i0 (.int .i64 0) 1 8 Try.underlying26 hi hz0 hz1 hz2 rfl (by decide) (.slice A3 n c3) n (valsK dv) (by first | rfl | simp [Act.eval]) hrow4 ⟨u1.heap.size, 0, none⟩ 1 1 [.int .i64 (x - ex)] (by first | rfl | simp [Act.eval]) (by rfl) (World.news_of_block kN) (by simp [Value.oneCell']) (by decide) (by unfold maxLen; omega) (by first | exact Nat.le_trans hs4 hs5 | omega) (by first | exact Nat.le_trans hs4 hs5 | omega) _ rfl ?_; intro g5 cap5 w5 hown5 hgrow5 hat5 hlt5; have kc5 := kc4.grown hgrow5 (own_ne_blkK hrow4 kc4 (by decide)); obtain ⟨z0, z1, z2, y0, y1, y2⟩ := kc5.three)
    | (refine step_append_js (W := u1.drew) rfl (.const (.slice none 0 0)) (.tmp 38) rfl w.heap.size dv ⟨A, n, c⟩ hA HDN.out hdz (by dsimp only; omega) rfl (by first | rfl | simp [Act.eval] | simp [Act.eval, Act.put]) ?_; intro A3 c3 w3 hown3 hg3; dsimp only at hown3; have kc3 := kc1.grown hg3 (by simp); have km3 := km1.grown hg3 (by simp); have kr3 := kr1.grown hg3 (by simp); have bc3 := below_noneK bc1 bc1.size hg3; have kN := Blk.new w3 2 #[.int .i64 (x - ex)]; have al := Below.al w3 (.cells #[.int .i64 (x - ex)] 2); have kc4 := kc3.on al; have km4 := km3.on al; have kr4 := kr3.on al; have hrow4 := own_on hown3 al; have bc4 := bc3.trans (al.mono bc3.size); have hs4 := hg3.size; have hs5 := al.size; obtain ⟨a0, a1, a2, -⟩ := kc3.three; obtain ⟨b0, b1, b2, -⟩ := kc4.three; obtain ⟨c3_0, c3_1, c3_2, c3_3, c3_4, c3_5, c3_6, c3_7⟩ := km3.eight; obtain ⟨d4_0, d4_1, d4_2, d4_3, d4_4, d4_5, d4_6, d4_7⟩ := km4.eight)
    | (refine step_append_js (W := (u1.alloc (.cells #[.int .i64 (x - ex)] 2)).drew) rfl (.const (.slice none 0 0)) (.tmp 38) rfl w.heap.size dv ⟨A, n, c⟩ hAA HDN.out hdz (by dsimp only; omega) rfl (by first | rfl | simp [Act.eval] | simp [Act.eval, Act.put]) ?_; intro A3 c3 w3 hown3 hg3; dsimp only at hown3; have hs4 := hdA.size; have kN := kNA.grown hg3 (by simp); have kc4 := kcA.grown hg3 (by simp); have km4 := kmA.grown hg3 (by simp); have kr4 := krA.grown hg3 (by simp); have hrow4 := own_mono hown3 hdA.size; have bc4 := below_noneK bcA bcA.size hg3; have hs5 := hg3.size; have al := hdA; obtain ⟨b0, b1, b2, -⟩ := kc4.three; obtain ⟨d4_0, d4_1, d4_2, d4_3, d4_4, d4_5, d4_6, d4_7⟩ := km4.eight))
  all_goals
    have bc5 := bc4.grown hgrow5 bc4.size (fun i ei => Nat.le_trans bc1.size (hrow4.lt i ei).1)
    have kr5 := kr4.grown hgrow5 (own_ne_blkK hrow4 kr4 (by decide))
    have hG := only_setCell (World.grownBy.refl w5 (some (w.heap.size + 1))) (p := ⟨w.heap.size + 1, 2, none⟩) (.inl rfl) (.slice (some ⟨g5, 0, none⟩) (n + 1) cap5)
    have kc6 : Blk (w5.setCell ⟨w.heap.size + 1, 2, none⟩ (.slice (some ⟨g5, 0, none⟩) (n + 1) cap5)) (w.heap.size + 1) 28 #[.int .i64 st, .int .i64 sl, .slice (some ⟨g5, 0, none⟩) (n + 1) cap5] := by simpa using kc5.set_ 2 (.slice (some ⟨g5, 0, none⟩) (n + 1) cap5)
    have kr6 := kr5.grown hG (some_ne (by omega))
    have bc6 := Below.off bc5 bc5.size (by omega) hG
    have hrow6 := hown5.kept hG (.inr (fun e => own_ne_blkK hown5 kc5 (by decide) e.symm))
    rw [show valsK dv ++ [Value.int .i64 (x - ex)] = valsK (dv ++ [x - ex]) by simp [valsK]] at hrow6
    replace hrow6 := own_mono hrow6 bc1.size
    have HR6 := Lib.hid hrow6
    clear kcA kmA krA bcA hAA kNA hdA jA0 jA1 jA2 lA0 lA1 lA2 lA3 lA4 lA5 lA6 lA7
    clear hrow6 hG hown5 hgrow5 hat5 hlt5 kc5 kr5 bc5 kc4 km4 kr4 hrow4 bc4 hown3 hg3 kN al kc1 km1 kr1 z0 z1 z2 y0 y1 y2
    generalize w5.setCell ⟨w.heap.size + 1, 2, none⟩ (.slice (some ⟨g5, 0, none⟩) (n + 1) cap5) = w6 at *
    obtain rfl := Q3.out
    obtain ⟨z0, z1, z2, -⟩ := kc6.three
    obtain ⟨r0, r1, r2, g0, g1, g2⟩ := kr6.three
    go_wp2
    exact bodyPost_ret (v := .tuple #[.agg #[.int .i64 st, .int .i64 sl, .slice (some ⟨g5, 0, none⟩) (n + 1) cap5], .int .i64 0]) (by simp [results, Try.results24, go_sem, r0, r1, r2]) rfl ⟨⟨some ⟨g5, 0, none⟩, n + 1, cap5⟩, rfl, CkFr.own (k := ⟨st, sl, dv ++ [x - ex]⟩) (HR6.out.kept (grown3K _ _ _ _ _) (.inr (fun e => own_ne_blkK HR6.out kr6 (by decide) e.symm))) (by unfold maxLen; omega), by repeat (first | refine Below.setCell ?_ (by dsimp only; omega) _ | exact bc6)⟩
end Go.Proofs.Ytlkmipcenlhacaa
