/-
  See of package clock. Conditions: a list and a clock that can be read. (Printed by tools/gen13u.py.)
-/
import Derived.Test.YtlkmipcenlhacaaLT
import Derived.Deep.RegionLaw
namespace Go.Proofs.Ytlkmipcenlhacaa
open Go.RowKit

set_option maxRecDepth 100000 in
set_option maxHeartbeats 4000000 in
theorem see13 : ClkSeeC := by
  intro m c s k v x w hM hk
  have hck := fun U (hb : Below w.heap.size w U) => check13 m c s k v U (hM.on hb) (hk.on hb)
  have hw := fun h1 h2 h3 h4 U => window_any m c s k v U h1 h2 h3 h4
  have hx := fun h1 h2 h3 U => expK_any m c s k v U h1 h2 h3
  have hcp := fun U (hb : Below w.heap.size w U) (h : v.n ≤ 1000) => copied_any v.A v.n v.c k.dv U hk.dn h ((hk.d.below hb).mono hb.size)
  have qA : ¬ chkK m k = 0 → seeK m k x = (chkK m k, zeroCk) := fun h => by unfold seeK; rw [if_neg h]
  have qC : chkK m k = 0 → ¬ (v.n < 8 ∧ max (expK m k - m.W) 0 ≤ x ∧ x ≤ expK m k + m.W) → seeK m k x = (2, zeroCk) := fun h h2 => by unfold seeK; rw [if_pos h, if_neg (by rw [← hk.dn]; exact h2)]
  have qD : chkK m k = 0 → (v.n < 8 ∧ max (expK m k - m.W) 0 ≤ x ∧ x ≤ expK m k + m.W) → seeK m k x = (0, ⟨k.st, k.sl, k.dv ++ [x - expK m k]⟩) := fun h h2 => by unfold seeK; rw [if_pos h, if_pos (by rw [← hk.dn]; exact h2)]
  have hz1 : chkK m k = 0 → okM m ∧ okCk m.W k := chkK_zero.1
  have hbn := fun h => okM_nums (m := m) h
  unfold ResCk
  generalize seeK m k x = RR at *
  obtain ⟨ck, hcke⟩ : ∃ ck, ck = chkK m k := ⟨_, rfl⟩
  rw [← hcke] at hck qA qC qD hz1
  clear hcke hM
  obtain ⟨hd, hdn, hdc, hdm, hdz⟩ := hk
  clear hd hdz hdc hdm
  obtain ⟨N, S, G, W, D, L, cold, ms⟩ := m
  obtain ⟨Ac, nc, cc⟩ := c
  obtain ⟨As, ns, cs⟩ := s
  obtain ⟨st, sl, dv⟩ := k
  obtain ⟨A, n, c⟩ := v
  dsimp only [vM, cK] at *
  obtain ⟨ex, hex⟩ : ∃ ex, ex = expK ⟨N, S, G, W, D, L, cold, ms⟩ ⟨st, sl, dv⟩ := ⟨_, rfl⟩
  rw [← hex] at qC qD hw hx
  unfold expK at hex
  dsimp only at hex
  have HDN := Lib.hid hdn; have HEX := Lib.hid hex; have HCK := Lib.hid hck; clear hdn hex hck
  obtain ⟨km, kc, kr, bc⟩ := bx3 w #[.int .i64 N, .int .i64 S, .int .i64 G, .int .i64 W, .int .i64 D, .int .i64 L, .slice Ac nc cc, .slice As ns cs] #[.int .i64 st, .int .i64 sl, .slice A n c] #[.int .i64 0, .int .i64 0, .slice none 0 0] 25 28 28
  obtain ⟨p0, p1, p2, p3, p4, p5, p6, p7⟩ := km.eight; obtain ⟨q0, q1, q2, -⟩ := kc.three; obtain ⟨r0, r1, r2, g0, g1, g2⟩ := kr.three
  by_cases h0 : ck = 0
  rotate_left
  · obtain rfl := qA h0
    have d0 : (ck != 0) = true := by simpa using h0
    clear qA qC qD hz1 hbn hw hx hcp
    go_enter Try.func23, Try.ntmps23
    go_wp2_with (first | (go_at_call 12; refine (HCK.out _ bc).mono ?_; rintro e w1 ⟨rfl, hC⟩; dsimp only; (try clear p0 p1 p2 p3 p4 p5 p6 p7); (try clear q0 q1 q2); (try clear r0 r1 g0 g1); (try clear r2 g2); replace km := km.on hC; replace kc := kc.on hC; replace kr := kr.on hC; replace bc := bc.trans (hC.mono bc.size); clear hC; obtain ⟨p0, p1, p2, p3, p4, p5, p6, p7⟩ := km.eight; obtain ⟨q0, q1, q2, -⟩ := kc.three; obtain ⟨r0, r1, r2, g0, g1, g2⟩ := kr.three))
    exact bodyPost_ret (v := .tuple #[.agg #[.int .i64 0, .int .i64 0, .slice none 0 0], .int .i64 ck]) (by simp [results, Try.results23, go_sem, r0, r1, r2]) rfl ⟨⟨none, 0, 0⟩, rfl, CkFr.zero _ _ _ _, by repeat (first | refine Below.setCell ?_ (by dsimp only; omega) _ | exact bc)⟩
  subst h0
  replace qC := qC rfl; replace qD := qD rfl
  obtain ⟨h1, h2⟩ := hz1 rfl
  obtain ⟨-, -, ⟨l0, l1⟩, ⟨w0, w1⟩, ⟨g9, g8⟩, -⟩ := hbn h1
  obtain ⟨⟨⟨t0, t1⟩, -⟩, h2n, -⟩ := h2
  dsimp only at h2n t0 t1 l0 l1 w0 w1 g9 g8
  have HW := Lib.hid (hw (by omega) (by omega) (by omega) (by omega)); have HX := Lib.hid (hx (by omega) (by omega) (by omega))
  rw [← HDN.out] at h2n
  have HCP := Lib.hid (fun U hb => hcp U hb (by omega))
  clear hw qA hz1 hbn h1 hx hcp
  obtain ⟨lo, hlo⟩ : ∃ lo, lo = max (ex - W) 0 := ⟨_, rfl⟩
  rw [← hlo] at HW qC qD
  have HLO := Lib.hid hlo; clear hlo
  by_cases c0 : n < 8
  rotate_left
  · obtain rfl := qC (fun hh => c0 (by omega))
    have d1 : ((n : Int) == 8) = true := by have := h2n; simp; omega
    clear qC qD
    go_enter Try.func23, Try.ntmps23
    go_upto_region 5 with (first | (go_at_call 12; refine (HCK.out _ bc).mono ?_; rintro e w1 ⟨rfl, hC⟩; dsimp only; (try clear p0 p1 p2 p3 p4 p5 p6 p7); (try clear q0 q1 q2); (try clear r0 r1 g0 g1); (try clear r2 g2); replace km := km.on hC; replace kc := kc.on hC; replace kr := kr.on hC; replace bc := bc.trans (hC.mono bc.size); clear hC; obtain ⟨p0, p1, p2, p3, p4, p5, p6, p7⟩ := km.eight; obtain ⟨q0, q1, q2, -⟩ := kc.three; obtain ⟨r0, r1, r2, g0, g1, g2⟩ := kr.three) | (go_at_call 36; refine (HW.out _).mono ?_; rintro e w1 ⟨rfl, hC⟩; dsimp only; (try clear p0 p1 p2 p3 p4 p5 p6 p7); (try clear q0 q1 q2); (try clear r0 r1 g0 g1); (try clear r2 g2); replace km := km.on hC; replace kc := kc.on hC; replace kr := kr.on hC; replace bc := bc.trans (hC.mono bc.size); clear hC; obtain ⟨p0, p1, p2, p3, p4, p5, p6, p7⟩ := km.eight; obtain ⟨q0, q1, q2, -⟩ := kc.three; obtain ⟨r0, r1, r2, g0, g1, g2⟩ := kr.three))
    have kw := Blk.new w1 30 #[.int .i64 lo, .int .i64 (ex + W + 1)]
    have al := Below.al w1 (.cells #[.int .i64 lo, .int .i64 (ex + W + 1)] 30)
    have hgw := kr.lt
    (try clear p0 p1 p2 p3 p4 p5 p6 p7); (try clear q0 q1 q2); (try clear r0 r1 g0 g1); (try clear r2 g2)
    replace km := km.on al; replace kc := kc.on al; replace kr := kr.on al; replace bc := bc.trans (al.mono bc.size); clear al
    generalize w1.alloc (.cells #[.int .i64 lo, .int .i64 (ex + W + 1)] 30) = u1 at *
    generalize w1.heap.size = gw at *
    clear w1
    obtain ⟨p0, p1, p2, p3, p4, p5, p6, p7⟩ := km.eight; obtain ⟨q0, q1, q2, -⟩ := kc.three; obtain ⟨r0, r1, r2, g0, g1, g2⟩ := kr.three
    obtain ⟨s0, s1, -, -⟩ := kw.two
    go_wp2
    exact bodyPost_ret (v := .tuple #[.agg #[.int .i64 0, .int .i64 0, .slice none 0 0], .int .i64 2]) (by simp [results, Try.results23, go_sem, r0, r1, r2]) rfl ⟨⟨none, 0, 0⟩, rfl, CkFr.zero _ _ _ _, by repeat (first | refine Below.setCell ?_ (by dsimp only; omega) _ | exact bc)⟩
  have d1 : ((n : Int) == 8) = false := by simp; omega
  by_cases c1 : lo ≤ x
  rotate_left
  · obtain rfl := qC (fun hh => c1 (by omega))
    have d2 : decide (x < lo) = true := by simp; omega
    clear qC qD
    go_enter Try.func23, Try.ntmps23
    go_upto_region 5 with (first | (go_at_call 12; refine (HCK.out _ bc).mono ?_; rintro e w1 ⟨rfl, hC⟩; dsimp only; (try clear p0 p1 p2 p3 p4 p5 p6 p7); (try clear q0 q1 q2); (try clear r0 r1 g0 g1); (try clear r2 g2); replace km := km.on hC; replace kc := kc.on hC; replace kr := kr.on hC; replace bc := bc.trans (hC.mono bc.size); clear hC; obtain ⟨p0, p1, p2, p3, p4, p5, p6, p7⟩ := km.eight; obtain ⟨q0, q1, q2, -⟩ := kc.three; obtain ⟨r0, r1, r2, g0, g1, g2⟩ := kr.three) | (go_at_call 36; refine (HW.out _).mono ?_; rintro e w1 ⟨rfl, hC⟩; dsimp only; (try clear p0 p1 p2 p3 p4 p5 p6 p7); (try clear q0 q1 q2); (try clear r0 r1 g0 g1); (try clear r2 g2); replace km := km.on hC; replace kc := kc.on hC; replace kr := kr.on hC; replace bc := bc.trans (hC.mono bc.size); clear hC; obtain ⟨p0, p1, p2, p3, p4, p5, p6, p7⟩ := km.eight; obtain ⟨q0, q1, q2, -⟩ := kc.three; obtain ⟨r0, r1, r2, g0, g1, g2⟩ := kr.three))
    have kw := Blk.new w1 30 #[.int .i64 lo, .int .i64 (ex + W + 1)]
    have al := Below.al w1 (.cells #[.int .i64 lo, .int .i64 (ex + W + 1)] 30)
    have hgw := kr.lt
    (try clear p0 p1 p2 p3 p4 p5 p6 p7); (try clear q0 q1 q2); (try clear r0 r1 g0 g1); (try clear r2 g2)
    replace km := km.on al; replace kc := kc.on al; replace kr := kr.on al; replace bc := bc.trans (al.mono bc.size); clear al
    generalize w1.alloc (.cells #[.int .i64 lo, .int .i64 (ex + W + 1)] 30) = u1 at *
    generalize w1.heap.size = gw at *
    clear w1
    obtain ⟨p0, p1, p2, p3, p4, p5, p6, p7⟩ := km.eight; obtain ⟨q0, q1, q2, -⟩ := kc.three; obtain ⟨r0, r1, r2, g0, g1, g2⟩ := kr.three
    obtain ⟨s0, s1, -, -⟩ := kw.two
    go_wp2
    exact bodyPost_ret (v := .tuple #[.agg #[.int .i64 0, .int .i64 0, .slice none 0 0], .int .i64 2]) (by simp [results, Try.results23, go_sem, r0, r1, r2]) rfl ⟨⟨none, 0, 0⟩, rfl, CkFr.zero _ _ _ _, by repeat (first | refine Below.setCell ?_ (by dsimp only; omega) _ | exact bc)⟩
  have d2 : decide (x < lo) = false := by simp; omega
  by_cases c2 : x ≤ ex + W
  rotate_left
  · obtain rfl := qC (fun hh => c2 (by omega))
    have d3 : decide (ex + W + 1 ≤ x) = true := by simp; omega
    clear qC qD
    go_enter Try.func23, Try.ntmps23
    go_upto_region 5 with (first | (go_at_call 12; refine (HCK.out _ bc).mono ?_; rintro e w1 ⟨rfl, hC⟩; dsimp only; (try clear p0 p1 p2 p3 p4 p5 p6 p7); (try clear q0 q1 q2); (try clear r0 r1 g0 g1); (try clear r2 g2); replace km := km.on hC; replace kc := kc.on hC; replace kr := kr.on hC; replace bc := bc.trans (hC.mono bc.size); clear hC; obtain ⟨p0, p1, p2, p3, p4, p5, p6, p7⟩ := km.eight; obtain ⟨q0, q1, q2, -⟩ := kc.three; obtain ⟨r0, r1, r2, g0, g1, g2⟩ := kr.three) | (go_at_call 36; refine (HW.out _).mono ?_; rintro e w1 ⟨rfl, hC⟩; dsimp only; (try clear p0 p1 p2 p3 p4 p5 p6 p7); (try clear q0 q1 q2); (try clear r0 r1 g0 g1); (try clear r2 g2); replace km := km.on hC; replace kc := kc.on hC; replace kr := kr.on hC; replace bc := bc.trans (hC.mono bc.size); clear hC; obtain ⟨p0, p1, p2, p3, p4, p5, p6, p7⟩ := km.eight; obtain ⟨q0, q1, q2, -⟩ := kc.three; obtain ⟨r0, r1, r2, g0, g1, g2⟩ := kr.three))
    have kw := Blk.new w1 30 #[.int .i64 lo, .int .i64 (ex + W + 1)]
    have al := Below.al w1 (.cells #[.int .i64 lo, .int .i64 (ex + W + 1)] 30)
    have hgw := kr.lt
    (try clear p0 p1 p2 p3 p4 p5 p6 p7); (try clear q0 q1 q2); (try clear r0 r1 g0 g1); (try clear r2 g2)
    replace km := km.on al; replace kc := kc.on al; replace kr := kr.on al; replace bc := bc.trans (al.mono bc.size); clear al
    generalize w1.alloc (.cells #[.int .i64 lo, .int .i64 (ex + W + 1)] 30) = u1 at *
    generalize w1.heap.size = gw at *
    clear w1
    obtain ⟨p0, p1, p2, p3, p4, p5, p6, p7⟩ := km.eight; obtain ⟨q0, q1, q2, -⟩ := kc.three; obtain ⟨r0, r1, r2, g0, g1, g2⟩ := kr.three
    obtain ⟨s0, s1, -, -⟩ := kw.two
    go_wp2
    exact bodyPost_ret (v := .tuple #[.agg #[.int .i64 0, .int .i64 0, .slice none 0 0], .int .i64 2]) (by simp [results, Try.results23, go_sem, r0, r1, r2]) rfl ⟨⟨none, 0, 0⟩, rfl, CkFr.zero _ _ _ _, by repeat (first | refine Below.setCell ?_ (by dsimp only; omega) _ | exact bc)⟩
  have d3 : decide (ex + W + 1 ≤ x) = false := by simp; omega
  have Q3 := Lib.hid (qD ⟨c0, c1, c2⟩)
  clear qC qD
  have e3 : IntKind.i64.wrap (x - ex) = x - ex := IntWalk.i64_in _ (by have := HEX.out; have := HLO.out; omega)
  clear t0 t1 l0 l1 w0 w1 g9 g8
  obtain ⟨i0, hi, hz0, hz1, hz2⟩ := info_parts Try.infoJ
  go_enter Try.func23, Try.ntmps23
  go_upto_region 5 with (first | (go_at_call 12; refine (HCK.out _ bc).mono ?_; rintro e w1 ⟨rfl, hC⟩; dsimp only; (try clear p0 p1 p2 p3 p4 p5 p6 p7); (try clear q0 q1 q2); (try clear r0 r1 g0 g1); (try clear r2 g2); replace km := km.on hC; replace kc := kc.on hC; replace kr := kr.on hC; replace bc := bc.trans (hC.mono bc.size); clear hC; obtain ⟨p0, p1, p2, p3, p4, p5, p6, p7⟩ := km.eight; obtain ⟨q0, q1, q2, -⟩ := kc.three; obtain ⟨r0, r1, r2, g0, g1, g2⟩ := kr.three) | (go_at_call 36; refine (HW.out _).mono ?_; rintro e w1 ⟨rfl, hC⟩; dsimp only; (try clear p0 p1 p2 p3 p4 p5 p6 p7); (try clear q0 q1 q2); (try clear r0 r1 g0 g1); (try clear r2 g2); replace km := km.on hC; replace kc := kc.on hC; replace kr := kr.on hC; replace bc := bc.trans (hC.mono bc.size); clear hC; obtain ⟨p0, p1, p2, p3, p4, p5, p6, p7⟩ := km.eight; obtain ⟨q0, q1, q2, -⟩ := kc.three; obtain ⟨r0, r1, r2, g0, g1, g2⟩ := kr.three))
  have kw := Blk.new w1 30 #[.int .i64 lo, .int .i64 (ex + W + 1)]
  have al := Below.al w1 (.cells #[.int .i64 lo, .int .i64 (ex + W + 1)] 30)
  have hgw := kr.lt
  (try clear p0 p1 p2 p3 p4 p5 p6 p7); (try clear q0 q1 q2); (try clear r0 r1 g0 g1); (try clear r2 g2)
  replace km := km.on al; replace kc := kc.on al; replace kr := kr.on al; replace bc := bc.trans (al.mono bc.size); clear al
  generalize w1.alloc (.cells #[.int .i64 lo, .int .i64 (ex + W + 1)] 30) = u1 at *
  generalize w1.heap.size = gw at *
  clear w1
  obtain ⟨p0, p1, p2, p3, p4, p5, p6, p7⟩ := km.eight; obtain ⟨q0, q1, q2, -⟩ := kc.three; obtain ⟨r0, r1, r2, g0, g1, g2⟩ := kr.three
  obtain ⟨s0, s1, -, -⟩ := kw.two
  go_upto_region 7 with fail
  (try clear p0 p1 p2 p3 p4 p5 p6 p7); (try clear q0 q1 q2); (try clear r0 r1 g0 g1); (try clear r2 g2)
  (try clear s0 s1)
  have hdr : Below u1.heap.size u1 u1.drew := (Below.refl _ _).drew
  have kc1 := kc.on hdr; have km1 := km.on hdr; have kr1 := kr.on hdr; have bc1 := bc.trans (hdr.mono bc.size)
  have hkl := kc1.lt; have hml := km1.lt
  clear hdr km kc kr bc kw
  obtain ⟨q0, q1, q2, -⟩ := kc1.three
  obtain ⟨p0, p1, p2, p3, p4, p5, p6, p7⟩ := km1.eight
  go_wp2_with fail
  go_region_law (first
    | (have _ := hown5; refine step_append_lies _ rfl (.tmp 39) (.tmp 45) 26 rfl u1.drew.heap.size 2 i0 (.int .i64 0) 1 8 Try.underlying26 hi hz0 hz1 hz2 rfl (by decide) (.slice (some ⟨g3, 0, none⟩) n (n + 1)) n (valsK dv) (by first | rfl | simp [Act.eval]) hown5 ⟨w4.heap.size, 0, none⟩ 1 1 [.int .i64 (x - ex)] (by first | rfl | simp [Act.eval]) (by rfl) (World.news_of_block kN) (by simp [Value.oneCell']) (by decide) (by unfold maxLen; omega) (by first | exact hs5 | omega) (by first | exact hs5 | omega) _ rfl ?_; intro g6 cap6 w6 hown6 hgrow6 hat6 hlt6; have kc6 := kc5.grown hgrow6 (own_ne_blkK hown5 kc5 (by decide)); obtain ⟨z0, z1, z2, y0, y1, y2⟩ := kc6.three)
    | (have _ := hown3; go_simp; go_at_call 40; refine (HX.out w3).mono ?_; rintro e w4 ⟨rfl, hC⟩; dsimp only; have kc4 := kc3.on hC; have km4 := km3.on hC; have kr4 := kr3.on hC; have bc4 := bc3.trans (hC.mono bc3.size); have hown4 := own_on hown3 hC; have hs4 := Nat.le_trans hs3 hC.size; clear hC; have kN := Blk.new w4 2 #[.int .i64 (x - ex)]; have al := Below.al w4 (.cells #[.int .i64 (x - ex)] 2); have kc5 := kc4.on al; have kr5 := kr4.on al; have hown5 := own_on hown4 al; have bc5 := bc4.trans (al.mono bc4.size); have hs5 := Nat.le_trans hs4 al.size; obtain ⟨b0, b1, b2, -⟩ := kc4.three)
    | (go_simp; go_at_call 39; refine (HCP.out _ bc1).mono ?_; rintro e w3 ⟨g3, rfl, hown3, hC⟩; dsimp only; have kc3 := kc1.on hC; have km3 := km1.on hC; have kr3 := kr1.on hC; have bc3 := bc1.trans (hC.mono bc1.size); have hs3 := hC.size; clear hC; obtain ⟨a0, a1, a2, -⟩ := kc3.three; obtain ⟨m0, m1, m2, m3, m4, m5, m6, m7⟩ := km3.eight))
  all_goals
    have bc6 := bc5.grown hgrow6 bc5.size (fun i ei => Nat.le_trans bc1.size (hown5.lt i ei).1)
    have kr6 := kr5.grown hgrow6 (own_ne_blkK hown5 kr5 (by decide))
    have hG := only_setCell (World.grownBy.refl w6 (some (w.heap.size + 1))) (p := ⟨w.heap.size + 1, 2, none⟩) (.inl rfl) (.slice (some ⟨g6, 0, none⟩) (n + 1) cap6)
    have kc7 : Blk (w6.setCell ⟨w.heap.size + 1, 2, none⟩ (.slice (some ⟨g6, 0, none⟩) (n + 1) cap6)) (w.heap.size + 1) 28 #[.int .i64 st, .int .i64 sl, .slice (some ⟨g6, 0, none⟩) (n + 1) cap6] := by simpa using kc6.set_ 2 (.slice (some ⟨g6, 0, none⟩) (n + 1) cap6)
    have kr7 := kr6.grown hG (some_ne (by omega))
    have bc7 := Below.off bc6 bc6.size (by omega) hG
    have hrow7 := hown6.kept hG (.inr (fun e => own_ne_blkK hown6 kc6 (by decide) e.symm))
    rw [show valsK dv ++ [Value.int .i64 (x - ex)] = valsK (dv ++ [x - ex]) by simp [valsK]] at hrow7
    replace hrow7 := own_mono hrow7 bc1.size
    have HR7 := Lib.hid hrow7
    clear hrow7 hG hown6 hgrow6 hat6 hlt6 kc6 kr6 bc6 kc5 kr5 hown5 bc5 hown3 kN kc1 km1 kr1 z0 z1 z2 y0 y1 y2
    generalize w6.setCell ⟨w.heap.size + 1, 2, none⟩ (.slice (some ⟨g6, 0, none⟩) (n + 1) cap6) = w7 at *
    obtain rfl := Q3.out
    obtain ⟨z0, z1, z2, -⟩ := kc7.three
    obtain ⟨r0, r1, r2, g0, g1, g2⟩ := kr7.three
    go_wp2
    exact bodyPost_ret (v := .tuple #[.agg #[.int .i64 st, .int .i64 sl, .slice (some ⟨g6, 0, none⟩) (n + 1) cap6], .int .i64 0]) (by simp [results, Try.results23, go_sem, r0, r1, r2]) rfl ⟨⟨some ⟨g6, 0, none⟩, n + 1, cap6⟩, rfl, CkFr.own (k := ⟨st, sl, dv ++ [x - ex]⟩) (HR7.out.kept (grown3K _ _ _ _ _) (.inr (fun e => own_ne_blkK HR7.out kr7 (by decide) e.symm))) (by unfold maxLen; omega), by repeat (first | refine Below.setCell ?_ (by dsimp only; omega) _ | exact bc7)⟩
end Go.Proofs.Ytlkmipcenlhacaa
