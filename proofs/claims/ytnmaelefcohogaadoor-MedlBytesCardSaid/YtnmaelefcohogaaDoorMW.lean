/-
  The document's own Same of layer 7: field by field. Condition: lists that can be read. (Printed by tools/gen07w.py.)
-/
import Derived.Test.YtnmaelefcohogaaDoorMV
namespace Go.Proofs.YtnmaelefcohogaaDoor
open Go.RowKit

set_option maxRecDepth 100000 in
set_option maxHeartbeats 8000000 in
theorem rsameM_any (a b : ML) (c s c2 s2 : Slc) (w : World) (ha : Med w a c s) (hb : Med w b c2 s2) : Calls Tryd.prog 11 #[vM a c s, vM b c2 s2] w fun e w' => e = .returned (.bool (sameM a b)) ∧ Below w.heap.size w w' := by
  have h0 := fun W (h : Below w.heap.size w W) => rsameB_any c.A c2.A c.n c2.n c.c c2.c a.cold b.cold W ha.cn hb.cn ha.cm hb.cm ((ha.cb.below h).mono h.size) ((hb.cb.below h).mono h.size)
  obtain ⟨R, hR⟩ : ∃ R, R = sameM a b := ⟨_, rfl⟩
  rw [← hR]
  unfold sameM at hR
  obtain ⟨zc, hzc⟩ : ∃ z, z = decide (a.cold = b.cold) := ⟨_, rfl⟩
  rw [← hzc] at h0 hR
  obtain ⟨zs, hzs⟩ : ∃ z, z = sameOs a.ms b.ms := ⟨_, rfl⟩
  rw [← hzs] at hR
  have HZS := Lib.hid hzs; have HA := Lib.hid ha; have HB := Lib.hid hb; have hsn := ha.sn; have hsn2 := hb.sn; have hsm := ha.sm; have hsm2 := hb.sm
  clear ha hb hzc hzs
  obtain ⟨N, S, G, W, D, L, cold, ms⟩ := a
  obtain ⟨N2, S2, G2, W2, D2, L2, cold2, mt⟩ := b
  obtain ⟨Ac, nc, cc⟩ := c
  obtain ⟨As, ns, cs⟩ := s
  obtain ⟨Bc, mc, dc⟩ := c2
  obtain ⟨Bs, ms2, ds⟩ := s2
  dsimp only [vM] at *
  have H0 := Lib.hid h0; clear h0
  obtain ⟨k1, k2, bc⟩ := bx2 w #[.int .i64 N, .int .i64 S, .int .i64 G, .int .i64 W, .int .i64 D, .int .i64 L, .slice Ac nc cc, .slice As ns cs] #[.int .i64 N2, .int .i64 S2, .int .i64 G2, .int .i64 W2, .int .i64 D2, .int .i64 L2, .slice Bc mc dc, .slice Bs ms2 ds] 25 25
  have HSN := Lib.hid hsn; have HSM := Lib.hid hsn2; clear hsn hsn2
  by_cases e_N : N = N2
  rotate_left
  · obtain rfl : R = false := by rw [hR, show decide (N = N2) = false by simpa using e_N]; simp
    have d_N : (N != N2) = true := by simpa using e_N
    clear hR e_N
    go_enter Tryd.func11, Tryd.ntmps11
    go_wp2_with (first
      | (go_at_call 27; with_reducible refine (H0.out _ bc).mono ?_; rintro e w1 ⟨rfl, hC⟩; replace k1 := k1.on hC; replace k2 := k2.on hC; replace bc := bc.trans (hC.mono bc.size); clear hC; (try clear p0 p1 p2 p3 p4 p5 p6 p7 q0 q1 q2 q3 q4 q5 q6 q7); obtain ⟨p0, p1, p2, p3, p4, p5, p6, p7⟩ := k1.eight; obtain ⟨q0, q1, q2, q3, q4, q5, q6, q7⟩ := k2.eight))
    go_ret
    exact ⟨rfl, bc⟩
  have d_N : (N != N2) = false := by simpa using e_N
  rw [show decide (N = N2) = true by simpa using e_N, Bool.true_and] at hR
  clear e_N
  by_cases e_S : S = S2
  rotate_left
  · obtain rfl : R = false := by rw [hR, show decide (S = S2) = false by simpa using e_S]; simp
    have d_S : (S != S2) = true := by simpa using e_S
    clear hR e_S
    go_enter Tryd.func11, Tryd.ntmps11
    go_wp2_with (first
      | (go_at_call 27; with_reducible refine (H0.out _ bc).mono ?_; rintro e w1 ⟨rfl, hC⟩; replace k1 := k1.on hC; replace k2 := k2.on hC; replace bc := bc.trans (hC.mono bc.size); clear hC; (try clear p0 p1 p2 p3 p4 p5 p6 p7 q0 q1 q2 q3 q4 q5 q6 q7); obtain ⟨p0, p1, p2, p3, p4, p5, p6, p7⟩ := k1.eight; obtain ⟨q0, q1, q2, q3, q4, q5, q6, q7⟩ := k2.eight))
    go_ret
    exact ⟨rfl, bc⟩
  have d_S : (S != S2) = false := by simpa using e_S
  rw [show decide (S = S2) = true by simpa using e_S, Bool.true_and] at hR
  clear e_S
  by_cases e_G : G = G2
  rotate_left
  · obtain rfl : R = false := by rw [hR, show decide (G = G2) = false by simpa using e_G]; simp
    have d_G : (G != G2) = true := by simpa using e_G
    clear hR e_G
    go_enter Tryd.func11, Tryd.ntmps11
    go_wp2_with (first
      | (go_at_call 27; with_reducible refine (H0.out _ bc).mono ?_; rintro e w1 ⟨rfl, hC⟩; replace k1 := k1.on hC; replace k2 := k2.on hC; replace bc := bc.trans (hC.mono bc.size); clear hC; (try clear p0 p1 p2 p3 p4 p5 p6 p7 q0 q1 q2 q3 q4 q5 q6 q7); obtain ⟨p0, p1, p2, p3, p4, p5, p6, p7⟩ := k1.eight; obtain ⟨q0, q1, q2, q3, q4, q5, q6, q7⟩ := k2.eight))
    go_ret
    exact ⟨rfl, bc⟩
  have d_G : (G != G2) = false := by simpa using e_G
  rw [show decide (G = G2) = true by simpa using e_G, Bool.true_and] at hR
  clear e_G
  by_cases e_W : W = W2
  rotate_left
  · obtain rfl : R = false := by rw [hR, show decide (W = W2) = false by simpa using e_W]; simp
    have d_W : (W != W2) = true := by simpa using e_W
    clear hR e_W
    go_enter Tryd.func11, Tryd.ntmps11
    go_wp2_with (first
      | (go_at_call 27; with_reducible refine (H0.out _ bc).mono ?_; rintro e w1 ⟨rfl, hC⟩; replace k1 := k1.on hC; replace k2 := k2.on hC; replace bc := bc.trans (hC.mono bc.size); clear hC; (try clear p0 p1 p2 p3 p4 p5 p6 p7 q0 q1 q2 q3 q4 q5 q6 q7); obtain ⟨p0, p1, p2, p3, p4, p5, p6, p7⟩ := k1.eight; obtain ⟨q0, q1, q2, q3, q4, q5, q6, q7⟩ := k2.eight))
    go_ret
    exact ⟨rfl, bc⟩
  have d_W : (W != W2) = false := by simpa using e_W
  rw [show decide (W = W2) = true by simpa using e_W, Bool.true_and] at hR
  clear e_W
  by_cases e_D : D = D2
  rotate_left
  · obtain rfl : R = false := by rw [hR, show decide (D = D2) = false by simpa using e_D]; simp
    have d_D : (D != D2) = true := by simpa using e_D
    clear hR e_D
    go_enter Tryd.func11, Tryd.ntmps11
    go_wp2_with (first
      | (go_at_call 27; with_reducible refine (H0.out _ bc).mono ?_; rintro e w1 ⟨rfl, hC⟩; replace k1 := k1.on hC; replace k2 := k2.on hC; replace bc := bc.trans (hC.mono bc.size); clear hC; (try clear p0 p1 p2 p3 p4 p5 p6 p7 q0 q1 q2 q3 q4 q5 q6 q7); obtain ⟨p0, p1, p2, p3, p4, p5, p6, p7⟩ := k1.eight; obtain ⟨q0, q1, q2, q3, q4, q5, q6, q7⟩ := k2.eight))
    go_ret
    exact ⟨rfl, bc⟩
  have d_D : (D != D2) = false := by simpa using e_D
  rw [show decide (D = D2) = true by simpa using e_D, Bool.true_and] at hR
  clear e_D
  by_cases e_L : L = L2
  rotate_left
  · obtain rfl : R = false := by rw [hR, show decide (L = L2) = false by simpa using e_L]; simp
    have d_L : (L != L2) = true := by simpa using e_L
    clear hR e_L
    go_enter Tryd.func11, Tryd.ntmps11
    go_wp2_with (first
      | (go_at_call 27; with_reducible refine (H0.out _ bc).mono ?_; rintro e w1 ⟨rfl, hC⟩; replace k1 := k1.on hC; replace k2 := k2.on hC; replace bc := bc.trans (hC.mono bc.size); clear hC; (try clear p0 p1 p2 p3 p4 p5 p6 p7 q0 q1 q2 q3 q4 q5 q6 q7); obtain ⟨p0, p1, p2, p3, p4, p5, p6, p7⟩ := k1.eight; obtain ⟨q0, q1, q2, q3, q4, q5, q6, q7⟩ := k2.eight))
    go_ret
    exact ⟨rfl, bc⟩
  have d_L : (L != L2) = false := by simpa using e_L
  rw [show decide (L = L2) = true by simpa using e_L, Bool.true_and] at hR
  clear e_L
  cases zc with
  | false =>
    obtain rfl : R = false := by rw [hR]; rfl
    clear hR
    go_enter Tryd.func11, Tryd.ntmps11
    go_wp2_with (first
      | (go_at_call 27; with_reducible refine (H0.out _ bc).mono ?_; rintro e w1 ⟨rfl, hC⟩; replace k1 := k1.on hC; replace k2 := k2.on hC; replace bc := bc.trans (hC.mono bc.size); clear hC; (try clear p0 p1 p2 p3 p4 p5 p6 p7 q0 q1 q2 q3 q4 q5 q6 q7); obtain ⟨p0, p1, p2, p3, p4, p5, p6, p7⟩ := k1.eight; obtain ⟨q0, q1, q2, q3, q4, q5, q6, q7⟩ := k2.eight))
    go_ret
    exact ⟨rfl, bc⟩
  | true =>
    obtain rfl : R = zs := by rw [hR]; rfl
    clear hR
    by_cases hl : ns = ms2
    rotate_left
    · have d0 : ((ns : Int) != (ms2 : Int)) = true := by simp; omega
      obtain rfl : R = false := by rw [HZS.out]; have h1 := HSN.out; have h2 := HSM.out; exact os_len (by omega)
      clear hl hsm hsm2
      go_enter Tryd.func11, Tryd.ntmps11
      go_wp2_with (first
        | (go_at_call 27; with_reducible refine (H0.out _ bc).mono ?_; rintro e w1 ⟨rfl, hC⟩; replace k1 := k1.on hC; replace k2 := k2.on hC; replace bc := bc.trans (hC.mono bc.size); clear hC; (try clear p0 p1 p2 p3 p4 p5 p6 p7 q0 q1 q2 q3 q4 q5 q6 q7); obtain ⟨p0, p1, p2, p3, p4, p5, p6, p7⟩ := k1.eight; obtain ⟨q0, q1, q2, q3, q4, q5, q6, q7⟩ := k2.eight))
      go_ret
      exact ⟨rfl, bc⟩
    subst hl
    clear hsm2
    unfold maxLen at hsm
    go_enter Tryd.func11, Tryd.ntmps11
    go_wp2_with (first
      | (go_at_call 27; with_reducible refine (H0.out _ bc).mono ?_; rintro e w1 ⟨rfl, hC⟩; replace k1 := k1.on hC; replace k2 := k2.on hC; replace bc := bc.trans (hC.mono bc.size); clear hC; (try clear p0 p1 p2 p3 p4 p5 p6 p7 q0 q1 q2 q3 q4 q5 q6 q7); obtain ⟨p0, p1, p2, p3, p4, p5, p6, p7⟩ := k1.eight; obtain ⟨q0, q1, q2, q3, q4, q5, q6, q7⟩ := k2.eight))
    clear d_N d_S d_G d_W d_D d_L H0 p0 p1 p2 p3 p4 p5 p6 p7 q0 q1 q2 q3 q4 q5 q6 q7
    go_loopw [5] (fun i wr => ∃ k : Nat, k ≤ ns ∧ i = .int .i64 k ∧ ((List.range k).all fun i => sameO (ms[i]?.getD ⟨[], [], []⟩) (mt[i]?.getD ⟨[], [], []⟩)) = true ∧ Below w1.heap.size w1 wr) (fun i _ => ns - (intOf i).toNat)
    case atStart => exact ⟨0, by omega, rfl, rfl, Below.refl _ _⟩
    case round =>
      obtain ⟨k, hk, rfl, hs, hBr⟩ := hrel
      have HS := Lib.hid hs; clear hs
      replace k1 := k1.on hBr; replace k2 := k2.on hBr; replace bc := bc.trans (hBr.mono bc.size)
      obtain ⟨p0, p1, p2, p3, p4, p5, p6, p7⟩ := k1.eight; obtain ⟨q0, q1, q2, q3, q4, q5, q6, q7⟩ := k2.eight
      by_cases hlt : k < ns
      · have hkl : k < ms.length := by have := HSN.out; omega
        have hkm : k < mt.length := by have := HSM.out; omega
        obtain ⟨o, ho⟩ : ∃ o, ms[k]? = some o := ⟨ms[k], List.getElem?_eq_getElem hkl⟩
        obtain ⟨p, hp⟩ : ∃ p, mt[k]? = some p := ⟨mt[k], List.getElem?_eq_getElem hkm⟩
        obtain ⟨b, off, e1, hbs, v, hc0, hc1, hc2, hv⟩ := (HA.out.on bc).sb.at_ ho
        obtain ⟨b', off', e2, hbs', u, he0, he1, he2, hu⟩ := (HB.out.on bc).sb.at_ hp
        dsimp only at e1 e2
        subst e1; subst e2
        have hs2 := os_snoc HS.out ho hp
        have hn2 := os_not ho hp
        have g0 := fun W (h : Below wr.heap.size wr W) => rsameI_any v.d.A u.d.A v.d.n u.d.n v.d.c u.d.c o.d p.d W hv.dn hu.dn hv.dm hu.dm ((hv.d.below h).mono h.size) ((hu.d.below h).mono h.size)
        have g1 := fun W (h : Below wr.heap.size wr W) => rsameB_any v.x.A u.x.A v.x.n u.x.n v.x.c u.x.c o.x p.x W hv.xn hu.xn hv.xm hu.xm ((hv.x.below h).mono h.size) ((hu.x.below h).mono h.size)
        have g2 := fun W (h : Below wr.heap.size wr W) => rsameB_any v.n.A u.n.A v.n.n u.n.n v.n.c u.n.c o.n p.n W hv.nn hu.nn hv.nm hu.nm ((hv.n.below h).mono h.size) ((hu.n.below h).mono h.size)
        unfold sameO at hs2 hn2
        obtain ⟨z0, hz0⟩ : ∃ z, z = decide (o.d = p.d) := ⟨_, rfl⟩
        rw [← hz0] at hs2 hn2 g0
        clear hz0
        obtain ⟨z1, hz1⟩ : ∃ z, z = decide (o.x = p.x) := ⟨_, rfl⟩
        rw [← hz1] at hs2 hn2 g1
        clear hz1
        obtain ⟨z2, hz2⟩ : ∃ z, z = decide (o.n = p.n) := ⟨_, rfl⟩
        rw [← hz2] at hs2 hn2 g2
        clear hz2
        have HS2 := Lib.hid hs2; have HN2 := Lib.hid hn2; have G0 := Lib.hid g0; have G1 := Lib.hid g1; have G2 := Lib.hid g2; clear hs2 hn2 g0 g1 g2 hv hu hkl hkm ho hp
        obtain ⟨⟨Ad, nd, cd⟩, ⟨Ax, nx, cx⟩, ⟨An, nn, cn⟩⟩ := v
        obtain ⟨⟨Bd, md, dd⟩, ⟨Bx, mx, dx⟩, ⟨Bn, mn, dn⟩⟩ := u
        dsimp only [vO] at *
        replace G0 := Lib.hid G0.out
        replace G1 := Lib.hid G1.out
        replace G2 := Lib.hid G2.out
        go_wp2_with fail
        clear p0 p1 p2 p3 p4 p5 p6 q0 q1 q2 q3 q4 q5 q6
        have l1 := k1.lt; have l2 := k2.lt
        go_big_region
        · obtain ⟨k3, k4, bd⟩ := bx2 wr #[.slice Ad nd cd, .slice Ax nx cx, .slice An nn cn] #[.slice Bd md dd, .slice Bx mx dx, .slice Bn mn dn] 46 46
          have hdr : Below ((wr.alloc (.cells #[.slice Ad nd cd, .slice Ax nx cx, .slice An nn cn] 46)).alloc (.cells #[.slice Bd md dd, .slice Bx mx dx, .slice Bn mn dn] 46)).heap.size ((wr.alloc (.cells #[.slice Ad nd cd, .slice Ax nx cx, .slice An nn cn] 46)).alloc (.cells #[.slice Bd md dd, .slice Bx mx dx, .slice Bn mn dn] 46)) ((wr.alloc (.cells #[.slice Ad nd cd, .slice Ax nx cx, .slice An nn cn] 46)).alloc (.cells #[.slice Bd md dd, .slice Bx mx dx, .slice Bn mn dn] 46)).drew := (Below.refl _ _).drew
          replace k3 := k3.on hdr; replace k4 := k4.on hdr; replace bd := bd.trans (hdr.mono bd.size); clear hdr p7 q7 hc0 hc1 hc2 he0 he1 he2
          cases z0 <;> cases z1 <;> cases z2
          rotate_right
          · go_wp2_with (first
                      | (go_at_call 28; with_reducible refine (G0.out _ bd).mono ?_; rintro e w2 ⟨rfl, hC⟩; replace k3 := k3.on hC; replace k4 := k4.on hC; replace bd := bd.trans (hC.mono bd.size); clear hC; (try clear t0 t1 t2 t3 t4 t5); obtain ⟨t0, t1, t2, -⟩ := k3.three; obtain ⟨t3, t4, t5, -⟩ := k4.three)
                      | (go_at_call 27; with_reducible refine (G1.out _ bd).mono ?_; rintro e w2 ⟨rfl, hC⟩; replace k3 := k3.on hC; replace k4 := k4.on hC; replace bd := bd.trans (hC.mono bd.size); clear hC; (try clear t0 t1 t2 t3 t4 t5); obtain ⟨t0, t1, t2, -⟩ := k3.three; obtain ⟨t3, t4, t5, -⟩ := k4.three)
                      | (go_at_call 27; with_reducible refine (G2.out _ bd).mono ?_; rintro e w2 ⟨rfl, hC⟩; replace k3 := k3.on hC; replace k4 := k4.on hC; replace bd := bd.trans (hC.mono bd.size); clear hC; (try clear t0 t1 t2 t3 t4 t5); obtain ⟨t0, t1, t2, -⟩ := k3.three; obtain ⟨t3, t4, t5, -⟩ := k4.three))
            go_roundw
            case rel => exact ⟨k + 1, by omega, by go_num, HS2.out, hBr.trans (bd.mono hBr.size)⟩
            case measure => simp [intOf]; omega
          all_goals
            obtain rfl : R = false := HZS.out.trans (HN2.out rfl)
            go_wp2_with (first
                          | (go_at_call 28; with_reducible refine (G0.out _ bd).mono ?_; rintro e w2 ⟨rfl, hC⟩; replace k3 := k3.on hC; replace k4 := k4.on hC; replace bd := bd.trans (hC.mono bd.size); clear hC; (try clear t0 t1 t2 t3 t4 t5); obtain ⟨t0, t1, t2, -⟩ := k3.three; obtain ⟨t3, t4, t5, -⟩ := k4.three)
                          | (go_at_call 27; with_reducible refine (G1.out _ bd).mono ?_; rintro e w2 ⟨rfl, hC⟩; replace k3 := k3.on hC; replace k4 := k4.on hC; replace bd := bd.trans (hC.mono bd.size); clear hC; (try clear t0 t1 t2 t3 t4 t5); obtain ⟨t0, t1, t2, -⟩ := k3.three; obtain ⟨t3, t4, t5, -⟩ := k4.three)
                          | (go_at_call 27; with_reducible refine (G2.out _ bd).mono ?_; rintro e w2 ⟨rfl, hC⟩; replace k3 := k3.on hC; replace k4 := k4.on hC; replace bd := bd.trans (hC.mono bd.size); clear hC; (try clear t0 t1 t2 t3 t4 t5); obtain ⟨t0, t1, t2, -⟩ := k3.three; obtain ⟨t3, t4, t5, -⟩ := k4.three))
            go_ret
            exact ⟨rfl, bc.trans (bd.mono bc.size)⟩
        · obtain ⟨k3, k4, bd⟩ := bx2 wr #[.slice Bd md dd, .slice Bx mx dx, .slice Bn mn dn] #[.slice Ad nd cd, .slice Ax nx cx, .slice An nn cn] 46 46
          have hdr : Below ((wr.alloc (.cells #[.slice Bd md dd, .slice Bx mx dx, .slice Bn mn dn] 46)).alloc (.cells #[.slice Ad nd cd, .slice Ax nx cx, .slice An nn cn] 46)).heap.size ((wr.alloc (.cells #[.slice Bd md dd, .slice Bx mx dx, .slice Bn mn dn] 46)).alloc (.cells #[.slice Ad nd cd, .slice Ax nx cx, .slice An nn cn] 46)) ((wr.alloc (.cells #[.slice Bd md dd, .slice Bx mx dx, .slice Bn mn dn] 46)).alloc (.cells #[.slice Ad nd cd, .slice Ax nx cx, .slice An nn cn] 46)).drew := (Below.refl _ _).drew
          replace k3 := k3.on hdr; replace k4 := k4.on hdr; replace bd := bd.trans (hdr.mono bd.size); clear hdr p7 q7 hc0 hc1 hc2 he0 he1 he2
          cases z0 <;> cases z1 <;> cases z2
          rotate_right
          · go_wp2_with (first
                      | (go_at_call 28; with_reducible refine (G0.out _ bd).mono ?_; rintro e w2 ⟨rfl, hC⟩; replace k3 := k3.on hC; replace k4 := k4.on hC; replace bd := bd.trans (hC.mono bd.size); clear hC; (try clear t0 t1 t2 t3 t4 t5); obtain ⟨t0, t1, t2, -⟩ := k3.three; obtain ⟨t3, t4, t5, -⟩ := k4.three)
                      | (go_at_call 27; with_reducible refine (G1.out _ bd).mono ?_; rintro e w2 ⟨rfl, hC⟩; replace k3 := k3.on hC; replace k4 := k4.on hC; replace bd := bd.trans (hC.mono bd.size); clear hC; (try clear t0 t1 t2 t3 t4 t5); obtain ⟨t0, t1, t2, -⟩ := k3.three; obtain ⟨t3, t4, t5, -⟩ := k4.three)
                      | (go_at_call 27; with_reducible refine (G2.out _ bd).mono ?_; rintro e w2 ⟨rfl, hC⟩; replace k3 := k3.on hC; replace k4 := k4.on hC; replace bd := bd.trans (hC.mono bd.size); clear hC; (try clear t0 t1 t2 t3 t4 t5); obtain ⟨t0, t1, t2, -⟩ := k3.three; obtain ⟨t3, t4, t5, -⟩ := k4.three))
            go_roundw
            case rel => exact ⟨k + 1, by omega, by go_num, HS2.out, hBr.trans (bd.mono hBr.size)⟩
            case measure => simp [intOf]; omega
          all_goals
            obtain rfl : R = false := HZS.out.trans (HN2.out rfl)
            go_wp2_with (first
                          | (go_at_call 28; with_reducible refine (G0.out _ bd).mono ?_; rintro e w2 ⟨rfl, hC⟩; replace k3 := k3.on hC; replace k4 := k4.on hC; replace bd := bd.trans (hC.mono bd.size); clear hC; (try clear t0 t1 t2 t3 t4 t5); obtain ⟨t0, t1, t2, -⟩ := k3.three; obtain ⟨t3, t4, t5, -⟩ := k4.three)
                          | (go_at_call 27; with_reducible refine (G1.out _ bd).mono ?_; rintro e w2 ⟨rfl, hC⟩; replace k3 := k3.on hC; replace k4 := k4.on hC; replace bd := bd.trans (hC.mono bd.size); clear hC; (try clear t0 t1 t2 t3 t4 t5); obtain ⟨t0, t1, t2, -⟩ := k3.three; obtain ⟨t3, t4, t5, -⟩ := k4.three)
                          | (go_at_call 27; with_reducible refine (G2.out _ bd).mono ?_; rintro e w2 ⟨rfl, hC⟩; replace k3 := k3.on hC; replace k4 := k4.on hC; replace bd := bd.trans (hC.mono bd.size); clear hC; (try clear t0 t1 t2 t3 t4 t5); obtain ⟨t0, t1, t2, -⟩ := k3.three; obtain ⟨t3, t4, t5, -⟩ := k4.three))
            go_ret
            exact ⟨rfl, bc.trans (bd.mono bc.size)⟩
      · obtain rfl : R = true := by
          rw [HZS.out]; have h1 := HSN.out; have h2 := HSM.out; have h3 := HS.out; rw [show k = ms.length by omega] at h3; exact os_yes (by omega) h3
        go_wp2
        go_ret
        exact ⟨rfl, bc⟩
end Go.Proofs.YtnmaelefcohogaaDoor
