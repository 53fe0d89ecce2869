/-
  The law of two clocks that go on: they come apart by no more than twice the drift. Conditions: what the program's functions answer. (Printed by tools/gen13h.py; laid ahead.)
-/
import Derived.Test.YtlkmipcenlhacaaLG
import Derived.BigQuiet
namespace Go.Proofs.Ytlkmipcenlhacaa
open Go.RowKit

theorem nextK_ok {m : ML} {k : Ck} {d : Int} (h : (nextK m k d).1 = 0) : (okM m ∧ okCk m.W k) ∧ (-m.D ≤ d ∧ d ≤ m.D) ∧ nextK m k d = (0, goneK m k d) := by
  unfold nextK at h ⊢
  by_cases h1 : chkK m k = 0
  · rw [if_pos h1] at h ⊢
    by_cases h2 : -m.D ≤ d ∧ d ≤ m.D
    · rw [if_pos h2] at h ⊢
      by_cases h3 : okCk m.W (goneK m k d)
      · rw [if_pos h3]; exact ⟨chkK_zero.1 h1, h2, rfl⟩
      · rw [if_neg h3] at h; exact absurd h (by decide)
    · rw [if_neg h2] at h; exact absurd h (by decide)
  · rw [if_neg h1] at h; exact absurd h h1
theorem goneK_sl (m : ML) (k : Ck) (d : Int) : (goneK m k d).sl = k.sl + 1 := by unfold goneK; split <;> rfl
theorem goneK_st {m : ML} {k : Ck} {d : Int} (h : ¬ (k.sl + 1) % m.N = 0) : (goneK m k d).st = k.st + m.S + d := by unfold goneK; rw [if_neg h]
theorem CkOk.slot {n₀ : Nat} {W : World} {k : Ck} {v : Slc} (h : CkOk n₀ W k v) (s : Int) : CkOk n₀ W ⟨k.st, s, k.dv⟩ v := ⟨h.d, h.dn, h.dc, h.dm, h.dz⟩

set_option maxRecDepth 100000 in
set_option maxHeartbeats 4000000 in
theorem apart_law (hS : ClkSendC) (hW : ClkWindowC) (hC : ClkCorrectC) (hN : ClkNextC) (m : ML) (c s : Slc) (k : Ck) (v : Slc) (r : Ck) (u : Slc) (p q : Int) (w : World) (hM : Med w m c s) (hk : CkOk w.heap.size w k v) (hr : CkOk w.heap.size w r u) : Calls Try.prog 6 #[vM m c s, .agg (cK k v), .agg (cK r u), .int .i64 p, .int .i64 q] w fun e w' => e = .returned (.bool true) ∧ Below w.heap.size w w' := by
  have h0 := fun U => begun13_any hS hW hC U
  have hn1 := fun U (hb : Below w.heap.size w U) => hN m c s k v p U (hM.on hb) (hk.on hb)
  have hn2 := fun U (hb : Below w.heap.size w U) => hN m c s ⟨r.st, k.sl, r.dv⟩ u q U (hM.on hb) ((hr.on hb).slot k.sl)
  have o1 := fun h => nextK_ok (m := m) (k := k) (d := p) h
  have o2 := fun h => nextK_ok (m := m) (k := ⟨r.st, k.sl, r.dv⟩) (d := q) h
  unfold ResCk at hn1 hn2
  have hbn := fun h => okM_nums (m := m) h
  have gs := goneK_sl m k p
  have gt1 := fun h => goneK_st (m := m) (k := k) (d := p) h
  have gt2 := fun h => goneK_st (m := m) (k := ⟨r.st, k.sl, r.dv⟩) (d := q) h
  dsimp only at gt2
  generalize nextK m k p = R1 at *
  generalize nextK m ⟨r.st, k.sl, r.dv⟩ q = R2 at *
  generalize goneK m k p = G1 at *
  generalize goneK m ⟨r.st, k.sl, r.dv⟩ q = G2 at *
  clear hM hk hr hS hW hC hN
  obtain ⟨N, S, G, W, D, L, cold, ms⟩ := m
  obtain ⟨Ac, nc, cc⟩ := c
  obtain ⟨As, ns, cs⟩ := s
  obtain ⟨st, sl, dv⟩ := k
  obtain ⟨A, n, c⟩ := v
  obtain ⟨st2, sl2, dv2⟩ := r
  obtain ⟨A2, n2, c2⟩ := u
  obtain ⟨e1, ⟨xst, xsl, xdv⟩⟩ := R1
  obtain ⟨e2, ⟨yst, ysl, ydv⟩⟩ := R2
  dsimp only [vM, cK] at *
  have H0 := Lib.hid h0; have HN1 := Lib.hid hn1; have HN2 := Lib.hid hn2; have O1 := Lib.hid o1; have O2 := Lib.hid o2; have HBN := Lib.hid hbn; have GS := Lib.hid gs; have GT1 := Lib.hid gt1; have GT2 := Lib.hid gt2
  clear h0 hn1 hn2 o1 o2 hbn gs gt1 gt2
  obtain ⟨km, ka, kb, bc⟩ := bx3 w #[.int .i64 N, .int .i64 S, .int .i64 G, .int .i64 W, .int .i64 D, .int .i64 L, .slice Ac nc cc, .slice As ns cs] #[.int .i64 st, .int .i64 sl, .slice A n c] #[.int .i64 st2, .int .i64 sl2, .slice A2 n2 c2] 25 28 28
  obtain ⟨p0, p1, p2, p3, p4, p5, p6, p7⟩ := km.eight; obtain ⟨q0, q1, q2, -⟩ := ka.three; obtain ⟨s0, s1, s2, f0, f1, f2⟩ := kb.three
  go_enter Try.func6, Try.ntmps6
  go_upto_region 2 with fail
  (try clear p0 p1 p2 p3 p4 p5 p6 p7); (try clear q0 q1 q2); (try clear s0 s1 s2 f0 f1 f2)
  clear km ka kb bc
  obtain ⟨km, ka, kb, bc⟩ := bx3 w #[.int .i64 N, .int .i64 S, .int .i64 G, .int .i64 W, .int .i64 D, .int .i64 L, .slice Ac nc cc, .slice As ns cs] #[.int .i64 st, .int .i64 sl, .slice A n c] #[.int .i64 st2, .int .i64 sl, .slice A2 n2 c2] 25 28 28
  generalize ((w.alloc (.cells #[.int .i64 N, .int .i64 S, .int .i64 G, .int .i64 W, .int .i64 D, .int .i64 L, .slice Ac nc cc, .slice As ns cs] 25)).alloc (.cells #[.int .i64 st, .int .i64 sl, .slice A n c] 28)).alloc (.cells #[.int .i64 st2, .int .i64 sl, .slice A2 n2 c2] 28) = u1 at *
  obtain ⟨p0, p1, p2, p3, p4, p5, p6, p7⟩ := km.eight; obtain ⟨q0, q1, q2, -⟩ := ka.three; obtain ⟨s0, s1, s2, f0, f1, f2⟩ := kb.three
  go_upto_region 3 with (first | (go_at_call 25; refine (HN1.out _ bc).mono ?_; rintro e w1 ⟨⟨xA, xn, xc⟩, rfl, -, hC⟩; dsimp only [cK]; (try clear p0 p1 p2 p3 p4 p5 p6 p7); (try clear q0 q1 q2); (try clear s0 s1 s2 f0 f1 f2); replace km := km.on hC; replace ka := ka.on hC; replace kb := kb.on hC; replace bc := bc.trans (hC.mono bc.size); clear hC; obtain ⟨p0, p1, p2, p3, p4, p5, p6, p7⟩ := km.eight; obtain ⟨q0, q1, q2, -⟩ := ka.three; obtain ⟨s0, s1, s2, f0, f1, f2⟩ := kb.three))
  have kx := Blk.new w1 28 #[.int .i64 xst, .int .i64 xsl, .slice xA xn xc]
  have al := Below.al w1 (.cells #[.int .i64 xst, .int .i64 xsl, .slice xA xn xc] 28)
  (try clear p0 p1 p2 p3 p4 p5 p6 p7); (try clear q0 q1 q2); (try clear s0 s1 s2 f0 f1 f2)
  replace km := km.on al; replace ka := ka.on al; replace kb := kb.on al; replace bc := bc.trans (al.mono bc.size); clear al
  generalize w1.alloc (.cells #[.int .i64 xst, .int .i64 xsl, .slice xA xn xc] 28) = ukx at *
  generalize w1.heap.size = gkx at *
  clear w1
  obtain ⟨p0, p1, p2, p3, p4, p5, p6, p7⟩ := km.eight; obtain ⟨q0, q1, q2, -⟩ := ka.three; obtain ⟨s0, s1, s2, f0, f1, f2⟩ := kb.three
  obtain ⟨x0, x1, x2, -⟩ := kx.three
  go_upto_region 4 with (first | (go_at_call 25; refine (HN2.out _ bc).mono ?_; rintro e w1 ⟨⟨yA, yn, yc⟩, rfl, -, hC⟩; dsimp only [cK]; (try clear p0 p1 p2 p3 p4 p5 p6 p7); (try clear q0 q1 q2); (try clear s0 s1 s2 f0 f1 f2); replace km := km.on hC; replace ka := ka.on hC; replace kb := kb.on hC; replace bc := bc.trans (hC.mono bc.size); have hC2 := hC; clear hC; obtain ⟨p0, p1, p2, p3, p4, p5, p6, p7⟩ := km.eight; obtain ⟨q0, q1, q2, -⟩ := ka.three; obtain ⟨s0, s1, s2, f0, f1, f2⟩ := kb.three; (try clear x0 x1 x2); replace kx := kx.on hC2; obtain ⟨x0, x1, x2, -⟩ := kx.three))
  clear hC2
  have ky := Blk.new w1 28 #[.int .i64 yst, .int .i64 ysl, .slice yA yn yc]
  have al := Below.al w1 (.cells #[.int .i64 yst, .int .i64 ysl, .slice yA yn yc] 28)
  (try clear p0 p1 p2 p3 p4 p5 p6 p7); (try clear q0 q1 q2); (try clear s0 s1 s2 f0 f1 f2); (try clear x0 x1 x2)
  replace km := km.on al; replace ka := ka.on al; replace kb := kb.on al; replace kx := kx.on al; replace bc := bc.trans (al.mono bc.size); clear al
  generalize w1.alloc (.cells #[.int .i64 yst, .int .i64 ysl, .slice yA yn yc] 28) = uky at *
  generalize w1.heap.size = gky at *
  clear w1
  obtain ⟨p0, p1, p2, p3, p4, p5, p6, p7⟩ := km.eight; obtain ⟨q0, q1, q2, -⟩ := ka.three; obtain ⟨s0, s1, s2, f0, f1, f2⟩ := kb.three
  obtain ⟨x0, x1, x2, -⟩ := kx.three
  obtain ⟨y0, y1, y2, -⟩ := ky.three
  by_cases he1 : e1 = 0
  rotate_left
  · have d1 : (e1 != 0) = true := by simpa using he1
    go_wp2_with (first | (go_at_call 11; refine (H0.out _).mono ?_; rintro e w2 ⟨rfl, hC⟩; dsimp only; have hC2 := hC; (try clear p0 p1 p2 p3 p4 p5 p6 p7); (try clear q0 q1 q2); (try clear s0 s1 s2 f0 f1 f2); replace km := km.on hC; replace ka := ka.on hC; replace kb := kb.on hC; replace bc := bc.trans (hC.mono bc.size); clear hC; obtain ⟨p0, p1, p2, p3, p4, p5, p6, p7⟩ := km.eight; obtain ⟨q0, q1, q2, -⟩ := ka.three; obtain ⟨s0, s1, s2, f0, f1, f2⟩ := kb.three; (try clear x0 x1 x2 y0 y1 y2); replace kx := kx.on hC2; replace ky := ky.on hC2; clear hC2; obtain ⟨x0, x1, x2, -⟩ := kx.three; obtain ⟨y0, y1, y2, -⟩ := ky.three))
    go_ret
    exact ⟨rfl, bc⟩
  subst he1
  by_cases he2 : e2 = 0
  rotate_left
  · have d1 : (e2 != 0) = true := by simpa using he2
    go_wp2_with (first | (go_at_call 11; refine (H0.out _).mono ?_; rintro e w2 ⟨rfl, hC⟩; dsimp only; have hC2 := hC; (try clear p0 p1 p2 p3 p4 p5 p6 p7); (try clear q0 q1 q2); (try clear s0 s1 s2 f0 f1 f2); replace km := km.on hC; replace ka := ka.on hC; replace kb := kb.on hC; replace bc := bc.trans (hC.mono bc.size); clear hC; obtain ⟨p0, p1, p2, p3, p4, p5, p6, p7⟩ := km.eight; obtain ⟨q0, q1, q2, -⟩ := ka.three; obtain ⟨s0, s1, s2, f0, f1, f2⟩ := kb.three; (try clear x0 x1 x2 y0 y1 y2); replace kx := kx.on hC2; replace ky := ky.on hC2; clear hC2; obtain ⟨x0, x1, x2, -⟩ := kx.three; obtain ⟨y0, y1, y2, -⟩ := ky.three))
    go_ret
    exact ⟨rfl, bc⟩
  subst he2
  obtain ⟨⟨hok, ⟨⟨a0, a1⟩, a2, a3⟩, -⟩, hp, hx⟩ := O1.out rfl
  obtain ⟨⟨-, ⟨⟨b0, b1⟩, -⟩, -⟩, hq, hy⟩ := O2.out rfl
  obtain ⟨⟨n4, n8⟩, ⟨d0, d64⟩, -, -, -, ⟨-, s9⟩, -⟩ := HBN.out hok
  injection hx with _ hx
  injection hy with _ hy
  dsimp only at a0 a1 a2 a3 b0 b1 n4 n8 d0 d64 s9 hp hq
  have hxs : xsl = sl + 1 := by have := GS.out; rw [← hx] at this; exact this
  subst hxs
  have ht : (sl + 1).tmod N = (sl + 1) % N := Int.tmod_eq_emod_of_nonneg (by omega)
  by_cases hz : (sl + 1) % N = 0
  · have dz : ((sl + 1).tmod N == 0) = true := by rw [ht]; simpa using hz
    have hnn : (N == 0) = false := by simp; omega
    clear ht
    go_wp2_with (first | (go_at_call 11; refine (H0.out _).mono ?_; rintro e w2 ⟨rfl, hC⟩; dsimp only; have hC2 := hC; (try clear p0 p1 p2 p3 p4 p5 p6 p7); (try clear q0 q1 q2); (try clear s0 s1 s2 f0 f1 f2); replace km := km.on hC; replace ka := ka.on hC; replace kb := kb.on hC; replace bc := bc.trans (hC.mono bc.size); clear hC; obtain ⟨p0, p1, p2, p3, p4, p5, p6, p7⟩ := km.eight; obtain ⟨q0, q1, q2, -⟩ := ka.three; obtain ⟨s0, s1, s2, f0, f1, f2⟩ := kb.three; (try clear x0 x1 x2 y0 y1 y2); replace kx := kx.on hC2; replace ky := ky.on hC2; clear hC2; obtain ⟨x0, x1, x2, -⟩ := kx.three; obtain ⟨y0, y1, y2, -⟩ := ky.three))
    go_ret
    exact ⟨rfl, bc⟩
  have dz : ((sl + 1).tmod N == 0) = false := by rw [ht]; simpa using hz
  have hnn : (N == 0) = false := by simp; omega
  have t1 := GT1.out hz
  have t2 := GT2.out hz
  rw [← hx] at t1
  rw [← hy] at t2
  dsimp only at t1 t2
  clear ht
  have e5 : IntKind.i64.wrap (2 * D) = 2 * D := IntWalk.i64_in _ (by omega)
  have e1 : IntKind.i64.wrap (st - st2) = st - st2 := IntWalk.i64_in _ (by omega)
  have e2 : IntKind.i64.wrap (xst - yst) = xst - yst := IntWalk.i64_in _ (by omega)
  have e3 : IntKind.i64.wrap (xst - yst - (st - st2)) = xst - yst - (st - st2) := IntWalk.i64_in _ (by omega)
  have e4 : IntKind.i64.wrap (st - st2 - (xst - yst)) = st - st2 - (xst - yst) := IntWalk.i64_in _ (by omega)
  have hd : xst - yst - (st - st2) ≤ 2 * D ∧ st - st2 - (xst - yst) ≤ 2 * D := by omega
  have HD := Lib.hid hd
  clear hd t1 t2 hp hq hx hy a0 a1 a2 a3 b0 b1 n8 d0 d64 s9 hz
  have hN0 : ¬ N = 0 := by omega
  go_upto_region 6 with (first | (go_at_call 11; refine (H0.out _).mono ?_; rintro e w2 ⟨rfl, hC⟩; dsimp only; have hC2 := hC; (try clear p0 p1 p2 p3 p4 p5 p6 p7); (try clear q0 q1 q2); (try clear s0 s1 s2 f0 f1 f2); replace km := km.on hC; replace ka := ka.on hC; replace kb := kb.on hC; replace bc := bc.trans (hC.mono bc.size); clear hC; obtain ⟨p0, p1, p2, p3, p4, p5, p6, p7⟩ := km.eight; obtain ⟨q0, q1, q2, -⟩ := ka.three; obtain ⟨s0, s1, s2, f0, f1, f2⟩ := kb.three; (try clear x0 x1 x2 y0 y1 y2); replace kx := kx.on hC2; replace ky := ky.on hC2; clear hC2; obtain ⟨x0, x1, x2, -⟩ := kx.three; obtain ⟨y0, y1, y2, -⟩ := ky.three))
  go_wp2_with fail
  go_quiet (fail)
  go_upto_region 7 with fail
  have hd := HD.out
  by_cases c1 : xst - yst - (st - st2) < st - st2 - (xst - yst)
  · have f1 : decide (xst - yst - (st - st2) < st - st2 - (xst - yst)) = true := by simpa using c1
    have f2 : decide (st - st2 - (xst - yst) ≤ 2 * D) = true := by simpa using hd.2
    clear hd
    go_wp2
    go_ret
    exact ⟨rfl, by first | exact bc | exact below_drewN bc _ | exact bc.drew⟩
  · have f1 : decide (xst - yst - (st - st2) < st - st2 - (xst - yst)) = false := by simpa using c1
    have f2 : decide (xst - yst - (st - st2) ≤ 2 * D) = true := by simpa using hd.1
    clear hd
    go_wp2
    go_ret
    exact ⟨rfl, by first | exact bc | exact below_drewN bc _ | exact bc.drew⟩
end Go.Proofs.Ytlkmipcenlhacaa
