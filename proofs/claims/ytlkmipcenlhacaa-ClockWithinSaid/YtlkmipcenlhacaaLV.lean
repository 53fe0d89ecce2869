/-
  Next of package clock. Conditions: a list and a clock that can be read. (Printed by tools/gen13v.py.)
-/
import Derived.Test.YtlkmipcenlhacaaLU
import Derived.Test.YtlkmipcenlhacaaLM
namespace Go.Proofs.Ytlkmipcenlhacaa
open Go.RowKit

set_option maxRecDepth 100000 in
set_option maxHeartbeats 4000000 in
theorem next13 : ClkNextC := by
  intro m c s k v x w hM hk
  have hck := fun U (hb : Below w.heap.size w U) => check13 m c s k v U (hM.on hb) (hk.on hb)
  have hla := fun hW ho U (hb : Below w.heap.size w U) => late_any m.W k v U hW ho (hk.on hb)
  have hcp := fun U (hb : Below w.heap.size w U) (h : v.n ≤ 1000) => copied_any v.A v.n v.c k.dv U hk.dn h ((hk.d.below hb).mono hb.size)
  have hmz := fun hW (a b : Int) U => made_any m c s ⟨a, b, []⟩ ⟨none, 0, 0⟩ U hW (CkOk.zero _ _ _ _)
  have hmv := fun hW (a b : Int) A' n' c' U (h : CkOk U.heap.size U ⟨a, b, k.dv⟩ ⟨A', n', c'⟩) => made_any m c s ⟨a, b, k.dv⟩ ⟨A', n', c'⟩ U hW h
  have qA : ¬ chkK m k = 0 → nextK m k x = (chkK m k, zeroCk) := fun h => by unfold nextK; rw [if_neg h]
  have qC : chkK m k = 0 → ¬ (-m.D ≤ x ∧ x ≤ m.D) → nextK m k x = (2, zeroCk) := fun h h2 => by unfold nextK; rw [if_pos h, if_neg h2]
  have qD : chkK m k = 0 → (-m.D ≤ x ∧ x ≤ m.D) → ¬ okCk m.W (goneK m k x) → nextK m k x = (130, zeroCk) := fun h h2 h3 => by unfold nextK; rw [if_pos h, if_pos h2, if_neg h3]
  have qE : chkK m k = 0 → (-m.D ≤ x ∧ x ≤ m.D) → okCk m.W (goneK m k x) → nextK m k x = (0, goneK m k x) := fun h h2 h3 => by unfold nextK; rw [if_pos h, if_pos h2, if_pos h3]
  have hz1 : chkK m k = 0 → okM m ∧ okCk m.W k := chkK_zero.1
  have hby : okM m → okCk m.W k → -m.W ≤ byK k ∧ byK k ≤ m.W := fun h h2 => byK_in h2 (by have := (okM_nums h).2.2.2.1.1; omega)
  have hbn := fun h => okM_nums (m := m) h
  have ge := fun h => gone_end (m := m) (k := k) (d := x) h
  have go_ := fun h => gone_on (m := m) (k := k) (d := x) h
  unfold ResCk
  generalize nextK m k x = RR at *
  generalize goneK m k x = GG at *
  generalize byK k = by_ at *
  obtain ⟨ck, hcke⟩ : ∃ ck, ck = chkK m k := ⟨_, rfl⟩
  rw [← hcke] at hck qA qC qD qE hz1
  clear hcke hM
  obtain ⟨hd, hdn, hdc, hdm, hdz⟩ := hk
  clear hd hdz hdc hdm
  obtain ⟨N, S, G, W, D, L, cold, ms⟩ := m
  obtain ⟨Ac, nc, cc⟩ := c
  obtain ⟨As, ns, cs⟩ := s
  obtain ⟨st, sl, dv⟩ := k
  obtain ⟨A, n, c⟩ := v
  dsimp only [vM, cK] at *
  have HDN := Lib.hid hdn; have HCK := Lib.hid hck; have GE := Lib.hid ge; have GO := Lib.hid go_; clear hdn hck ge go_
  obtain ⟨km, kc, kr, bc⟩ := bx3 w #[.int .i64 N, .int .i64 S, .int .i64 G, .int .i64 W, .int .i64 D, .int .i64 L, .slice Ac nc cc, .slice As ns cs] #[.int .i64 st, .int .i64 sl, .slice A n c] #[.int .i64 0, .int .i64 0, .slice none 0 0] 25 28 28
  obtain ⟨p0, p1, p2, p3, p4, p5, p6, p7⟩ := km.eight; obtain ⟨q0, q1, q2, -⟩ := kc.three; obtain ⟨r0, r1, r2, g0, g1, g2⟩ := kr.three
  by_cases h0 : ck = 0
  rotate_left
  · obtain rfl := qA h0
    have d0 : (ck != 0) = true := by simpa using h0
    clear qA qC qD qE hz1 hbn hby hla hcp hmz hmv
    go_enter Try.func25, Try.ntmps25
    go_wp2_with (first | (go_at_call 12; refine (HCK.out _ bc).mono ?_; rintro e w1 ⟨rfl, hC⟩; dsimp only; (try clear p0 p1 p2 p3 p4 p5 p6 p7); (try clear q0 q1 q2); (try clear r0 r1 g0 g1); (try clear r2 g2); replace km := km.on hC; replace kc := kc.on hC; replace kr := kr.on hC; replace bc := bc.trans (hC.mono bc.size); clear hC; obtain ⟨p0, p1, p2, p3, p4, p5, p6, p7⟩ := km.eight; obtain ⟨q0, q1, q2, -⟩ := kc.three; obtain ⟨r0, r1, r2, g0, g1, g2⟩ := kr.three))
    exact bodyPost_ret (v := .tuple #[.agg #[.int .i64 0, .int .i64 0, .slice none 0 0], .int .i64 ck]) (by simp [results, Try.results25, go_sem, r0, r1, r2]) rfl ⟨⟨none, 0, 0⟩, rfl, CkFr.zero _ _ _ _, by repeat (first | refine Below.setCell ?_ (by dsimp only; omega) _ | exact bc)⟩
  subst h0
  obtain ⟨h1, h2⟩ := hz1 rfl
  obtain ⟨b0, b1⟩ := hby h1 h2
  obtain ⟨⟨n4, n8⟩, ⟨d0, d64⟩, ⟨l0, l1⟩, ⟨w0, w9⟩, ⟨g9, g8⟩, ⟨s0, s1⟩, -⟩ := hbn h1
  have HLA := Lib.hid (hla (by omega) h2)
  have HMZ := Lib.hid (hmz (by omega)); have HMV := Lib.hid (hmv (by omega))
  obtain ⟨⟨⟨t0, t1⟩, t2, t3⟩, h2n, -⟩ := h2
  replace qC := qC rfl; replace qD := qD rfl; replace qE := qE rfl
  dsimp only at t0 t1 t2 t3 h2n n4 n8 d0 d64 l0 l1 w0 w9 g9 g8 s0 s1
  rw [← HDN.out] at h2n
  have HCP := Lib.hid (fun U hb => hcp U hb (by omega))
  clear qA hz1 hbn hby hla hcp hmz hmv h1
  have eD : IntKind.i64.wrap (-D) = -D := IntWalk.i64_in _ (by omega)
  by_cases cA : -D ≤ x
  rotate_left
  · obtain rfl := qC (by omega)
    have d1 : decide (x < -D) = true := by simp; omega
    clear qD qE
    go_enter Try.func25, Try.ntmps25
    go_wp2_with (first | (go_at_call 12; refine (HCK.out _ bc).mono ?_; rintro e w1 ⟨rfl, hC⟩; dsimp only; (try clear p0 p1 p2 p3 p4 p5 p6 p7); (try clear q0 q1 q2); (try clear r0 r1 g0 g1); (try clear r2 g2); replace km := km.on hC; replace kc := kc.on hC; replace kr := kr.on hC; replace bc := bc.trans (hC.mono bc.size); clear hC; obtain ⟨p0, p1, p2, p3, p4, p5, p6, p7⟩ := km.eight; obtain ⟨q0, q1, q2, -⟩ := kc.three; obtain ⟨r0, r1, r2, g0, g1, g2⟩ := kr.three))
    exact bodyPost_ret (v := .tuple #[.agg #[.int .i64 0, .int .i64 0, .slice none 0 0], .int .i64 2]) (by simp [results, Try.results25, go_sem, r0, r1, r2]) rfl ⟨⟨none, 0, 0⟩, rfl, CkFr.zero _ _ _ _, by repeat (first | refine Below.setCell ?_ (by dsimp only; omega) _ | exact bc)⟩
  have dcA : decide (x < -D) = false := by simp; omega
  by_cases cB : x ≤ D
  rotate_left
  · obtain rfl := qC (by omega)
    have d1 : decide (D < x) = true := by simp; omega
    clear qD qE
    go_enter Try.func25, Try.ntmps25
    go_wp2_with (first | (go_at_call 12; refine (HCK.out _ bc).mono ?_; rintro e w1 ⟨rfl, hC⟩; dsimp only; (try clear p0 p1 p2 p3 p4 p5 p6 p7); (try clear q0 q1 q2); (try clear r0 r1 g0 g1); (try clear r2 g2); replace km := km.on hC; replace kc := kc.on hC; replace kr := kr.on hC; replace bc := bc.trans (hC.mono bc.size); clear hC; obtain ⟨p0, p1, p2, p3, p4, p5, p6, p7⟩ := km.eight; obtain ⟨q0, q1, q2, -⟩ := kc.three; obtain ⟨r0, r1, r2, g0, g1, g2⟩ := kr.three))
    exact bodyPost_ret (v := .tuple #[.agg #[.int .i64 0, .int .i64 0, .slice none 0 0], .int .i64 2]) (by simp [results, Try.results25, go_sem, r0, r1, r2]) rfl ⟨⟨none, 0, 0⟩, rfl, CkFr.zero _ _ _ _, by repeat (first | refine Below.setCell ?_ (by dsimp only; omega) _ | exact bc)⟩
  have dcB : decide (D < x) = false := by simp; omega
  replace qD := qD ⟨cA, cB⟩; replace qE := qE ⟨cA, cB⟩; clear qC
  have QD := Lib.hid qD; have QE := Lib.hid qE; clear qD qE
  have e1 : IntKind.i64.wrap (st + S) = st + S := IntWalk.i64_in _ (by omega)
  have e2 : IntKind.i64.wrap (st + S + x) = st + S + x := IntWalk.i64_in _ (by omega)
  have e3 : IntKind.i64.wrap (sl + 1) = sl + 1 := IntWalk.i64_in _ (by omega)
  have e4 : IntKind.i64.wrap (st + S + x + by_) = st + S + x + by_ := IntWalk.i64_in _ (by omega)
  have ht : (sl + 1).tmod N = (sl + 1) % N := Int.tmod_eq_emod_of_nonneg (by omega)
  have hn0 : ¬ N = 0 := by omega
  go_enter Try.func25, Try.ntmps25
  go_upto_region 7 with (first | (go_at_call 12; refine (HCK.out _ bc).mono ?_; rintro e w1 ⟨rfl, hC⟩; dsimp only; (try clear p0 p1 p2 p3 p4 p5 p6 p7); (try clear q0 q1 q2); (try clear r0 r1 g0 g1); (try clear r2 g2); replace km := km.on hC; replace kc := kc.on hC; replace kr := kr.on hC; replace bc := bc.trans (hC.mono bc.size); clear hC; obtain ⟨p0, p1, p2, p3, p4, p5, p6, p7⟩ := km.eight; obtain ⟨q0, q1, q2, -⟩ := kc.three; obtain ⟨r0, r1, r2, g0, g1, g2⟩ := kr.three))
  have kx := Blk.new w1 28 #[.int .i64 (st + S + x), .int .i64 (sl + 1), .slice none 0 0]
  have al := Below.al w1 (.cells #[.int .i64 (st + S + x), .int .i64 (sl + 1), .slice none 0 0] 28)
  have hgx := kr.lt
  (try clear p0 p1 p2 p3 p4 p5 p6 p7); (try clear q0 q1 q2); (try clear r0 r1 g0 g1); (try clear r2 g2)
  replace km := km.on al; replace kc := kc.on al; replace kr := kr.on al; replace bc := bc.trans (al.mono bc.size); clear al
  generalize w1.alloc (.cells #[.int .i64 (st + S + x), .int .i64 (sl + 1), .slice none 0 0] 28) = u1 at *
  generalize w1.heap.size = gx at *
  clear w1
  obtain ⟨p0, p1, p2, p3, p4, p5, p6, p7⟩ := km.eight; obtain ⟨q0, q1, q2, -⟩ := kc.three; obtain ⟨r0, r1, r2, g0, g1, g2⟩ := kr.three
  obtain ⟨x0, x1, x2, f0, f1, f2⟩ := kx.three
  by_cases hz : (sl + 1) % N = 0
  · have dz : ((sl + 1).tmod N == 0) = true := by rw [ht]; simpa using hz
    have gg := GE.out hz
    subst gg
    clear t0 t1 t2 t3 n4 n8 d0 d64 l0 l1 w0 w9 g9 g8 s0 s1 b0 b1 hz
    go_upto_region 8 with fail
    have hdr : Below u1.heap.size u1 u1.drew := (Below.refl _ _).drew
    have kx1 := kx.on hdr; have km1 := km.on hdr; have kc1 := kc.on hdr; have kr1 := kr.on hdr; have bc1 := bc.trans (hdr.mono bc.size)
    (try clear p0 p1 p2 p3 p4 p5 p6 p7); (try clear q0 q1 q2); (try clear r0 r1 g0 g1); (try clear r2 g2)
    clear x0 x1 x2 f0 f1 f2 hdr km kc kr bc kx
    obtain ⟨q0, q1, q2, -⟩ := kc1.three
    obtain ⟨x0, x1, x2, f0, f1, f2⟩ := kx1.three
    go_wp2_with fail
    go_region_law (first | (go_simp; go_at_call 37; refine (HLA.out _ bc1).mono ?_; rintro e w3 ⟨rfl, hC⟩; dsimp only; have kx3 := kx1.on hC; have km3 := km1.on hC; have kc3 := kc1.on hC; have kr3 := kr1.on hC; have bc3 := bc1.trans (hC.mono bc1.size); clear hC; obtain ⟨y0, y1, y2, v0, v1, v2⟩ := kx3.three))
    all_goals
      have hG := only_setCell (World.grownBy.refl w3 (some gx)) (p := ⟨gx, 0, none⟩) (.inl rfl) (.int .i64 (st + S + x + by_))
      have kx : Blk (w3.setCell ⟨gx, 0, none⟩ (.int .i64 (st + S + x + by_))) gx 28 #[.int .i64 (st + S + x + by_), .int .i64 (sl + 1), .slice none 0 0] := by simpa using kx3.set_ 0 (.int .i64 (st + S + x + by_))
      have km := km3.grown hG (some_ne (by omega)); have kr := kr3.grown hG (some_ne (by omega)); have bc := Below.off bc3 bc3.size (by omega) hG
      clear hG kx3 km3 kc3 kr3 bc3 y0 y1 y2 v0 v1 v2 kx1 km1 kc1 kr1 bc1 e1 e2 e3 e4 ht hn0 dz q0 q1 q2 x0 x1 x2 f0 f1 f2
      generalize w3.setCell ⟨gx, 0, none⟩ (.int .i64 (st + S + x + by_)) = u2 at *
      have hmd := HMZ.out (st + S + x + by_) (sl + 1)
      have my : okCk W ⟨st + S + x + by_, sl + 1, []⟩ → madeK W ⟨st + S + x + by_, sl + 1, []⟩ ⟨none, 0, 0⟩ = .tuple #[.agg #[.int .i64 (st + S + x + by_), .int .i64 (sl + 1), .slice none 0 0], .int .i64 0] := fun h => if_pos h
      have mn : ¬ okCk W ⟨st + S + x + by_, sl + 1, []⟩ → madeK W ⟨st + S + x + by_, sl + 1, []⟩ ⟨none, 0, 0⟩ = .tuple #[.agg #[.int .i64 0, .int .i64 0, .slice none 0 0], .int .i64 130] := fun h => if_neg h
      generalize madeK W ⟨st + S + x + by_, sl + 1, []⟩ ⟨none, 0, 0⟩ = MD at *
      generalize hoc : okCk W ⟨st + S + x + by_, sl + 1, []⟩ = oc at *
      have HMD := Lib.hid hmd; clear hmd hoc
      generalize st + S + x + by_ = nst at *
      obtain ⟨p0, p1, p2, p3, p4, p5, p6, p7⟩ := km.eight
      obtain ⟨x0, x1, x2, -⟩ := kx.three
      obtain ⟨r0, r1, r2, g0, g1, g2⟩ := kr.three
      by_cases ho : oc
      · obtain rfl := my ho
        obtain rfl := QE.out ho
        clear my mn
        go_wp2_with (first | (go_at_call 41; refine (HMD.out _).mono ?_; rintro e w7 ⟨rfl, hC⟩; dsimp only; (try clear p0 p1 p2 p3 p4 p5 p6 p7); (try clear x0 x1 x2); (try clear f0 f1 f2); (try clear r0 r1 r2 g0 g1 g2); replace kr := kr.on hC; replace bc := bc.trans (hC.mono bc.size); clear hC; obtain ⟨r0, r1, r2, g0, g1, g2⟩ := kr.three))
        exact bodyPost_ret (v := .tuple #[.agg #[.int .i64 nst, .int .i64 (sl + 1), .slice none 0 0], .int .i64 0]) (by simp [results, Try.results25, go_sem, r0, r1, r2]) rfl ⟨⟨none, 0, 0⟩, rfl, CkFr.zero _ _ _ _, by repeat (first | refine Below.setCell ?_ (by dsimp only; omega) _ | exact bc)⟩
      · obtain rfl := mn ho
        obtain rfl := QD.out ho
        clear my mn
        go_wp2_with (first | (go_at_call 41; refine (HMD.out _).mono ?_; rintro e w7 ⟨rfl, hC⟩; dsimp only; (try clear p0 p1 p2 p3 p4 p5 p6 p7); (try clear x0 x1 x2); (try clear f0 f1 f2); (try clear r0 r1 r2 g0 g1 g2); replace kr := kr.on hC; replace bc := bc.trans (hC.mono bc.size); clear hC; obtain ⟨r0, r1, r2, g0, g1, g2⟩ := kr.three))
        exact bodyPost_ret (v := .tuple #[.agg #[.int .i64 0, .int .i64 0, .slice none 0 0], .int .i64 130]) (by simp [results, Try.results25, go_sem, r0, r1, r2]) rfl ⟨⟨none, 0, 0⟩, rfl, CkFr.zero _ _ _ _, by repeat (first | refine Below.setCell ?_ (by dsimp only; omega) _ | exact bc)⟩
  · have dz : ((sl + 1).tmod N == 0) = false := by rw [ht]; simpa using hz
    have gg := GO.out hz
    subst gg
    clear t0 t1 t2 t3 n4 n8 d0 d64 l0 l1 w0 w9 g9 g8 s0 s1 b0 b1 hz
    have hb0 := bc.size
    go_upto_region 10 with (first | (go_at_call 39; refine (HCP.out _ bc).mono ?_; rintro e w3 ⟨g3, rfl, hown, hC⟩; dsimp only; (try clear p0 p1 p2 p3 p4 p5 p6 p7); (try clear q0 q1 q2); (try clear r0 r1 g0 g1); (try clear r2 g2); (try clear x0 x1 x2 f0 f1 f2); replace km := km.on hC; replace kc := kc.on hC; replace kr := kr.on hC; replace kx := kx.on hC; replace bc := bc.trans (hC.mono bc.size); clear hC; obtain ⟨p0, p1, p2, p3, p4, p5, p6, p7⟩ := km.eight; obtain ⟨q0, q1, q2, -⟩ := kc.three; obtain ⟨r0, r1, r2, g0, g1, g2⟩ := kr.three; obtain ⟨x0, x1, x2, f0, f1, f2⟩ := kx.three))
    have hG := only_setCell (World.grownBy.refl w3 (some gx)) (p := ⟨gx, 2, none⟩) (.inl rfl) (.slice (some ⟨g3, 0, none⟩) n (n + 1))
    have kx9 : Blk (w3.setCell ⟨gx, 2, none⟩ (.slice (some ⟨g3, 0, none⟩) n (n + 1))) gx 28 #[.int .i64 (st + S + x), .int .i64 (sl + 1), .slice (some ⟨g3, 0, none⟩) n (n + 1)] := by simpa using kx.set_ 2 (.slice (some ⟨g3, 0, none⟩) n (n + 1))
    have hrow := (own_mono hown hb0).kept hG (.inr (fun e => own_ne_blkK hown kx (by decide) e.symm))
    replace km := km.grown hG (some_ne (by omega)); replace kr := kr.grown hG (some_ne (by omega)); replace bc := Below.off bc bc.size (by omega) hG
    (try clear p0 p1 p2 p3 p4 p5 p6 p7); (try clear q0 q1 q2); (try clear r0 r1 g0 g1); (try clear r2 g2)
    clear hG kx kc hown x0 x1 x2 f0 f1 f2 e1 e2 e3 e4 ht hn0 dz
    have kx := kx9; clear kx9
    generalize w3.setCell ⟨gx, 2, none⟩ (.slice (some ⟨g3, 0, none⟩) n (n + 1)) = u2 at *
    have hfr : CkFr w.heap.size u2 ⟨st + S + x, sl + 1, dv⟩ ⟨some ⟨g3, 0, none⟩, n, n + 1⟩ := CkFr.own (k := ⟨st + S + x, sl + 1, dv⟩) hrow (by unfold maxLen; omega)
    have hmd := HMV.out (st + S + x) (sl + 1) (some ⟨g3, 0, none⟩) n (n + 1) u2 hfr.ok
    have my : okCk W ⟨st + S + x, sl + 1, dv⟩ → madeK W ⟨st + S + x, sl + 1, dv⟩ ⟨some ⟨g3, 0, none⟩, n, n + 1⟩ = .tuple #[.agg #[.int .i64 (st + S + x), .int .i64 (sl + 1), .slice (some ⟨g3, 0, none⟩) n (n + 1)], .int .i64 0] := fun h => if_pos h
    have mn : ¬ okCk W ⟨st + S + x, sl + 1, dv⟩ → madeK W ⟨st + S + x, sl + 1, dv⟩ ⟨some ⟨g3, 0, none⟩, n, n + 1⟩ = .tuple #[.agg #[.int .i64 0, .int .i64 0, .slice none 0 0], .int .i64 130] := fun h => if_neg h
    generalize madeK W ⟨st + S + x, sl + 1, dv⟩ ⟨some ⟨g3, 0, none⟩, n, n + 1⟩ = MD at *
    generalize hoc : okCk W ⟨st + S + x, sl + 1, dv⟩ = oc at *
    have HMD := Lib.hid hmd; have HROW := Lib.hid hrow; clear hmd hoc hfr hrow
    obtain ⟨p0, p1, p2, p3, p4, p5, p6, p7⟩ := km.eight
    obtain ⟨x0, x1, x2, -⟩ := kx.three
    obtain ⟨r0, r1, r2, g0, g1, g2⟩ := kr.three
    by_cases ho : oc
    · obtain rfl := my ho
      obtain rfl := QE.out ho
      clear my mn
      go_wp2_with (first | (go_at_call 41; refine (HMD.out).mono ?_; rintro e w7 ⟨rfl, hC⟩; dsimp only; (try clear p0 p1 p2 p3 p4 p5 p6 p7); (try clear x0 x1 x2); (try clear f0 f1 f2); (try clear r0 r1 r2 g0 g1 g2); have hrow2 := own_on HROW.out hC; have HROW2 := Lib.hid hrow2; clear hrow2; replace kr := kr.on hC; replace bc := bc.trans (hC.mono bc.size); clear hC; obtain ⟨r0, r1, r2, g0, g1, g2⟩ := kr.three))
      exact bodyPost_ret (v := .tuple #[.agg #[.int .i64 (st + S + x), .int .i64 (sl + 1), .slice (some ⟨g3, 0, none⟩) n (n + 1)], .int .i64 0]) (by simp [results, Try.results25, go_sem, r0, r1, r2]) rfl ⟨⟨some ⟨g3, 0, none⟩, n, n + 1⟩, rfl, CkFr.own (k := ⟨st + S + x, sl + 1, dv⟩) (HROW2.out.kept (grown3K _ _ _ _ _) (.inr (fun e => own_ne_blkK HROW2.out kr (by decide) e.symm))) (by unfold maxLen; omega), by repeat (first | refine Below.setCell ?_ (by dsimp only; omega) _ | exact bc)⟩
    · obtain rfl := mn ho
      obtain rfl := QD.out ho
      clear my mn
      go_wp2_with (first | (go_at_call 41; refine (HMD.out).mono ?_; rintro e w7 ⟨rfl, hC⟩; dsimp only; (try clear p0 p1 p2 p3 p4 p5 p6 p7); (try clear x0 x1 x2); (try clear f0 f1 f2); (try clear r0 r1 r2 g0 g1 g2); have hrow2 := own_on HROW.out hC; have HROW2 := Lib.hid hrow2; clear hrow2; replace kr := kr.on hC; replace bc := bc.trans (hC.mono bc.size); clear hC; obtain ⟨r0, r1, r2, g0, g1, g2⟩ := kr.three))
      exact bodyPost_ret (v := .tuple #[.agg #[.int .i64 0, .int .i64 0, .slice none 0 0], .int .i64 130]) (by simp [results, Try.results25, go_sem, r0, r1, r2]) rfl ⟨⟨none, 0, 0⟩, rfl, CkFr.zero _ _ _ _, by repeat (first | refine Below.setCell ?_ (by dsimp only; omega) _ | exact bc)⟩
end Go.Proofs.Ytlkmipcenlhacaa
