/-
  The document's Next of layer 13. Conditions: a list and a clock that can be read. (Printed by tools/gen13m.py; laid ahead.)
-/
import Derived.Test.YtlkmipcenlhacaaLE
import Derived.Deep.RegionHeld3
namespace Go.Proofs.Ytlkmipcenlhacaa
open Go.RowKit

theorem keepK {W : World} {gc gm : Nat} {a b e N S G V D L f h : Value} (hc : Blk W gc 28 #[a, b, e]) (hm : Blk W gm 25 #[N, S, G, V, D, L, f, h]) : W.cell? ⟨gc, 0, none⟩ = some a ∧ W.cell? ⟨gc, 1, none⟩ = some b ∧ W.cell? ⟨gc, 2, none⟩ = some e ∧ W.cell? ⟨gm, 1, none⟩ = some S :=
  ⟨hc.three.1, hc.three.2.1, hc.three.2.2.1, hm.eight.2.1⟩
theorem gone_end {m : ML} {k : Ck} {d : Int} (h : (k.sl + 1) % m.N = 0) : goneK m k d = ⟨k.st + m.S + d + byK k, k.sl + 1, []⟩ := by unfold goneK; rw [if_pos h]
theorem gone_on {m : ML} {k : Ck} {d : Int} (h : ¬ (k.sl + 1) % m.N = 0) : goneK m k d = ⟨k.st + m.S + d, k.sl + 1, k.dv⟩ := by unfold goneK; rw [if_neg h]

set_option maxRecDepth 100000 in
set_option maxHeartbeats 2000000 in
theorem rnext_any (m : ML) (c s : Slc) (k : Ck) (v : Slc) (x : Int) (w : World) (hM : Med w m c s) (hk : CkOk w.heap.size w k v) : Calls Try.prog 26 #[vM m c s, .agg (cK k v), .int .i64 x] w (ResCk w (nextK m k x)) := by
  have hco := fun U (hb : Below w.heap.size w U) => rcorK_any m c s k v U (hM.on hb) (hk.on hb)
  have hcz := fun (a b : Int) U (hb : Below w.heap.size w U) => rchkK_any m c s ⟨a, b, []⟩ ⟨none, 0, 0⟩ U (hM.on hb) (CkOk.zero _ _ _ _)
  have hcv := fun (a b : Int) v' U (hb : Below w.heap.size w U) (h : CkOk U.heap.size U ⟨a, b, k.dv⟩ v') => rchkK_any m c s ⟨a, b, k.dv⟩ v' U (hM.on hb) h
  have qA : ¬ chkK m k = 0 → corK m k = (chkK m k, 0) ∧ nextK m k x = (chkK m k, zeroCk) := fun h => ⟨by unfold corK; rw [if_neg h], by unfold nextK; rw [if_neg h]⟩
  have qB : chkK m k = 0 → corK m k = (0, byK k) := fun h => by unfold corK; rw [if_pos h]
  have qC : chkK m k = 0 → ¬ (-m.D ≤ x ∧ x ≤ m.D) → nextK m k x = (2, zeroCk) := fun h h2 => by unfold nextK; rw [if_pos h, if_neg h2]
  have qD : chkK m k = 0 → (-m.D ≤ x ∧ x ≤ m.D) → ¬ okCk m.W (goneK m k x) → nextK m k x = (130, zeroCk) ∧ chkK m (goneK m k x) = 130 := fun h h2 h3 => ⟨by unfold nextK; rw [if_pos h, if_pos h2, if_neg h3], chkK_clock (chkK_zero.1 h).1 h3⟩
  have qE : chkK m k = 0 → (-m.D ≤ x ∧ x ≤ m.D) → okCk m.W (goneK m k x) → nextK m k x = (0, goneK m k x) ∧ chkK m (goneK m k x) = 0 := fun h h2 h3 => ⟨by unfold nextK; rw [if_pos h, if_pos h2, if_pos h3], chkK_zero.2 ⟨(chkK_zero.1 h).1, h3⟩⟩
  have hz1 : chkK m k = 0 → (okM m ∧ okCk m.W k) ∧ -m.W ≤ byK k ∧ byK k ≤ m.W := fun h => ⟨chkK_zero.1 h, byK_in (chkK_zero.1 h).2 (by have := (okM_nums (chkK_zero.1 h).1).2.2.2.1.1; omega)⟩
  have hbn := fun h => okM_nums (m := m) h
  have ge := fun h => gone_end (m := m) (k := k) (d := x) h
  have go_ := fun h => gone_on (m := m) (k := k) (d := x) h
  unfold ResCk
  generalize nextK m k x = RR at *
  generalize goneK m k x = GG at *
  generalize corK m k = CC at *
  generalize byK k = by_ at *
  obtain ⟨ck, hcke⟩ : ∃ ck, ck = chkK m k := ⟨_, rfl⟩
  rw [← hcke] at qA qB qC qD qE hz1
  clear hcke hM
  obtain ⟨hd, hdn, hdc, hdm, hdz⟩ := hk
  obtain ⟨N, S, G, W, D, L, cold, ms⟩ := m
  obtain ⟨Ac, nc, cc⟩ := c
  obtain ⟨As, ns, cs⟩ := s
  obtain ⟨st, sl, dv⟩ := k
  obtain ⟨A, n, c⟩ := v
  dsimp only [vM, cK] at *
  have HDN := Lib.hid hdn; have HCO := Lib.hid hco; have HCZ := Lib.hid hcz; have HCV := Lib.hid hcv; have GE := Lib.hid ge; have GO := Lib.hid go_; clear hdn hco hcz hcv ge go_ hdc hdm
  obtain ⟨km, kc, kr, bc⟩ := bx3 w #[.int .i64 N, .int .i64 S, .int .i64 G, .int .i64 W, .int .i64 D, .int .i64 L, .slice Ac nc cc, .slice As ns cs] #[.int .i64 st, .int .i64 sl, .slice A n c] #[.int .i64 0, .int .i64 0, .slice none 0 0] 25 28 28
  obtain ⟨p0, p1, p2, p3, p4, p5, p6, p7⟩ := km.eight; obtain ⟨q0, q1, q2, -⟩ := kc.three; obtain ⟨r0, r1, r2, g0, g1, g2⟩ := kr.three
  by_cases h0 : ck = 0
  rotate_left
  · obtain ⟨rfl, rfl⟩ := qA h0
    have d0 : (ck != 0) = true := by simpa using h0
    clear qB qC qD qE hz1 hbn hd hdz
    go_enter Try.func26, Try.ntmps26
    go_wp2_with (first | (go_at_call 21; refine (HCO.out _ bc).mono ?_; rintro e w1 ⟨rfl, hC⟩; dsimp only; (try clear p0 p1 p2 p3 p4 p5 p6 p7); (try clear q0 q1 q2); (try clear r0 r1 g0 g1); (try clear r2 g2); replace km := km.on hC; replace kc := kc.on hC; replace kr := kr.on hC; replace bc := bc.trans (hC.mono bc.size); clear hC; obtain ⟨p0, p1, p2, p3, p4, p5, p6, p7⟩ := km.eight; obtain ⟨q0, q1, q2, -⟩ := kc.three; obtain ⟨r0, r1, r2, g0, g1, g2⟩ := kr.three))
    exact bodyPost_ret (v := .tuple #[.agg #[.int .i64 0, .int .i64 0, .slice none 0 0], .int .i64 ck]) (by simp [results, Try.results26, go_sem, r0, r1, r2]) rfl ⟨⟨none, 0, 0⟩, rfl, CkFr.zero _ _ _ _, by repeat (first | refine Below.setCell ?_ (by dsimp only; omega) _ | exact bc)⟩
  subst h0
  obtain rfl := qB rfl
  obtain ⟨⟨h1, ⟨⟨t0, t1⟩, t2, t3⟩, h2n, -⟩, b0, b1⟩ := hz1 rfl
  obtain ⟨⟨n4, n8⟩, ⟨d0, d64⟩, ⟨l0, l1⟩, ⟨w0, w9⟩, ⟨g9, g8⟩, ⟨s0, s1⟩, -⟩ := hbn h1
  replace qC := qC rfl; replace qD := qD rfl; replace qE := qE rfl
  dsimp only at t0 t1 t2 t3 h2n n4 n8 d0 d64 l0 l1 w0 w9 g9 g8 s0 s1
  rw [← HDN.out] at h2n
  have ed : IntKind.i64.wrap (-D) = -D := IntWalk.i64_in _ (by omega)
  clear qA qB hz1 hbn h1
  by_cases cA : -D ≤ x
  rotate_left
  · obtain rfl := qC (by omega)
    have d1 : decide (x < -D) = true := by simp; omega
    clear qD qE hd hdz
    go_enter Try.func26, Try.ntmps26
    go_wp2_with (first | (go_at_call 21; refine (HCO.out _ bc).mono ?_; rintro e w1 ⟨rfl, hC⟩; dsimp only; (try clear p0 p1 p2 p3 p4 p5 p6 p7); (try clear q0 q1 q2); (try clear r0 r1 g0 g1); (try clear r2 g2); replace km := km.on hC; replace kc := kc.on hC; replace kr := kr.on hC; replace bc := bc.trans (hC.mono bc.size); clear hC; obtain ⟨p0, p1, p2, p3, p4, p5, p6, p7⟩ := km.eight; obtain ⟨q0, q1, q2, -⟩ := kc.three; obtain ⟨r0, r1, r2, g0, g1, g2⟩ := kr.three))
    exact bodyPost_ret (v := .tuple #[.agg #[.int .i64 0, .int .i64 0, .slice none 0 0], .int .i64 2]) (by simp [results, Try.results26, go_sem, r0, r1, r2]) rfl ⟨⟨none, 0, 0⟩, rfl, CkFr.zero _ _ _ _, by repeat (first | refine Below.setCell ?_ (by dsimp only; omega) _ | exact bc)⟩
  have dcA : decide (x < -D) = false := by simp; omega
  by_cases cB : x ≤ D
  rotate_left
  · obtain rfl := qC (by omega)
    have d1 : decide (D < x) = true := by simp; omega
    clear qD qE hd hdz
    go_enter Try.func26, Try.ntmps26
    go_wp2_with (first | (go_at_call 21; refine (HCO.out _ bc).mono ?_; rintro e w1 ⟨rfl, hC⟩; dsimp only; (try clear p0 p1 p2 p3 p4 p5 p6 p7); (try clear q0 q1 q2); (try clear r0 r1 g0 g1); (try clear r2 g2); replace km := km.on hC; replace kc := kc.on hC; replace kr := kr.on hC; replace bc := bc.trans (hC.mono bc.size); clear hC; obtain ⟨p0, p1, p2, p3, p4, p5, p6, p7⟩ := km.eight; obtain ⟨q0, q1, q2, -⟩ := kc.three; obtain ⟨r0, r1, r2, g0, g1, g2⟩ := kr.three))
    exact bodyPost_ret (v := .tuple #[.agg #[.int .i64 0, .int .i64 0, .slice none 0 0], .int .i64 2]) (by simp [results, Try.results26, go_sem, r0, r1, r2]) rfl ⟨⟨none, 0, 0⟩, rfl, CkFr.zero _ _ _ _, by repeat (first | refine Below.setCell ?_ (by dsimp only; omega) _ | exact bc)⟩
  have dcB : decide (D < x) = false := by simp; omega
  have QD := Lib.hid (qD ⟨cA, cB⟩); have QE := Lib.hid (qE ⟨cA, cB⟩)
  clear qC qD qE
  have e1 : IntKind.i64.wrap (st + S) = st + S := IntWalk.i64_in _ (by omega)
  have e2 : IntKind.i64.wrap (st + S + x) = st + S + x := IntWalk.i64_in _ (by omega)
  have e3 : IntKind.i64.wrap (sl + 1) = sl + 1 := IntWalk.i64_in _ (by omega)
  have e4 : IntKind.i64.wrap (st + S + x + by_) = st + S + x + by_ := IntWalk.i64_in _ (by omega)
  have hN0 : ¬ N = 0 := by omega
  have hnn : (N == 0) = false := by simpa using hN0
  have ht : (sl + 1).tmod N = (sl + 1) % N := Int.tmod_eq_emod_of_nonneg (by omega)
  have hn8 : n ≤ 1000 := by omega
  clear t0 t1 t2 t3 h2n n4 n8 d0 d64 l0 l1 w0 w9 g9 g8 s0 s1 b0 b1 cA cB
  go_enter Try.func26, Try.ntmps26
  go_upto_region 6 with (first | (go_at_call 21; refine (HCO.out _ bc).mono ?_; rintro e w1 ⟨rfl, hC⟩; dsimp only; (try clear p0 p1 p2 p3 p4 p5 p6 p7); (try clear q0 q1 q2); (try clear r0 r1 g0 g1); (try clear r2 g2); replace km := km.on hC; replace kc := kc.on hC; replace kr := kr.on hC; replace bc := bc.trans (hC.mono bc.size); clear hC; obtain ⟨p0, p1, p2, p3, p4, p5, p6, p7⟩ := km.eight; obtain ⟨q0, q1, q2, -⟩ := kc.three; obtain ⟨r0, r1, r2, g0, g1, g2⟩ := kr.three))
  (try clear p0 p1 p2 p3 p4 p5 p6 p7); (try clear q0 q1 q2); (try clear r0 r1 g0 g1); (try clear r2 g2)
  (try clear dcA dcB)
  have hdr : Below w1.heap.size w1 w1.drew := (Below.refl _ _).drew
  have halA : Below w1.heap.size w1 ((w1.alloc (.cells #[.int .i64 0, .int .i64 0, .slice none 0 0] 28)).drew) := (Below.al w1 (.cells #[.int .i64 0, .int .i64 0, .slice none 0 0] 28)).drew
  have hgx := kr.lt
  have kcA := kc.on halA; have kmA := km.on halA; have krA := kr.on halA; have bcA := bc.trans (halA.mono bc.size); have hAA := hd.below bcA
  have kxA : Blk ((w1.alloc (.cells #[.int .i64 0, .int .i64 0, .slice none 0 0] 28)).drew) w1.heap.size 28 #[.int .i64 0, .int .i64 0, .slice none 0 0] := (Blk.new w1 28 #[.int .i64 0, .int .i64 0, .slice none 0 0]).on (Below.refl _ _).drew
  have kc1 := kc.on hdr; have km1 := km.on hdr; have kr1 := kr.on hdr; have bc1 := bc.trans (hdr.mono bc.size); have hA1 := hd.below bc1
  have hs1 : w1.heap.size ≤ w1.drew.heap.size := hdr.size
  have hsA : w1.heap.size < (w1.alloc (.cells #[.int .i64 0, .int .i64 0, .slice none 0 0] 28)).drew.heap.size := kxA.lt
  have hb0 := bc.size
  clear hdr halA km kc kr bc
  go_wp2_with fail
  go_region_held3 (fun w' => w'.cell? ⟨w.heap.size + 1, 0, none⟩ = some (.int .i64 st) ∧ w'.cell? ⟨w.heap.size + 1, 1, none⟩ = some (.int .i64 sl) ∧ w'.cell? ⟨w.heap.size + 1, 2, none⟩ = some (.slice A n c) ∧ w'.cell? ⟨w.heap.size, 1, none⟩ = some (.int .i64 S))
    (first | with_reducible exact keepK kc1 km1 | with_reducible exact keepK kcA kmA | with_reducible exact keepK kc4 km4 | with_reducible exact keepK (kc4.alloc _) (km4.alloc _) | exact keepK (kc4.grown (grown3K _ _ _ _ _) (some_ne (by omega))) (km4.grown (grown3K _ _ _ _ _) (some_ne (by omega))))
    (first
    | (refine step_append_js rfl (.const (.slice none 0 0)) (.tmp 44) rfl w.heap.size dv ⟨A, n, c⟩ hA1 HDN.out hdz hn8 rfl (by first | rfl | simp [Act.eval] | simp [Act.eval, Act.put]) ?_; intro A3 c3 w3 hown3 hg3; dsimp only at hown3; have kc4 := kc1.grown hg3 (by simp); have km4 := km1.grown hg3 (by simp); have kr4 := kr1.grown hg3 (by simp); have bc4 := below_noneK bc1 bc1.size hg3; have hown4 := own_mono hown3 hs1; have hs4 := Nat.le_trans hs1 hg3.size)
    | (refine step_append_js rfl (.const (.slice none 0 0)) (.tmp 44) rfl w.heap.size dv ⟨A, n, c⟩ hAA HDN.out hdz hn8 rfl (by first | rfl | simp [Act.eval] | simp [Act.eval, Act.put]) ?_; intro A3 c3 w3 hown3 hg3; dsimp only at hown3; have kx4 := kxA.grown hg3 (by simp); have kc4 := kcA.grown hg3 (by simp); have km4 := kmA.grown hg3 (by simp); have kr4 := krA.grown hg3 (by simp); have bc4 := below_noneK bcA bcA.size hg3; have hown4 := own_mono hown3 (Nat.le_of_lt hsA); have hs4 := Nat.le_trans (Nat.le_of_lt hsA) hg3.size; obtain ⟨u0, u1, u2, v0, v1, v2⟩ := kx4.three))
  all_goals
    first
      | (have hG := grown3K w3 w1.heap.size (.int .i64 (st + S + x)) (.int .i64 (sl + 1)) (.slice A3 n c3); have kx := kx4.put3K (.int .i64 (st + S + x)) (.int .i64 (sl + 1)) (.slice A3 n c3); have kc := kc4.grown hG (some_ne (by omega)); have km := km4.grown hG (some_ne (by omega)); have kr := kr4.grown hG (some_ne (by omega)); have bc := Below.off bc4 bc4.size (by omega) hG; have hrow := hown4.kept hG (.inr (fun e => own_ne_blkK hown4 kx4 (by decide) e.symm)); have hgg : w.heap.size + 1 + 1 < w1.heap.size := hgx; clear hG u0 u1 u2 v0 v1 v2 kx4; generalize ((w3.setCell ⟨w1.heap.size, 0, none⟩ (.int .i64 (st + S + x))).setCell ⟨w1.heap.size, 1, none⟩ (.int .i64 (sl + 1))).setCell ⟨w1.heap.size, 2, none⟩ (.slice A3 n c3) = U at *; generalize w1.heap.size = gx at *)
      | (have kx := Blk.new w3 28 #[.int .i64 (st + S + x), .int .i64 (sl + 1), .slice A3 n c3]; have al := Below.al w3 (.cells #[.int .i64 (st + S + x), .int .i64 (sl + 1), .slice A3 n c3] 28); have kc := kc4.on al; have km := km4.on al; have kr := kr4.on al; have bc := bc4.trans (al.mono bc4.size); have hrow := own_on hown4 al; have hgg : w.heap.size + 1 + 1 < w3.heap.size := kr4.lt; clear al; generalize w3.alloc (.cells #[.int .i64 (st + S + x), .int .i64 (sl + 1), .slice A3 n c3] 28) = U at *; generalize w3.heap.size = gx at *)
    clear kcA kmA krA bcA hAA kxA kc1 km1 kr1 bc1 hA1 hsA hown3 hg3 kc4 km4 kr4 bc4 hown4
    (try clear hs4)
    replace hrow := own_mono hrow hb0
    obtain ⟨p0, p1, p2, p3, p4, p5, p6, p7⟩ := km.eight
    obtain ⟨x0, x1, x2, f0, f1, f2⟩ := kx.three
    by_cases hz : (sl + 1) % N = 0
    · have dz : ((sl + 1).tmod N == 0) = true := by rw [ht]; simpa using hz
      have gg := GE.out hz
      subst gg
      clear hrow
      go_upto_region 10 with fail
      have hG : U.grownBy ((U.setCell ⟨gx, 0, none⟩ (.int .i64 (st + S + x + by_))).setCell ⟨gx, 2, none⟩ (.slice none 0 0)) (some gx) := only_setCell (only_setCell (World.grownBy.refl U (some gx)) (.inl rfl) _) (.inl rfl) _
      have kx5 : Blk ((U.setCell ⟨gx, 0, none⟩ (.int .i64 (st + S + x + by_))).setCell ⟨gx, 2, none⟩ (.slice none 0 0)) gx 28 #[.int .i64 (st + S + x + by_), .int .i64 (sl + 1), .slice none 0 0] := by simpa using (kx.set_ 0 (.int .i64 (st + S + x + by_))).set_ 2 (.slice none 0 0)
      replace km := km.grown hG (some_ne (by omega)); replace kr := kr.grown hG (some_ne (by omega)); replace bc := Below.off bc bc.size (by omega) hG
      clear hG kx kc p0 p1 p2 p3 p4 p5 p6 p7 x0 x1 x2 f0 f1 f2 e1 e2 e3 e4 ht
      generalize (U.setCell ⟨gx, 0, none⟩ (.int .i64 (st + S + x + by_))).setCell ⟨gx, 2, none⟩ (.slice none 0 0) = V at *
      have kx := kx5; clear kx5
      obtain ⟨p0, p1, p2, p3, p4, p5, p6, p7⟩ := km.eight
      obtain ⟨x0, x1, x2, -⟩ := kx.three
      obtain ⟨r0, r1, r2, g0, g1, g2⟩ := kr.three
      have hcz := HCZ.out (st + S + x + by_) (sl + 1)
      generalize hoc : okCk W ⟨st + S + x + by_, sl + 1, []⟩ = oc at *
      generalize chkK ⟨N, S, G, W, D, L, cold, ms⟩ ⟨st + S + x + by_, sl + 1, []⟩ = cg at *
      have HCZ2 := Lib.hid hcz; clear hcz
      by_cases ho : oc
      rotate_left
      · obtain ⟨rfl, rfl⟩ := QD.out ho
        go_wp2_with (first | (go_at_call 13; refine (HCZ2.out _ bc).mono ?_; rintro e w7 ⟨rfl, hC⟩; dsimp only; (try clear p0 p1 p2 p3 p4 p5 p6 p7); (try clear x0 x1 x2); (try clear f0 f1 f2); (try clear r0 r1 r2 g0 g1 g2); replace km := km.on hC; replace kx := kx.on hC; replace kr := kr.on hC; replace bc := bc.trans (hC.mono bc.size); clear hC; obtain ⟨p0, p1, p2, p3, p4, p5, p6, p7⟩ := km.eight; obtain ⟨x0, x1, x2, -⟩ := kx.three; obtain ⟨r0, r1, r2, g0, g1, g2⟩ := kr.three))
        exact bodyPost_ret (v := .tuple #[.agg #[.int .i64 0, .int .i64 0, .slice none 0 0], .int .i64 130]) (by simp [results, Try.results26, go_sem, r0, r1, r2]) rfl ⟨⟨none, 0, 0⟩, rfl, CkFr.zero _ _ _ _, by repeat (first | refine Below.setCell ?_ (by dsimp only; omega) _ | exact bc)⟩
      obtain ⟨rfl, rfl⟩ := QE.out ho
      go_wp2_with (first | (go_at_call 13; refine (HCZ2.out _ bc).mono ?_; rintro e w7 ⟨rfl, hC⟩; dsimp only; (try clear p0 p1 p2 p3 p4 p5 p6 p7); (try clear x0 x1 x2); (try clear f0 f1 f2); (try clear r0 r1 r2 g0 g1 g2); replace km := km.on hC; replace kx := kx.on hC; replace kr := kr.on hC; replace bc := bc.trans (hC.mono bc.size); clear hC; obtain ⟨p0, p1, p2, p3, p4, p5, p6, p7⟩ := km.eight; obtain ⟨x0, x1, x2, -⟩ := kx.three; obtain ⟨r0, r1, r2, g0, g1, g2⟩ := kr.three))
      exact bodyPost_ret (v := .tuple #[.agg #[.int .i64 (st + S + x + by_), .int .i64 (sl + 1), .slice none 0 0], .int .i64 0]) (by simp [results, Try.results26, go_sem, r0, r1, r2]) rfl ⟨⟨none, 0, 0⟩, rfl, CkFr.zero _ _ _ _, by repeat (first | refine Below.setCell ?_ (by dsimp only; omega) _ | exact bc)⟩
    · have dz : ((sl + 1).tmod N == 0) = false := by rw [ht]; simpa using hz
      have gg := GO.out hz
      subst gg
      have hcv := HCV.out (st + S + x) (sl + 1) ⟨A3, n, c3⟩ U bc (CkFr.own (k := ⟨st + S + x, sl + 1, dv⟩) hrow (by unfold maxLen; omega)).ok
      generalize hoc : okCk W ⟨st + S + x, sl + 1, dv⟩ = oc at *
      generalize chkK ⟨N, S, G, W, D, L, cold, ms⟩ ⟨st + S + x, sl + 1, dv⟩ = cg at *
      have HCV2 := Lib.hid hcv; have HROW := Lib.hid hrow; clear hcv hrow
      obtain ⟨r0, r1, r2, g0, g1, g2⟩ := kr.three
      by_cases ho : oc
      rotate_left
      · obtain ⟨rfl, rfl⟩ := QD.out ho
        go_wp2_with (first | (go_at_call 13; refine HCV2.out.mono ?_; rintro e w7 ⟨rfl, hC⟩; dsimp only; (try clear p0 p1 p2 p3 p4 p5 p6 p7); (try clear x0 x1 x2); (try clear f0 f1 f2); (try clear r0 r1 r2 g0 g1 g2); replace km := km.on hC; replace kx := kx.on hC; replace kr := kr.on hC; replace bc := bc.trans (hC.mono bc.size); have hrow2 := own_on HROW.out hC; have HROW2 := Lib.hid hrow2; clear hrow2; clear hC; obtain ⟨p0, p1, p2, p3, p4, p5, p6, p7⟩ := km.eight; obtain ⟨x0, x1, x2, -⟩ := kx.three; obtain ⟨r0, r1, r2, g0, g1, g2⟩ := kr.three))
        exact bodyPost_ret (v := .tuple #[.agg #[.int .i64 0, .int .i64 0, .slice none 0 0], .int .i64 130]) (by simp [results, Try.results26, go_sem, r0, r1, r2]) rfl ⟨⟨none, 0, 0⟩, rfl, CkFr.zero _ _ _ _, by repeat (first | refine Below.setCell ?_ (by dsimp only; omega) _ | exact bc)⟩
      obtain ⟨rfl, rfl⟩ := QE.out ho
      go_wp2_with (first | (go_at_call 13; refine HCV2.out.mono ?_; rintro e w7 ⟨rfl, hC⟩; dsimp only; (try clear p0 p1 p2 p3 p4 p5 p6 p7); (try clear x0 x1 x2); (try clear f0 f1 f2); (try clear r0 r1 r2 g0 g1 g2); replace km := km.on hC; replace kx := kx.on hC; replace kr := kr.on hC; replace bc := bc.trans (hC.mono bc.size); have hrow2 := own_on HROW.out hC; have HROW2 := Lib.hid hrow2; clear hrow2; clear hC; obtain ⟨p0, p1, p2, p3, p4, p5, p6, p7⟩ := km.eight; obtain ⟨x0, x1, x2, -⟩ := kx.three; obtain ⟨r0, r1, r2, g0, g1, g2⟩ := kr.three))
      exact bodyPost_ret (v := .tuple #[.agg #[.int .i64 (st + S + x), .int .i64 (sl + 1), .slice A3 n c3], .int .i64 0]) (by simp [results, Try.results26, go_sem, r0, r1, r2]) rfl ⟨⟨A3, n, c3⟩, rfl, CkFr.own (k := ⟨st + S + x, sl + 1, dv⟩) (HROW2.out.kept (grown3K _ _ _ _ _) (.inr (fun e => own_ne_blkK HROW2.out kr (by decide) e.symm))) (by unfold maxLen; omega), by repeat (first | refine Below.setCell ?_ (by dsimp only; omega) _ | exact bc)⟩
end Go.Proofs.Ytlkmipcenlhacaa
