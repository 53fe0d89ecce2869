/-
  Join and Same of package clock. Conditions: a list and clocks that can be read. (Printed by tools/gen13t.py.)
-/
import Derived.Test.YtlkmipcenlhacaaLS
namespace Go.Proofs.Ytlkmipcenlhacaa
open Go.RowKit

set_option maxRecDepth 100000 in
set_option maxHeartbeats 4000000 in
theorem join13 : ClkJoinC := by
  intro m c s a q w hM ha
  have hck := fun U (hb : Below w.heap.size w U) => mcheck_any m c s U (hM.on hb)
  have hx := fun (h2 : 0 ≤ m.G ∧ m.G ≤ 1048576) (h3 : 0 ≤ m.L ∧ m.L ≤ 64) U => expK_any m c s ⟨0, 0, []⟩ ⟨none, 0, 0⟩ U (by dsimp only; omega) h2 h3
  have hmd := fun (h : 0 ≤ m.W ∧ m.W ≤ 1048576) (b : Int) U (_ : Below w.heap.size w U) => made_any m c s ⟨b, q, []⟩ ⟨none, 0, 0⟩ U h (CkOk.zero _ _ _ _)
  have hex : expK m ⟨0, 0, []⟩ = m.G + m.L := by unfold expK; dsimp only; omega
  rw [hex] at hx
  have qA : ¬ okM m → checkM m = 70 ∧ joinK m a q = (70, zeroCk) := fun h => ⟨checkM_no h, by unfold joinK; rw [if_neg h]⟩
  have qB : okM m → checkM m = 0 := checkM_zero.2
  have qC : okM m → ¬ (0 ≤ q ∧ q < m.N) → joinK m a q = (2, zeroCk) := fun h h2 => by unfold joinK; rw [if_pos h, if_neg h2]
  have hbn := fun h => okM_nums (m := m) h
  have qD : okM m → (0 ≤ q ∧ q < m.N) → a < m.G + m.L → joinK m a q = (130, zeroCk) := fun h h2 h3 => by
    unfold joinK; rw [if_pos h, if_pos h2, if_neg (fun h4 => by have := h4.2.1.1.1; dsimp only at this; omega)]
  have qE : okM m → (0 ≤ q ∧ q < m.N) → ¬ okCk m.W ⟨a - (m.G + m.L), q, []⟩ → joinK m a q = (130, zeroCk) ∧ madeK m.W ⟨a - (m.G + m.L), q, []⟩ ⟨none, 0, 0⟩ = .tuple #[.agg #[.int .i64 0, .int .i64 0, .slice none 0 0], .int .i64 130] := fun h h2 h4 => ⟨by
    rw [show a - (m.G + m.L) = a - m.G - m.L by omega] at h4
    unfold joinK; rw [if_pos h, if_pos h2, if_neg (fun h5 => h4 h5.2)], if_neg h4⟩
  have qF : okM m → (0 ≤ q ∧ q < m.N) → okCk m.W ⟨a - (m.G + m.L), q, []⟩ → joinK m a q = (0, ⟨a - (m.G + m.L), q, []⟩) ∧ madeK m.W ⟨a - (m.G + m.L), q, []⟩ ⟨none, 0, 0⟩ = .tuple #[.agg #[.int .i64 (a - (m.G + m.L)), .int .i64 q, .slice none 0 0], .int .i64 0] := fun h h2 h4 => ⟨by
    have h6 := h4.1.1
    have h7 := (okM_nums h).2.2.1
    have h8 := (okM_nums h).2.2.2.2.1
    have h9 := (okM_nums h).2.2.2.1
    dsimp only at h6
    rw [show a - (m.G + m.L) = a - m.G - m.L by omega] at h4 ⊢
    unfold joinK; rw [if_pos h, if_pos h2, if_pos ⟨by omega, h4⟩], if_pos h4⟩
  unfold ResCk
  generalize joinK m a q = RR at *
  obtain ⟨ok, hokm⟩ : ∃ ok, ok = okM m := ⟨_, rfl⟩
  rw [← hokm] at qA qB qC qD qE qF hbn
  obtain ⟨x, hxe⟩ : ∃ x, x = m.G + m.L := ⟨_, rfl⟩
  rw [← hxe] at hx qD qE qF
  have hmd2 := fun h U hb => hmd h (a - x) U hb
  generalize hkc : okCk m.W ⟨a - x, q, []⟩ = okc at *
  generalize madeK m.W ⟨a - x, q, []⟩ ⟨none, 0, 0⟩ = MD at *
  generalize checkM m = cm at *
  clear hM hokm hkc hex hmd
  obtain ⟨N, S, G, W, D, L, cold, ms⟩ := m
  obtain ⟨Ac, nc, cc⟩ := c
  obtain ⟨As, ns, cs⟩ := s
  dsimp only [vM, cK] at *
  obtain ⟨km, kr, bc⟩ := bx2 w #[.int .i64 N, .int .i64 S, .int .i64 G, .int .i64 W, .int .i64 D, .int .i64 L, .slice Ac nc cc, .slice As ns cs] #[.int .i64 0, .int .i64 0, .slice none 0 0] 25 28
  obtain ⟨p0, p1, p2, p3, p4, p5, p6, p7⟩ := km.eight; obtain ⟨r0, r1, r2, g0, g1, g2⟩ := kr.three
  have HXE := Lib.hid hxe
  have HCK := Lib.hid hck; clear hck hxe
  by_cases hok : ok
  rotate_left
  · obtain ⟨rfl, rfl⟩ := qA hok
    clear qB qC qD qE qF hbn hx hmd2
    go_enter Try.func27, Try.ntmps27
    go_wp2_with (first | (go_at_call 33; refine (HCK.out _ bc).mono ?_; rintro e w1 ⟨rfl, hC⟩; dsimp only; (try clear p0 p1 p2 p3 p4 p5 p6 p7); (try clear r0 r1 r2 g0 g1 g2); replace km := km.on hC; replace kr := kr.on hC; replace bc := bc.trans (hC.mono bc.size); clear hC; obtain ⟨p0, p1, p2, p3, p4, p5, p6, p7⟩ := km.eight; obtain ⟨r0, r1, r2, g0, g1, g2⟩ := kr.three))
    exact bodyPost_ret (v := .tuple #[.agg #[.int .i64 0, .int .i64 0, .slice none 0 0], .int .i64 70]) (by simp [results, Try.results27, go_sem, r0, r1, r2]) rfl ⟨⟨none, 0, 0⟩, rfl, CkFr.zero _ _ _ _, by repeat (first | refine Below.setCell ?_ (by dsimp only; omega) _ | exact bc)⟩
  obtain rfl := qB hok
  replace qC := qC hok; replace qD := qD hok; replace qE := qE hok; replace qF := qF hok
  obtain ⟨⟨n4, n8⟩, -, ⟨l0, l1⟩, ⟨w0, w9⟩, ⟨g9, g8⟩, -⟩ := hbn hok
  (try dsimp only at n4 n8 l0 l1 w0 w9 g9 g8)
  have hxb : 0 ≤ x ∧ x ≤ 1048640 := by have := HXE.out; omega
  have HX := Lib.hid (hx (by omega) (by omega)); have HM := Lib.hid (hmd2 (by omega))
  clear qA qB hbn hx hmd2
  by_cases cA : 0 ≤ q
  rotate_left
  · obtain rfl := qC (by omega)
    have d1 : decide (q < 0) = true := by simp; omega
    clear qD qE qF
    go_enter Try.func27, Try.ntmps27
    go_wp2_with (first | (go_at_call 33; refine (HCK.out _ bc).mono ?_; rintro e w1 ⟨rfl, hC⟩; dsimp only; (try clear p0 p1 p2 p3 p4 p5 p6 p7); (try clear r0 r1 r2 g0 g1 g2); replace km := km.on hC; replace kr := kr.on hC; replace bc := bc.trans (hC.mono bc.size); clear hC; obtain ⟨p0, p1, p2, p3, p4, p5, p6, p7⟩ := km.eight; obtain ⟨r0, r1, r2, g0, g1, g2⟩ := kr.three))
    exact bodyPost_ret (v := .tuple #[.agg #[.int .i64 0, .int .i64 0, .slice none 0 0], .int .i64 2]) (by simp [results, Try.results27, go_sem, r0, r1, r2]) rfl ⟨⟨none, 0, 0⟩, rfl, CkFr.zero _ _ _ _, by repeat (first | refine Below.setCell ?_ (by dsimp only; omega) _ | exact bc)⟩
  have dcA : decide (q < 0) = false := by simp; omega
  by_cases cB : q < N
  rotate_left
  · obtain rfl := qC (by omega)
    have d1 : decide (N ≤ q) = true := by simp; omega
    clear qD qE qF
    go_enter Try.func27, Try.ntmps27
    go_wp2_with (first | (go_at_call 33; refine (HCK.out _ bc).mono ?_; rintro e w1 ⟨rfl, hC⟩; dsimp only; (try clear p0 p1 p2 p3 p4 p5 p6 p7); (try clear r0 r1 r2 g0 g1 g2); replace km := km.on hC; replace kr := kr.on hC; replace bc := bc.trans (hC.mono bc.size); clear hC; obtain ⟨p0, p1, p2, p3, p4, p5, p6, p7⟩ := km.eight; obtain ⟨r0, r1, r2, g0, g1, g2⟩ := kr.three))
    exact bodyPost_ret (v := .tuple #[.agg #[.int .i64 0, .int .i64 0, .slice none 0 0], .int .i64 2]) (by simp [results, Try.results27, go_sem, r0, r1, r2]) rfl ⟨⟨none, 0, 0⟩, rfl, CkFr.zero _ _ _ _, by repeat (first | refine Below.setCell ?_ (by dsimp only; omega) _ | exact bc)⟩
  have dcB : decide (N ≤ q) = false := by simp; omega
  replace qD := qD ⟨cA, cB⟩; replace qE := qE ⟨cA, cB⟩; replace qF := qF ⟨cA, cB⟩; clear qC
  by_cases cC : x ≤ a
  rotate_left
  · obtain rfl := qD (by omega)
    have d1 : decide (a < x) = true := by simp; omega
    clear qE qF
    go_enter Try.func27, Try.ntmps27
    go_wp2_with (first | (go_at_call 33; refine (HCK.out _ bc).mono ?_; rintro e w1 ⟨rfl, hC⟩; dsimp only; (try clear p0 p1 p2 p3 p4 p5 p6 p7); (try clear r0 r1 r2 g0 g1 g2); replace km := km.on hC; replace kr := kr.on hC; replace bc := bc.trans (hC.mono bc.size); clear hC; obtain ⟨p0, p1, p2, p3, p4, p5, p6, p7⟩ := km.eight; obtain ⟨r0, r1, r2, g0, g1, g2⟩ := kr.three) | (go_at_call 40; refine (HX.out _).mono ?_; rintro e w1 ⟨rfl, hC⟩; dsimp only; (try clear p0 p1 p2 p3 p4 p5 p6 p7); (try clear r0 r1 r2 g0 g1 g2); replace km := km.on hC; replace kr := kr.on hC; replace bc := bc.trans (hC.mono bc.size); clear hC; obtain ⟨p0, p1, p2, p3, p4, p5, p6, p7⟩ := km.eight; obtain ⟨r0, r1, r2, g0, g1, g2⟩ := kr.three))
    exact bodyPost_ret (v := .tuple #[.agg #[.int .i64 0, .int .i64 0, .slice none 0 0], .int .i64 130]) (by simp [results, Try.results27, go_sem, r0, r1, r2]) rfl ⟨⟨none, 0, 0⟩, rfl, CkFr.zero _ _ _ _, by repeat (first | refine Below.setCell ?_ (by dsimp only; omega) _ | exact bc)⟩
  have dC : decide (a < x) = false := by simp; omega
  clear qD
  have e1 : IntKind.i64.wrap (a - x) = a - x := IntWalk.i64_in _ (by omega)
  by_cases ho : okc
  rotate_left
  · obtain ⟨rfl, rfl⟩ := qE ho
    clear qF qE
    go_enter Try.func27, Try.ntmps27
    go_wp2_with (first | (go_at_call 33; refine (HCK.out _ bc).mono ?_; rintro e w1 ⟨rfl, hC⟩; dsimp only; (try clear p0 p1 p2 p3 p4 p5 p6 p7); (try clear r0 r1 r2 g0 g1 g2); replace km := km.on hC; replace kr := kr.on hC; replace bc := bc.trans (hC.mono bc.size); clear hC; obtain ⟨p0, p1, p2, p3, p4, p5, p6, p7⟩ := km.eight; obtain ⟨r0, r1, r2, g0, g1, g2⟩ := kr.three) | (go_at_call 40; refine (HX.out _).mono ?_; rintro e w1 ⟨rfl, hC⟩; dsimp only; (try clear p0 p1 p2 p3 p4 p5 p6 p7); (try clear r0 r1 r2 g0 g1 g2); replace km := km.on hC; replace kr := kr.on hC; replace bc := bc.trans (hC.mono bc.size); clear hC; obtain ⟨p0, p1, p2, p3, p4, p5, p6, p7⟩ := km.eight; obtain ⟨r0, r1, r2, g0, g1, g2⟩ := kr.three) | (go_at_call 41; refine (HM.out _ bc).mono ?_; rintro e w1 ⟨rfl, hC⟩; dsimp only; (try clear p0 p1 p2 p3 p4 p5 p6 p7); (try clear r0 r1 r2 g0 g1 g2); replace km := km.on hC; replace kr := kr.on hC; replace bc := bc.trans (hC.mono bc.size); clear hC; obtain ⟨p0, p1, p2, p3, p4, p5, p6, p7⟩ := km.eight; obtain ⟨r0, r1, r2, g0, g1, g2⟩ := kr.three))
    exact bodyPost_ret (v := .tuple #[.agg #[.int .i64 0, .int .i64 0, .slice none 0 0], .int .i64 130]) (by simp [results, Try.results27, go_sem, r0, r1, r2]) rfl ⟨⟨none, 0, 0⟩, rfl, CkFr.zero _ _ _ _, by repeat (first | refine Below.setCell ?_ (by dsimp only; omega) _ | exact bc)⟩
  · obtain ⟨rfl, rfl⟩ := qF ho
    clear qF qE
    go_enter Try.func27, Try.ntmps27
    go_wp2_with (first | (go_at_call 33; refine (HCK.out _ bc).mono ?_; rintro e w1 ⟨rfl, hC⟩; dsimp only; (try clear p0 p1 p2 p3 p4 p5 p6 p7); (try clear r0 r1 r2 g0 g1 g2); replace km := km.on hC; replace kr := kr.on hC; replace bc := bc.trans (hC.mono bc.size); clear hC; obtain ⟨p0, p1, p2, p3, p4, p5, p6, p7⟩ := km.eight; obtain ⟨r0, r1, r2, g0, g1, g2⟩ := kr.three) | (go_at_call 40; refine (HX.out _).mono ?_; rintro e w1 ⟨rfl, hC⟩; dsimp only; (try clear p0 p1 p2 p3 p4 p5 p6 p7); (try clear r0 r1 r2 g0 g1 g2); replace km := km.on hC; replace kr := kr.on hC; replace bc := bc.trans (hC.mono bc.size); clear hC; obtain ⟨p0, p1, p2, p3, p4, p5, p6, p7⟩ := km.eight; obtain ⟨r0, r1, r2, g0, g1, g2⟩ := kr.three) | (go_at_call 41; refine (HM.out _ bc).mono ?_; rintro e w1 ⟨rfl, hC⟩; dsimp only; (try clear p0 p1 p2 p3 p4 p5 p6 p7); (try clear r0 r1 r2 g0 g1 g2); replace km := km.on hC; replace kr := kr.on hC; replace bc := bc.trans (hC.mono bc.size); clear hC; obtain ⟨p0, p1, p2, p3, p4, p5, p6, p7⟩ := km.eight; obtain ⟨r0, r1, r2, g0, g1, g2⟩ := kr.three))
    exact bodyPost_ret (v := .tuple #[.agg #[.int .i64 (a - x), .int .i64 q, .slice none 0 0], .int .i64 0]) (by simp [results, Try.results27, go_sem, r0, r1, r2]) rfl ⟨⟨none, 0, 0⟩, rfl, CkFr.zero _ _ _ _, by repeat (first | refine Below.setCell ?_ (by dsimp only; omega) _ | exact bc)⟩
set_option maxRecDepth 100000 in
set_option maxHeartbeats 4000000 in
theorem same13 : ClkSameC := by
  intro k v r u w hk hr
  have heq := fun U (hb : Below w.heap.size w U) => jsame_any v.A u.A v.n u.n v.c u.c k.dv r.dv U hk.dn hr.dn hk.dm hr.dm ((hk.d.below hb).mono hb.size) ((hr.d.below hb).mono hb.size)
  have hno : ¬ k.st = r.st → sameK k r = false := fun h => decide_eq_false (fun h2 => h h2.1)
  have hno2 : ¬ k.sl = r.sl → sameK k r = false := fun h => decide_eq_false (fun h2 => h h2.2.1)
  have hyes : k.st = r.st → k.sl = r.sl → sameK k r = decide (k.dv = r.dv) := fun h h2 => by unfold sameK; simp [h, h2]
  generalize sameK k r = R at *
  generalize decide (k.dv = r.dv) = Q at *
  clear hk hr
  obtain ⟨st, sl, dv⟩ := k
  obtain ⟨A, n, c⟩ := v
  obtain ⟨st2, sl2, dv2⟩ := r
  obtain ⟨A2, n2, c2⟩ := u
  dsimp only [cK] at *
  obtain ⟨ka, kb, bc⟩ := bx2 w #[.int .i64 st, .int .i64 sl, .slice A n c] #[.int .i64 st2, .int .i64 sl2, .slice A2 n2 c2] 28 28
  obtain ⟨p0, p1, p2, -⟩ := ka.three; obtain ⟨q0, q1, q2, -⟩ := kb.three
  have HEQ := Lib.hid heq; clear heq
  by_cases c1 : st = st2
  rotate_left
  · obtain rfl := hno c1
    have d1 : (st == st2) = false := by simpa using c1
    have d2 : decide (st = st2) = false := by simpa using c1
    clear hno2 hyes
    go_enter Try.func14, Try.ntmps14
    go_wp2
    go_ret
    exact ⟨rfl, bc⟩
  subst c1
  by_cases c2 : sl = sl2
  rotate_left
  · obtain rfl := hno2 c2
    have d1 : (sl == sl2) = false := by simpa using c2
    have d2 : decide (sl = sl2) = false := by simpa using c2
    clear hno hyes
    go_enter Try.func14, Try.ntmps14
    go_wp2
    go_ret
    exact ⟨rfl, bc⟩
  subst c2
  obtain rfl := hyes rfl rfl
  clear hno hno2 hyes
  go_enter Try.func14, Try.ntmps14
  go_wp2_with (first | (go_at_call 29; refine (HEQ.out _ bc).mono ?_; rintro e w3 ⟨rfl, hC⟩; dsimp only; clear p0 p1 p2 q0 q1 q2 ka kb; replace bc := bc.trans (hC.mono bc.size); clear hC))
  go_ret
  exact ⟨rfl, bc⟩
end Go.Proofs.Ytlkmipcenlhacaa
