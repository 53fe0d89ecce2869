/-
  Write, Beat and Ask of package cni. Conditions: an interface, and data, that can be read. (Printed by tools/gen12jc.py.)
-/
import Derived.Test.YtnlmpemfpkmodaaJB
namespace Go.Proofs.Ytnlmpemfpkmodaa
open Go.RowKit

set_option maxRecDepth 100000 in
set_option maxHeartbeats 4000000 in
theorem pbeatCn_any (s : Cn) (v u : Sl3) (w : World) (h : CnOk w.heap.size w s v u) : Calls Try.prog 18 #[.agg (cCn s v u)] w (ResCn w (beatCn s)) := by
  have hno := fun U (hn : ¬ okCn s) (hb : Below w.heap.size w U) => ownedNo_any s v u U (h.on hb) hn
  have hclA := fun U (hn : okCn s) (hb : Below w.heap.size w U) => owned_any s v u U (h.on hb) hn
  unfold ResCn beatCn
  clear h
  obtain ⟨id, out, ms, life, want⟩ := s
  obtain ⟨A, n, c⟩ := v
  obtain ⟨B, m, d⟩ := u
  dsimp only [cCn] at *
  obtain ⟨kb, kr, bc⟩ := bx2 w #[.int .i64 id, .slice A n c, .slice B m d, .int .i64 life, .int .i64 want] #[.int .i64 0, .slice none 0 0, .slice none 0 0, .int .i64 0, .int .i64 0] 25 25
  obtain ⟨p0, p1, p2, p3, p4⟩ := kb.fiveI
  by_cases hok : okCn ⟨id, out, ms, life, want⟩
  rotate_left
  · rw [if_neg hok]
    have hnoB := fun U hb => hno U hok hb
    have HNO := Lib.hid hnoB; clear hnoB hno hclA
    go_enter Try.func18, Try.ntmps18
    go_upto_region 2 with (first | (go_at_call 42; refine (HNO.out _ bc).mono ?_; rintro e w1 ⟨rfl, hC⟩; dsimp only; clear p0 p1 p2 p3 p4; replace kb := kb.on hC; replace kr := kr.on hC; replace bc := bc.trans (hC.mono bc.size); clear hC; obtain ⟨p0, p1, p2, p3, p4⟩ := kb.fiveI))
    have kn := Blk.new w1 25 #[.int .i64 0, .slice none 0 0, .slice none 0 0, .int .i64 0, .int .i64 0]
    have al := Below.al w1 (.cells #[.int .i64 0, .slice none 0 0, .slice none 0 0, .int .i64 0, .int .i64 0] 25)
    have hgn := kr.lt
    clear p0 p1 p2 p3 p4
    replace kb := kb.on al; replace kr := kr.on al; replace bc := bc.trans (al.mono bc.size); clear al
    generalize w1.alloc (.cells #[.int .i64 0, .slice none 0 0, .slice none 0 0, .int .i64 0, .int .i64 0] 25) = u1 at *
    generalize w1.heap.size = gn at *
    clear w1
    obtain ⟨r0, r1, r2, r3, r4⟩ := kr.fiveI; obtain ⟨g0, g1, g2, g3, g4⟩ := kr.fiveFI
    go_wp2
    exact bodyPost_ret (v := .tuple #[.agg #[.int .i64 0, .slice none 0 0, .slice none 0 0, .int .i64 0, .int .i64 0], .int .i64 120]) (by simp [results, Try.results18, go_sem, r0, r1, r2, r3, r4]) rfl ⟨⟨none, 0, 0⟩, ⟨none, 0, 0⟩, rfl, CnFr.zero _ _, by repeat (first | refine Below.setCell ?_ (by dsimp only; omega) _ | exact bc)⟩
  rw [if_pos hok]
  have hclB := fun U hb => hclA U hok hb
  have HCL := Lib.hid hclB; clear hclB hclA hno hok
  go_enter Try.func18, Try.ntmps18
  go_upto_region 2 with (first | (go_at_call 42; refine (HCL.out _ bc).mono ?_; rintro e w1 ⟨⟨vA, vn, vc⟩, ⟨uA, un, uc⟩, l, rfl, hcl0, hC⟩; dsimp only [cCn]; clear p0 p1 p2 p3 p4; replace kb := kb.on hC; replace kr := kr.on hC; have hcl := own_cl hcl0 bc.size; clear hcl0; replace bc := bc.trans (hC.mono bc.size); clear hC; obtain ⟨p0, p1, p2, p3, p4⟩ := kb.fiveI))
  have kn := Blk.new w1 25 #[.int .i64 id, .slice vA vn vc, .slice uA un uc, .int .i64 life, .int .i64 want]
  have al := Below.al w1 (.cells #[.int .i64 id, .slice vA vn vc, .slice uA un uc, .int .i64 life, .int .i64 want] 25)
  have hgn := kr.lt
  clear p0 p1 p2 p3 p4
  replace kb := kb.on al; replace kr := kr.on al; replace hcl := hcl.on al; replace bc := bc.trans (al.mono bc.size); clear al
  generalize w1.alloc (.cells #[.int .i64 id, .slice vA vn vc, .slice uA un uc, .int .i64 life, .int .i64 want] 25) = u1 at *
  generalize w1.heap.size = gn at *
  clear w1
  obtain ⟨r0, r1, r2, r3, r4⟩ := kr.fiveI; obtain ⟨g0, g1, g2, g3, g4⟩ := kr.fiveFI
  obtain ⟨n0, n1, n2, n3, n4⟩ := kn.fiveI; obtain ⟨m0, m1, m2, m3, m4⟩ := kn.fiveFI
  have hG := only_setCell (World.grownBy.refl u1 (some gn)) (p := ⟨gn, 3, none⟩) (.inl rfl) (.int .i64 4)
  have hcl4 := hcl.keep kn (by decide) (by decide) hG
  have kr4 := kr.grown hG (some_ne (by omega))
  have bc4 := Below.off bc bc.size (by omega) hG
  have HCL4 := Lib.hid hcl4; clear hcl4 hG hcl
  go_wp2
  exact bodyPost_ret (v := .tuple #[.agg #[.int .i64 id, .slice vA vn vc, .slice uA un uc, .int .i64 4, .int .i64 want], .int .i64 0]) (by simp [results, Try.results18, go_sem, r0, r1, r2, r3, r4]) rfl ⟨⟨vA, vn, vc⟩, ⟨uA, un, uc⟩, rfl, (ClOk.fr (l := l) (HCL4.out.keep kr4 (by decide) (by decide) (grown5I _ _ _ _ _ _ _))), by repeat (first | refine Below.setCell ?_ (by dsimp only; omega) _ | exact bc)⟩
set_option maxRecDepth 100000 in
set_option maxHeartbeats 4000000 in
theorem paskCn_any (s : Cn) (v u : Sl3) (q : Int) (w : World) (h : CnOk w.heap.size w s v u) : Calls Try.prog 20 #[.agg (cCn s v u), .int .i64 q] w (ResCn w (askCn s q)) := by
  have hwa := fun U => isWant_any q U
  have q0 : ¬ okCn s → askCn s q = (120, zeroCn) := fun h => by unfold askCn; rw [if_neg h]
  have q1 : okCn s → ¬ (-1 ≤ q ∧ q < 4) → askCn s q = (2, zeroCn) := fun h h2 => by unfold askCn; rw [if_pos h, if_neg h2]
  have q3 : okCn s → (-1 ≤ q ∧ q < 4) → askCn s q = (0, ⟨s.id, s.out, s.ms, s.life, q⟩) := fun h h2 => by unfold askCn; rw [if_pos h, if_pos h2]
  generalize askCn s q = RR at *
  have hno := fun U (hn : ¬ okCn s) (hb : Below w.heap.size w U) => ownedNo_any s v u U (h.on hb) hn
  have hclA := fun U (hn : okCn s) (hb : Below w.heap.size w U) => owned_any s v u U (h.on hb) hn
  unfold ResCn
  clear h
  obtain ⟨id, out, ms, life, want⟩ := s
  obtain ⟨A, n, c⟩ := v
  obtain ⟨B, m, d⟩ := u
  dsimp only [cCn] at *
  obtain ⟨kb, kr, bc⟩ := bx2 w #[.int .i64 id, .slice A n c, .slice B m d, .int .i64 life, .int .i64 want] #[.int .i64 0, .slice none 0 0, .slice none 0 0, .int .i64 0, .int .i64 0] 25 25
  obtain ⟨p0, p1, p2, p3, p4⟩ := kb.fiveI
  by_cases hok : okCn ⟨id, out, ms, life, want⟩
  rotate_left
  · obtain rfl := q0 hok
    have hnoB := fun U hb => hno U hok hb
    have HNO := Lib.hid hnoB; clear hnoB hno hclA hwa q1 q3
    go_enter Try.func20, Try.ntmps20
    go_upto_region 2 with (first | (go_at_call 42; refine (HNO.out _ bc).mono ?_; rintro e w1 ⟨rfl, hC⟩; dsimp only; clear p0 p1 p2 p3 p4; replace kb := kb.on hC; replace kr := kr.on hC; replace bc := bc.trans (hC.mono bc.size); clear hC; obtain ⟨p0, p1, p2, p3, p4⟩ := kb.fiveI))
    have kn := Blk.new w1 25 #[.int .i64 0, .slice none 0 0, .slice none 0 0, .int .i64 0, .int .i64 0]
    have al := Below.al w1 (.cells #[.int .i64 0, .slice none 0 0, .slice none 0 0, .int .i64 0, .int .i64 0] 25)
    have hgn := kr.lt
    clear p0 p1 p2 p3 p4
    replace kb := kb.on al; replace kr := kr.on al; replace bc := bc.trans (al.mono bc.size); clear al
    generalize w1.alloc (.cells #[.int .i64 0, .slice none 0 0, .slice none 0 0, .int .i64 0, .int .i64 0] 25) = u1 at *
    generalize w1.heap.size = gn at *
    clear w1
    obtain ⟨r0, r1, r2, r3, r4⟩ := kr.fiveI; obtain ⟨g0, g1, g2, g3, g4⟩ := kr.fiveFI
    go_wp2
    exact bodyPost_ret (v := .tuple #[.agg #[.int .i64 0, .slice none 0 0, .slice none 0 0, .int .i64 0, .int .i64 0], .int .i64 120]) (by simp [results, Try.results20, go_sem, r0, r1, r2, r3, r4]) rfl ⟨⟨none, 0, 0⟩, ⟨none, 0, 0⟩, rfl, CnFr.zero _ _, by repeat (first | refine Below.setCell ?_ (by dsimp only; omega) _ | exact bc)⟩
  have q1 := q1 hok; have q3 := q3 hok; clear q0
  have hclB := fun U hb => hclA U hok hb
  have HCL := Lib.hid hclB; clear hclB hclA hno hok
  obtain ⟨zw, hzw⟩ : ∃ z, z = (decide (-1 ≤ q) && decide (q < 4)) := ⟨_, rfl⟩
  rw [← hzw] at hwa
  have w1 : zw = true → -1 ≤ q ∧ q < 4 := fun e => by rw [hzw] at e; simpa using e
  have w0 : zw = false → ¬ (-1 ≤ q ∧ q < 4) := fun e h => by rw [hzw] at e; simp [h.1, h.2] at e
  clear hzw
  have HWA := Lib.hid hwa; clear hwa
  go_enter Try.func20, Try.ntmps20
  go_upto_region 2 with (first | (go_at_call 42; refine (HCL.out _ bc).mono ?_; rintro e w1 ⟨⟨vA, vn, vc⟩, ⟨uA, un, uc⟩, l, rfl, hcl0, hC⟩; dsimp only [cCn]; clear p0 p1 p2 p3 p4; replace kb := kb.on hC; replace kr := kr.on hC; have hcl := own_cl hcl0 bc.size; clear hcl0; replace bc := bc.trans (hC.mono bc.size); clear hC; obtain ⟨p0, p1, p2, p3, p4⟩ := kb.fiveI))
  have kn := Blk.new w1 25 #[.int .i64 id, .slice vA vn vc, .slice uA un uc, .int .i64 life, .int .i64 want]
  have al := Below.al w1 (.cells #[.int .i64 id, .slice vA vn vc, .slice uA un uc, .int .i64 life, .int .i64 want] 25)
  have hgn := kr.lt
  clear p0 p1 p2 p3 p4
  replace kb := kb.on al; replace kr := kr.on al; replace hcl := hcl.on al; replace bc := bc.trans (al.mono bc.size); clear al
  generalize w1.alloc (.cells #[.int .i64 id, .slice vA vn vc, .slice uA un uc, .int .i64 life, .int .i64 want] 25) = u1 at *
  generalize w1.heap.size = gn at *
  clear w1
  cases zw with
  | false =>
    obtain rfl := q1 (w0 rfl)
    clear w0 w1 hcl q3
    obtain ⟨r0, r1, r2, r3, r4⟩ := kr.fiveI; obtain ⟨g0, g1, g2, g3, g4⟩ := kr.fiveFI
    go_wp2_with (first | (go_at_call 39; refine (HWA.out _).mono ?_; rintro e w2 ⟨rfl, rfl⟩; dsimp only))
    exact bodyPost_ret (v := .tuple #[.agg #[.int .i64 0, .slice none 0 0, .slice none 0 0, .int .i64 0, .int .i64 0], .int .i64 2]) (by simp [results, Try.results20, go_sem, r0, r1, r2, r3, r4]) rfl ⟨⟨none, 0, 0⟩, ⟨none, 0, 0⟩, rfl, CnFr.zero _ _, by repeat (first | refine Below.setCell ?_ (by dsimp only; omega) _ | exact bc)⟩
  | true =>
    obtain rfl := q3 (w1 rfl)
    clear w0 w1 q1
    obtain ⟨r0, r1, r2, r3, r4⟩ := kr.fiveI; obtain ⟨g0, g1, g2, g3, g4⟩ := kr.fiveFI
    obtain ⟨n0, n1, n2, n3, n4⟩ := kn.fiveI; obtain ⟨m0, m1, m2, m3, m4⟩ := kn.fiveFI
    have hG := only_setCell (World.grownBy.refl u1 (some gn)) (p := ⟨gn, 4, none⟩) (.inl rfl) (.int .i64 q)
    have hcl4 := hcl.keep kn (by decide) (by decide) hG
    have kr4 := kr.grown hG (some_ne (by omega))
    have bc4 := Below.off bc bc.size (by omega) hG
    have HCL4 := Lib.hid hcl4; clear hcl4 hG hcl
    go_wp2_with (first | (go_at_call 39; refine (HWA.out _).mono ?_; rintro e w2 ⟨rfl, rfl⟩; dsimp only))
    exact bodyPost_ret (v := .tuple #[.agg #[.int .i64 id, .slice vA vn vc, .slice uA un uc, .int .i64 life, .int .i64 q], .int .i64 0]) (by simp [results, Try.results20, go_sem, r0, r1, r2, r3, r4]) rfl ⟨⟨vA, vn, vc⟩, ⟨uA, un, uc⟩, rfl, (ClOk.fr (l := l) (HCL4.out.keep kr4 (by decide) (by decide) (grown5I _ _ _ _ _ _ _))), by repeat (first | refine Below.setCell ?_ (by dsimp only; omega) _ | exact bc)⟩
set_option maxRecDepth 100000 in
set_option maxHeartbeats 4000000 in
theorem pwriteCn_any (s : Cn) (v u : Sl3) (x : Sl3) (bs : List UInt8) (w : World) (h : CnOk w.heap.size w s v u) (hx : BOk w.heap.size w bs x) : Calls Try.prog 16 #[.agg (cCn s v u), .slice x.A x.n x.c] w (ResCn w (writeCn s bs)) := by
  have hxn := hx.bn
  have hcx := fun U (h8 : bs.length ≤ 8) (hb : Below w.heap.size w U) => copied12_any x bs U (hx.on hb) h8
  clear hx
  obtain ⟨xA, xn, xc⟩ := x
  dsimp only at hxn hcx
  have q0 : ¬ okCn s → writeCn s bs = (120, zeroCn) := fun h => by unfold writeCn; rw [if_neg h]
  have q1 : okCn s → ¬ xn ≤ 8 → writeCn s bs = (3, zeroCn) := fun h h2 => by unfold writeCn; rw [if_pos h, if_neg (by omega)]
  have q3 : okCn s → xn ≤ 8 → writeCn s bs = (0, ⟨s.id, bs, s.ms, s.life, s.want⟩) := fun h h2 => by unfold writeCn; rw [if_pos h, if_pos (by omega)]
  generalize writeCn s bs = RR at *
  have hno := fun U (hn : ¬ okCn s) (hb : Below w.heap.size w U) => ownedNo_any s v u U (h.on hb) hn
  have hclA := fun U (hn : okCn s) (hb : Below w.heap.size w U) => owned_any s v u U (h.on hb) hn
  unfold ResCn
  clear h
  obtain ⟨id, out, ms, life, want⟩ := s
  obtain ⟨A, n, c⟩ := v
  obtain ⟨B, m, d⟩ := u
  dsimp only [cCn] at *
  obtain ⟨kb, kr, bc⟩ := bx2 w #[.int .i64 id, .slice A n c, .slice B m d, .int .i64 life, .int .i64 want] #[.int .i64 0, .slice none 0 0, .slice none 0 0, .int .i64 0, .int .i64 0] 25 25
  obtain ⟨p0, p1, p2, p3, p4⟩ := kb.fiveI
  by_cases hok : okCn ⟨id, out, ms, life, want⟩
  rotate_left
  · obtain rfl := q0 hok
    have hnoB := fun U hb => hno U hok hb
    have HNO := Lib.hid hnoB; clear hnoB hno hclA hcx hxn q1 q3
    go_enter Try.func16, Try.ntmps16
    go_upto_region 2 with (first | (go_at_call 42; refine (HNO.out _ bc).mono ?_; rintro e w1 ⟨rfl, hC⟩; dsimp only; clear p0 p1 p2 p3 p4; replace kb := kb.on hC; replace kr := kr.on hC; replace bc := bc.trans (hC.mono bc.size); clear hC; obtain ⟨p0, p1, p2, p3, p4⟩ := kb.fiveI))
    have kn := Blk.new w1 25 #[.int .i64 0, .slice none 0 0, .slice none 0 0, .int .i64 0, .int .i64 0]
    have al := Below.al w1 (.cells #[.int .i64 0, .slice none 0 0, .slice none 0 0, .int .i64 0, .int .i64 0] 25)
    have hgn := kr.lt
    clear p0 p1 p2 p3 p4
    replace kb := kb.on al; replace kr := kr.on al; replace bc := bc.trans (al.mono bc.size); clear al
    generalize w1.alloc (.cells #[.int .i64 0, .slice none 0 0, .slice none 0 0, .int .i64 0, .int .i64 0] 25) = u1 at *
    generalize w1.heap.size = gn at *
    clear w1
    obtain ⟨r0, r1, r2, r3, r4⟩ := kr.fiveI; obtain ⟨g0, g1, g2, g3, g4⟩ := kr.fiveFI
    go_wp2
    exact bodyPost_ret (v := .tuple #[.agg #[.int .i64 0, .slice none 0 0, .slice none 0 0, .int .i64 0, .int .i64 0], .int .i64 120]) (by simp [results, Try.results16, go_sem, r0, r1, r2, r3, r4]) rfl ⟨⟨none, 0, 0⟩, ⟨none, 0, 0⟩, rfl, CnFr.zero _ _, by repeat (first | refine Below.setCell ?_ (by dsimp only; omega) _ | exact bc)⟩
  have q1 := q1 hok; have q3 := q3 hok; clear q0
  have hclB := fun U hb => hclA U hok hb
  have HCL := Lib.hid hclB; clear hclB hclA hno hok
  go_enter Try.func16, Try.ntmps16
  go_upto_region 2 with (first | (go_at_call 42; refine (HCL.out _ bc).mono ?_; rintro e w1 ⟨⟨vA, vn, vc⟩, ⟨uA, un, uc⟩, l, rfl, hcl0, hC⟩; dsimp only [cCn]; clear p0 p1 p2 p3 p4; replace kb := kb.on hC; replace kr := kr.on hC; have hcl := own_cl hcl0 bc.size; clear hcl0; replace bc := bc.trans (hC.mono bc.size); clear hC; obtain ⟨p0, p1, p2, p3, p4⟩ := kb.fiveI))
  have kn := Blk.new w1 25 #[.int .i64 id, .slice vA vn vc, .slice uA un uc, .int .i64 life, .int .i64 want]
  have al := Below.al w1 (.cells #[.int .i64 id, .slice vA vn vc, .slice uA un uc, .int .i64 life, .int .i64 want] 25)
  have hgn := kr.lt
  clear p0 p1 p2 p3 p4
  replace kb := kb.on al; replace kr := kr.on al; replace hcl := hcl.on al; replace bc := bc.trans (al.mono bc.size); clear al
  generalize w1.alloc (.cells #[.int .i64 id, .slice vA vn vc, .slice uA un uc, .int .i64 life, .int .i64 want] 25) = u1 at *
  generalize w1.heap.size = gn at *
  clear w1
  by_cases c1 : xn ≤ 8
  rotate_left
  · obtain rfl := q1 c1
    have d1 : decide (8 < (xn : Int)) = true := by simp; omega
    clear hxn hcx hcl q3
    obtain ⟨r0, r1, r2, r3, r4⟩ := kr.fiveI; obtain ⟨g0, g1, g2, g3, g4⟩ := kr.fiveFI
    go_wp2
    exact bodyPost_ret (v := .tuple #[.agg #[.int .i64 0, .slice none 0 0, .slice none 0 0, .int .i64 0, .int .i64 0], .int .i64 3]) (by simp [results, Try.results16, go_sem, r0, r1, r2, r3, r4]) rfl ⟨⟨none, 0, 0⟩, ⟨none, 0, 0⟩, rfl, CnFr.zero _ _, by repeat (first | refine Below.setCell ?_ (by dsimp only; omega) _ | exact bc)⟩
  have d1 : decide (8 < (xn : Int)) = false := by simp; omega
  obtain rfl := q3 c1
  clear q1
  have hcy := fun U hb => hcx U (by omega) hb
  have HCX := Lib.hid hcy
  clear hcx hcy hxn
  obtain ⟨n0, n1, n2, n3, n4⟩ := kn.fiveI; obtain ⟨m0, m1, m2, m3, m4⟩ := kn.fiveFI
  go_upto_region 7 with (first | (go_at_call 43; refine (HCX.out _ bc).mono ?_; rintro e w5 ⟨A5, c5, rfl, hown, hC⟩; dsimp only at hown ⊢; have hown5 := own_mono hown bc.size; have hcl5 := hcl.on hC; replace kn := kn.on hC; replace kr := kr.on hC; replace bc := bc.trans (hC.mono bc.size); clear hC hown hcl; (try clear p0 p1 p2 p3 p4); (try clear r0 r1 r2 r3 r4 g0 g1 g2 g3 g4); (try clear n0 n1 n2 n3 n4 m0 m1 m2 m3 m4); obtain ⟨n0, n1, n2, n3, n4⟩ := kn.fiveI; obtain ⟨m0, m1, m2, m3, m4⟩ := kn.fiveFI))
  have hnew : ClOk w.heap.size w5 ⟨id, bs, ms, life, want⟩ ⟨A5, xn, c5⟩ ⟨uA, un, uc⟩ l := ⟨hcl5.1, hcl5.2.1, hcl5.2.2.1, hown5⟩
  clear hcl5 hown5
  have hG := only_setCell (World.grownBy.refl w5 (some gn)) (p := ⟨gn, 1, none⟩) (.inl rfl) (.slice A5 xn c5)
  have hcl4 := hnew.keep kn (by decide) (by decide) hG
  have kr4 := kr.grown hG (some_ne (by omega))
  have bc4 := Below.off bc bc.size (by omega) hG
  have HCL4 := Lib.hid hcl4; clear hcl4 hG hnew
  have kn4 : Blk (w5.setCell ⟨gn, 1, none⟩ (.slice A5 xn c5)) gn 25 #[.int .i64 id, .slice A5 xn c5, .slice uA un uc, .int .i64 life, .int .i64 want] := by simpa using kn.set_ 1 (.slice A5 xn c5)
  (try clear p0 p1 p2 p3 p4); (try clear r0 r1 r2 r3 r4 g0 g1 g2 g3 g4); (try clear n0 n1 n2 n3 n4 m0 m1 m2 m3 m4)
  clear kn kr bc
  generalize w5.setCell ⟨gn, 1, none⟩ (.slice A5 xn c5) = u6 at *
  have kn := kn4; have kr := kr4; have bc := bc4; clear kn4 bc4
  obtain ⟨r0, r1, r2, r3, r4⟩ := kr.fiveI; obtain ⟨g0, g1, g2, g3, g4⟩ := kr.fiveFI
  obtain ⟨n0, n1, n2, n3, n4⟩ := kn.fiveI; obtain ⟨m0, m1, m2, m3, m4⟩ := kn.fiveFI
  go_wp2
  exact bodyPost_ret (v := .tuple #[.agg #[.int .i64 id, .slice A5 xn c5, .slice uA un uc, .int .i64 life, .int .i64 want], .int .i64 0]) (by simp [results, Try.results16, go_sem, r0, r1, r2, r3, r4]) rfl ⟨⟨A5, xn, c5⟩, ⟨uA, un, uc⟩, rfl, (ClOk.fr (l := l) (HCL4.out.keep kr4 (by decide) (by decide) (grown5I _ _ _ _ _ _ _))), by repeat (first | refine Below.setCell ?_ (by dsimp only; omega) _ | exact bc)⟩
end Go.Proofs.Ytnlmpemfpkmodaa
