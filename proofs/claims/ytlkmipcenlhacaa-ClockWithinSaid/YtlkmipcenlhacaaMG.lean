/-
  leastWindow, leastGap and leastSlot of package medl; and whether a mode may not be one of a list's. Conditions: those that each theorem names.
-/
import Derived.Test.YtlkmipcenlhacaaMF
namespace Go.Proofs.Ytlkmipcenlhacaa
open Go.RowKit

theorem mul_small {N D : Int} (h0 : 0 ≤ N) (h1 : N ≤ 8) (d0 : 0 ≤ D) (d1 : D ≤ 64) : 0 ≤ N * D ∧ N * D ≤ 512 := by
  refine ⟨Int.mul_nonneg h0 d0, ?_⟩
  have h2 : N * D ≤ 8 * D := Int.mul_le_mul_of_nonneg_right h1 d0
  omega
set_option maxRecDepth 8000 in
set_option maxHeartbeats 1000000 in
theorem leastWindow_any (m : ML) (c s : Slc) (w : World) (h0 : 0 ≤ m.N) (h1 : m.N ≤ 8) (d0 : 0 ≤ m.D) (d1 : m.D ≤ 64) :
    Calls Try.prog 49 #[vM m c s] w fun e w' => e = .returned (.int .i64 (16 * m.N * m.D + 16)) ∧ Below w.heap.size w w' := by
  obtain ⟨N, S, G, W, D, L, cold, ms⟩ := m
  obtain ⟨Ac, nc, cc⟩ := c
  obtain ⟨As, ns, cs⟩ := s
  dsimp only [vM] at *
  obtain ⟨hp0, hp1⟩ := mul_small h0 h1 d0 d1
  have e1 : 16 * N * D = 16 * (N * D) := Int.mul_assoc _ _ _
  have w1 : IntKind.i64.wrap (16 * N) = 16 * N := IntWalk.i64_in _ (by omega)
  have w2 : IntKind.i64.wrap (16 * N * D) = 16 * N * D := IntWalk.i64_in _ (by rw [e1]; omega)
  have w3 : IntKind.i64.wrap (16 * N * D + 16) = 16 * N * D + 16 := IntWalk.i64_in _ (by rw [e1]; omega)
  clear e1 hp0 hp1
  go_enter Try.func49, Try.ntmps49
  go_wp2
  go_ret
  exact ⟨rfl, Below.al _ _⟩
set_option maxRecDepth 8000 in
set_option maxHeartbeats 1000000 in
theorem leastGap_any (m : ML) (c s : Slc) (w : World) (h0 : 0 ≤ m.W) (h1 : m.W ≤ 1048576) (d0 : 0 ≤ m.L) (d1 : m.L ≤ 64) :
    Calls Try.prog 50 #[vM m c s] w fun e w' => e = .returned (.int .i64 (2 * m.W + 2 * m.L + 4)) ∧ Below w.heap.size w w' := by
  obtain ⟨N, S, G, W, D, L, cold, ms⟩ := m
  obtain ⟨Ac, nc, cc⟩ := c
  obtain ⟨As, ns, cs⟩ := s
  dsimp only [vM] at *
  have w1 : IntKind.i64.wrap (2 * W) = 2 * W := IntWalk.i64_in _ (by omega)
  have w4 : IntKind.i64.wrap (2 * L) = 2 * L := IntWalk.i64_in _ (by omega)
  have w2 : IntKind.i64.wrap (2 * W + 2 * L) = 2 * W + 2 * L := IntWalk.i64_in _ (by omega)
  have w3 : IntKind.i64.wrap (2 * W + 2 * L + 4) = 2 * W + 2 * L + 4 := IntWalk.i64_in _ (by omega)
  go_enter Try.func50, Try.ntmps50
  go_wp2
  go_ret
  exact ⟨rfl, Below.al _ _⟩
set_option maxRecDepth 8000 in
set_option maxHeartbeats 1000000 in
theorem leastSlot_any (m : ML) (c s : Slc) (w : World) (h0 : 0 ≤ m.G) (h1 : m.G ≤ 1048576) (hM : Med w m c s) :
    Calls Try.prog 51 #[vM m c s] w fun e w' => e = .returned (.int .i64 (2 * m.G + maxAirS m.N m.ms)) ∧ Below w.heap.size w w' := by
  have hma := fun W (h : Below w.heap.size w W) => maxAir_any m c s W (hM.on h)
  have har := maxAir_range m.N m.ms
  generalize maxAirS m.N m.ms = x at *
  obtain ⟨N, S, G, W, D, L, cold, ms⟩ := m
  obtain ⟨Ac, nc, cc⟩ := c
  obtain ⟨As, ns, cs⟩ := s
  dsimp only [vM] at *
  have HMA := Lib.hid hma; clear hma hM
  have w1 : IntKind.i64.wrap (2 * G) = 2 * G := IntWalk.i64_in _ (by omega)
  have w2 : IntKind.i64.wrap (2 * G + x) = 2 * G + x := IntWalk.i64_in _ (by omega)
  obtain ⟨kb, bc⟩ := bx1 w #[.int .i64 N, .int .i64 S, .int .i64 G, .int .i64 W, .int .i64 D, .int .i64 L, .slice Ac nc cc, .slice As ns cs] 25
  obtain ⟨n0, n1, n2, n3, n4, n5, n6, n7⟩ := near_eight kb
  have BC := Lib.hid bc; clear bc kb
  go_enter Try.func51, Try.ntmps51
  go_wp2_with fail
  refine wp_region_near (by kernel_rfl) (by kernel_rfl) ?_
  repeat (go_big_quiet_step (first | (go_at_call 63; exact near_call (HMA.out _ (below_then BC.out (NearW.h _))))))
  refine wpQuiet_nil ?_
  rintro _ ⟨nw, rfl⟩
  go_wp2
  go_ret
  exact ⟨rfl, below_then BC.out nw.h⟩

theorem data_any (d : List Int) : dataOk d = !d.any (beyondS 0 8) := by
  unfold dataOk
  rw [List.not_any_eq_all_not]
  congr 1
  funext v
  unfold beyondS
  by_cases h0 : v < 0 <;> by_cases h1 : 8 < v <;> simp [h0, h1] <;> omega
set_option maxRecDepth 100000 in
set_option maxHeartbeats 4000000 in
theorem unfit1_any (m : ML) (c s : Slc) (gm : Nat) (o : Md) (v : MdV) (w : World) (hkm : Blk w gm 25 (cM m c s)) (hM : Med w m c s) (hN : (m.cold.length : Int) = m.N) (hv : MdOk w.heap.size w o v) :
    Calls Try.prog 60 #[vO v, .pointer (some ⟨gm, 0, none⟩)] w fun e w' => e = .returned (.bool (!okMode m.N m.cold m.ms.length o)) ∧ Below w.heap.size w w' := by
  have hsn : s.n = m.ms.length := hM.sn
  have hcn : c.n = m.cold.length := hM.cn
  have hcm : c.n ≤ maxLen := hM.cm
  have hcb := hM.cb
  obtain ⟨R, hR⟩ : ∃ R, R = !okMode m.N m.cold m.ms.length o := ⟨_, rfl⟩
  rw [← hR]
  unfold okMode at hR
  obtain ⟨N, S, G, W, D, L, cold, ms⟩ := m
  obtain ⟨Ac, nc, cc⟩ := c
  obtain ⟨As, ns, cs⟩ := s
  have hvd := hv.d; have hvdn := hv.dn; have hvdm := hv.dm; have hvx := hv.x; have hvxn := hv.xn; have hvxm := hv.xm; have hvnn := hv.nn
  obtain ⟨⟨Ad, nd, cd⟩, ⟨Ax, nx, cx⟩, ⟨An, nn, cn⟩⟩ := v
  clear hv hM
  dsimp only [vO, cM] at *
  have HSN := Lib.hid hsn; have HCN := Lib.hid hcn; have HDN := Lib.hid hvdn; have HXN := Lib.hid hvxn; have HNN := Lib.hid hvnn; have HD := Lib.hid hvd; have HX := Lib.hid hvx; have HC := Lib.hid hcb; have HN := Lib.hid hN
  clear hsn hcn hvdn hvxn hvnn hvd hvx hcb hN
  obtain ⟨ko, bc⟩ := bx1 w #[.slice Ad nd cd, .slice Ax nx cx, .slice An nn cn] 71
  replace hkm := hkm.on bc
  have hbe := fun W => beyond_any 0 8 W
  have HBE := Lib.hid hbe; clear hbe
  by_cases c1 : (nd : Int) = N
  · have d1 : ((nd : Int) != N) = false := by simpa using c1
    have hR2 : R = !(dataOk o.d && ((decide ((nx : Int) = N) && withCold o.x cold) && decide (nn = ns))) := by
      rw [hR, ← HDN.out, ← HXN.out, ← HNN.out, ← HSN.out]; simp [c1]
    clear hR
    obtain ⟨B, hB⟩ : ∃ B, B = o.d.any (beyondS 0 8) := ⟨_, rfl⟩
    rw [data_any, ← hB] at hR2
    have hct := fun g W (h : Below w.heap.size w W) h1 h2 => containsI_any Ad nd cd o.d 0 8 g W HDN.out hvdm ((HD.out.below h).mono h.size) h1 h2
    rw [← hB] at hct
    have HCT := Lib.hid hct; have HCO := Lib.hid c1; clear hct hB c1
    go_enter Try.func60, Try.ntmps60
    go_wp2_with fail
    generalize w.alloc (.cells #[.slice Ad nd cd, .slice Ax nx cx, .slice An nn cn] 71) = u1 at *
    have hdr : Below u1.heap.size u1 u1.drew := (Below.refl _ _).drew
    replace hkm := hkm.on hdr; replace ko := ko.on hdr; replace bc := bc.trans (hdr.mono bc.size); clear hdr
    obtain ⟨p0, p1, p2, p3, p4, p5, p6, p7⟩ := hkm.eight
    obtain ⟨q0, q1, q2, -⟩ := ko.three
    cases B with
    | true =>
      obtain rfl : R = true := by rw [hR2]; rfl
      clear hR2
      go_region_held3 (fun w' => w'.cell? ⟨gm, 0, none⟩ = some (.int .i64 N) ∧ w'.cell? ⟨w.heap.size, 0, none⟩ = some (.slice Ad nd cd)) (first | exact ⟨p0, q0⟩) (first
        | (go_at_call 45; refine (HBE.out _).mono ?_; rintro e w2 ⟨g, rfl, hg, k1, k2, hC⟩; dsimp only; replace hkm := hkm.on hC; replace ko := ko.on hC; replace bc := bc.trans (hC.mono bc.size); clear hC; obtain ⟨p0, -⟩ := hkm.eight; obtain ⟨q0, q1, q2, -⟩ := ko.three)
        | (go_at_call 61; refine (HCT.out _ _ bc k1 k2).mono ?_; rintro e w3 ⟨rfl, rfl⟩))
      all_goals
        go_wp2
        go_ret
        exact ⟨rfl, bc⟩
    | false =>
      have hR3 : R = !((decide ((nx : Int) = N) && withCold o.x cold) && decide (nn = ns)) := by rw [hR2]; simp
      clear hR2
      go_region_held3 (fun w' => w'.cell? ⟨gm, 0, none⟩ = some (.int .i64 N) ∧ w'.cell? ⟨w.heap.size, 0, none⟩ = some (.slice Ad nd cd)) (first | exact ⟨p0, q0⟩) (first
        | (go_at_call 45; refine (HBE.out _).mono ?_; rintro e w2 ⟨g, rfl, hg, k1, k2, hC⟩; dsimp only; replace hkm := hkm.on hC; replace ko := ko.on hC; replace bc := bc.trans (hC.mono bc.size); clear hC; obtain ⟨p0, -⟩ := hkm.eight; obtain ⟨q0, q1, q2, -⟩ := ko.three)
        | (go_at_call 61; refine (HCT.out _ _ bc k1 k2).mono ?_; rintro e w3 ⟨rfl, rfl⟩))
      clear p0 p1 p2 p3 p4 p5 p6 p7 q0 q1 q2 k1 k2
      obtain ⟨p0, p1, p2, p3, p4, p5, p6, p7⟩ := hkm.eight
      obtain ⟨q0, q1, q2, q3⟩ := ko.three
      by_cases c2 : (nx : Int) = N
      · have d2 : ((nx : Int) != N) = false := by simpa using c2
        have hR4 : R = !(withCold o.x cold && decide (nn = ns)) := by rw [hR3]; simp [c2]
        clear hR3
        have hho := holdsWith_any Ax Ac nx cx nc cc o.x cold w2 HXN.out HCN.out hcm (by have := HN.out; have := HCN.out; omega) ((HX.out.below bc).mono bc.size) ((HC.out.below bc).mono bc.size)
        generalize withCold o.x cold = V at *
        have HHO := Lib.hid hho; clear hho c2
        cases V with
        | false =>
          obtain rfl : R = true := by rw [hR4]; rfl
          clear hR4
          go_wp2_with (go_at_call 62; refine HHO.out.mono ?_; rintro e w4 ⟨rfl, rfl⟩)
          go_ret
          exact ⟨rfl, bc⟩
        | true =>
          have hR5 : R = !decide (nn = ns) := by rw [hR4]; simp
          clear hR4
          by_cases c3 : nn = ns
          · have d3 : ((nn : Int) != (ns : Int)) = false := by simp [c3]
            obtain rfl : R = false := by rw [hR5]; simp [c3]
            clear hR5
            have HC3 := Lib.hid c3; clear c3
            go_wp2_with (go_at_call 62; refine HHO.out.mono ?_; rintro e w4 ⟨rfl, rfl⟩)
            go_ret
            exact ⟨rfl, bc⟩
          · have d3 : ((nn : Int) != (ns : Int)) = true := by simp; omega
            obtain rfl : R = true := by rw [hR5]; simp [c3]
            clear hR5 c3
            go_wp2_with (go_at_call 62; refine HHO.out.mono ?_; rintro e w4 ⟨rfl, rfl⟩)
            go_ret
            exact ⟨rfl, bc⟩
      · have d2 : ((nx : Int) != N) = true := by simpa using c2
        obtain rfl : R = true := by rw [hR3]; simp [c2]
        clear hR3 c2
        go_wp2_with fail
        go_ret
        exact ⟨rfl, bc⟩
  · have d1 : ((nd : Int) != N) = true := by simpa using c1
    have hR1 : R = true := by rw [hR, ← HDN.out]; simp [c1]
    subst hR1; clear hR c1
    go_enter Try.func60, Try.ntmps60
    go_wp2_with fail
    generalize w.alloc (.cells #[.slice Ad nd cd, .slice Ax nx cx, .slice An nn cn] 71) = u1 at *
    obtain ⟨n0, n1, n2, n3, n4, n5, n6, n7⟩ := near_eight hkm
    obtain ⟨m0, m1, m2⟩ := near_three ko
    refine wp_region_near (by kernel_rfl) (by kernel_rfl) ?_
    repeat (go_big_quiet_step (first | fail))
    refine wpQuiet_nil ?_
    rintro _ ⟨nw, rfl⟩
    go_wp2
    go_ret
    exact ⟨rfl, bc.trans (nw.h.mono bc.size)⟩

set_option maxRecDepth 8000 in
set_option maxHeartbeats 1000000 in
theorem unfit_any (m : ML) (c s : Slc) (w : World) : Calls Try.prog 48 #[vM m c s] w fun e w' =>
    ∃ g, e = .returned (.func (.func 60) #[] #[.pointer (some ⟨g, 0, none⟩)]) ∧ Blk w' g 25 (cM m c s) ∧ Below w.heap.size w w' := by
  obtain ⟨N, S, G, W, D, L, cold, ms⟩ := m
  obtain ⟨Ac, nc, cc⟩ := c
  obtain ⟨As, ns, cs⟩ := s
  dsimp only [vM, cM]
  obtain ⟨kb, bc⟩ := bx1 w #[.int .i64 N, .int .i64 S, .int .i64 G, .int .i64 W, .int .i64 D, .int .i64 L, .slice Ac nc cc, .slice As ns cs] 25
  go_enter Try.func48, Try.ntmps48
  go_wp2
  go_ret
  exact ⟨w.heap.size, rfl, kb, bc⟩

theorem all_snoc (p : Md → Bool) (l : List Md) (k : Nat) (o : Md) (h : l[k]? = some o) : (l.take (k + 1)).all p = ((l.take k).all p && p o) := by
  rw [md_at l k o h, List.all_append]; simp
theorem all_not (p : Md → Bool) (l : List Md) (k : Nat) (o : Md) (h : l[k]? = some o) (hp : p o = false) : l.all p = false := by
  rw [List.all_eq_false]
  exact ⟨o, List.mem_of_getElem? h, by rw [hp]; decide⟩
set_option maxRecDepth 8000 in
set_option maxHeartbeats 4000000 in
theorem indexM_any (m : ML) (c s : Slc) (gm : Nat) (w : World) (hkm : Blk w gm 25 (cM m c s)) (hM : Med w m c s) (hN : (m.cold.length : Int) = m.N) :
    Calls Try.prog 59 #[.slice s.A s.n s.c, .func (.func 60) #[] #[.pointer (some ⟨gm, 0, none⟩)]] w fun e w' =>
      ∃ r, e = .returned (.int .i64 r) ∧ decide (0 ≤ r) = !(m.ms.all (okMode m.N m.cold m.ms.length)) ∧ Below w.heap.size w w' := by
  have hu := fun o v W (h : Below w.heap.size w W) hv => unfit1_any m c s gm o v W (hkm.on h) (hM.on h) hN hv
  have hs := hM.sb; have hn := hM.sn; have hm := hM.sm
  clear hkm hM hN
  obtain ⟨As, ns, cs⟩ := s
  dsimp only at hs hn hm ⊢
  generalize okMode m.N m.cold m.ms.length = p at *
  have HU := Lib.hid hu; have HS := Lib.hid hs; have HN := Lib.hid hn; clear hu hs hn
  unfold maxLen at hm
  go_enter Try.func59, Try.ntmps59
  go_wp2
  go_loopw [5, 8] (fun _ i wr => ∃ k : Nat, k ≤ ns ∧ i = .int .i64 k ∧ (m.ms.take k).all p = true ∧ Below w.heap.size w wr) (fun _ i _ => ns - (intOf i).toNat)
  case atStart => exact ⟨0, by omega, rfl, rfl, Below.refl _ _⟩
  case round =>
    obtain ⟨k, hk, rfl, hno, hB⟩ := hrel
    have HNO := Lib.hid hno; clear hno
    by_cases hlt : k < ns
    · have hkm : k < m.ms.length := by have := HN.out; omega
      obtain ⟨o, ho⟩ : ∃ o, m.ms[k]? = some o := ⟨m.ms[k], List.getElem?_eq_getElem hkm⟩
      obtain ⟨b, off, rfl, hb, v, hc0, hc1, hc2, hv⟩ := (HS.out.below hB).at_ ho
      have hs := all_snoc p m.ms k o ho
      rw [HNO.out] at hs
      have hf := all_not p m.ms k o ho
      have HSN := Lib.hid hs; have HF := Lib.hid hf; clear hs hf hkm ho
      have hc := HU.out o v wr hB (hv.mono hB.size)
      obtain ⟨⟨Ad, nd, cd⟩, ⟨Ax, nx, cx⟩, ⟨An, nn, cn⟩⟩ := v
      dsimp only [vO] at hc0 hc1 hc2 hc
      obtain ⟨q, hq⟩ : ∃ q, q = p o := ⟨_, rfl⟩
      rw [← hq] at hc
      have HQ := Lib.hid hq; have HC := Lib.hid hc; clear hq hc hv
      cases q with
      | false =>
        go_wp2_with (go_at_call 60; refine HC.out.mono ?_; rintro e w3 ⟨rfl, hB3⟩)
        go_ret
        exact ⟨_, rfl, by rw [HF.out HQ.out.symm]; simp, hB.trans (hB3.mono hB.size)⟩
      | true =>
        go_wp2_with (go_at_call 60; refine HC.out.mono ?_; rintro e w3 ⟨rfl, hB3⟩)
        go_roundw
        case rel => exact ⟨k + 1, by omega, by go_num, by rw [HSN.out, ← HQ.out]; rfl, hB.trans (hB3.mono hB.size)⟩
        case measure => simp [intOf]; omega
    · go_wp2
      go_ret
      have h3 := HNO.out
      rw [List.take_of_length_le (by have := HN.out; omega)] at h3
      exact ⟨_, rfl, by rw [h3]; decide, hB⟩
set_option maxRecDepth 8000 in
set_option maxHeartbeats 1000000 in
theorem containsM_any (m : ML) (c s : Slc) (gm : Nat) (w : World) (hkm : Blk w gm 25 (cM m c s)) (hM : Med w m c s) (hN : (m.cold.length : Int) = m.N) :
    Calls Try.prog 47 #[.slice s.A s.n s.c, .func (.func 60) #[] #[.pointer (some ⟨gm, 0, none⟩)]] w fun e w' =>
      e = .returned (.bool (!(m.ms.all (okMode m.N m.cold m.ms.length)))) ∧ Below w.heap.size w w' := by
  have hc := indexM_any m c s gm w hkm hM hN
  have HC := Lib.hid hc; clear hc hkm hM hN
  go_enter Try.func47, Try.ntmps47
  go_wp2_with (go_at_call 59; refine HC.out.mono ?_; rintro e w3 ⟨r, rfl, hr, hB⟩)
  go_ret
  rw [← hr]
  exact ⟨rfl, hB⟩
end Go.Proofs.Ytlkmipcenlhacaa
