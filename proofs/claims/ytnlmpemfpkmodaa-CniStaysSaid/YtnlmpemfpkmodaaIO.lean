/-
  The statement of what was delivered, and stays. Conditions: what the program's functions answer. (Printed by tools/gen12o.py; laid ahead.)
-/
import Derived.Test.YtnlmpemfpkmodaaIQ
namespace Go.Proofs.Ytnlmpemfpkmodaa
open Go.RowKit

theorem deliver_ok {c : Cn} (h : okCn c) {j : Nat} (hj : j < c.ms.length) {d : List UInt8} (hd : d.length ≤ 8) : deliverCn c j d = (0, ⟨c.id, c.out, c.ms.set j ⟨d, 0⟩, c.life, c.want⟩) ∧ okCn ⟨c.id, c.out, c.ms.set j ⟨d, 0⟩, c.life, c.want⟩ := by
  refine ⟨by unfold deliverCn; rw [if_pos h, if_pos (by omega), if_pos hd]; simp, ?_⟩
  obtain ⟨⟨k1, k2, k3, k4, k5, k6, k7, k8, k9⟩, hm⟩ := h
  refine ⟨⟨by simpa using k1, by simpa using k2, k3, by simpa using k4, k5, k6, k7, k8, k9⟩, fun k hk => ?_⟩
  dsimp only at hk ⊢
  rw [List.length_set] at hk
  rw [List.getElem?_set]
  by_cases e : j = k
  · subst e
    rw [if_pos rfl, if_pos hj]
    exact ⟨hd, by show (0 : Int) ≤ 0; omega, by show (0 : Int) ≤ 255; omega⟩
  · rw [if_neg e]
    exact hm k hk
theorem deliver_inv {c : Cn} {s : Int} {d : List UInt8} (h : (deliverCn c s d).1 = 0) : okCn c ∧ 0 ≤ s ∧ s < c.ms.length ∧ d.length ≤ 8 := by
  unfold deliverCn at h
  by_cases h1 : okCn c
  · rw [if_pos h1] at h
    by_cases h2 : 0 ≤ s ∧ s < c.ms.length
    · rw [if_pos h2] at h
      by_cases h3 : d.length ≤ 8
      · exact ⟨h1, h2.1, h2.2, h3⟩
      · rw [if_neg h3] at h; exact absurd h (by decide)
    · rw [if_neg h2] at h; exact absurd h (by decide)
  · rw [if_neg h1] at h; exact absurd h (by decide)
theorem older_at {c : Cn} {j k : Nat} {d : List UInt8} (h : c.ms[j]? = some ⟨d, k⟩) (hk : k < 255) : (olderCn c).ms[j]? = some ⟨d, (k : Int) + 1⟩ := by
  show (c.ms.map olderMs)[j]? = _
  rw [List.getElem?_map, h]
  show some (⟨d, min ((k : Int) + 1) 255⟩ : Ms) = _
  rw [show min ((k : Int) + 1) 255 = (k : Int) + 1 by omega]
theorem older_length (c : Cn) : (olderCn c).ms.length = c.ms.length := by simp [olderCn]
/-- A message of an interface that can be read. -/
theorem CnOk.msg {n₀ : Nat} {W : World} {c : Cn} {v u : Sl3} (h : CnOk n₀ W c v u) {j : Nat} {x : Ms} (hj : c.ms[j]? = some x) : ∃ b off, u.A = some ⟨b, off, none⟩ ∧ b < n₀ ∧ ∃ y : Sl3, W.cell? ⟨b, off + j * 2, none⟩ = some (.slice y.A y.n y.c) ∧ W.cell? ⟨b, off + j * 2 + 1, none⟩ = some (.int .i64 x.g) ∧ BOk n₀ W x.d y := by
  have hl : j < c.ms.length := (List.getElem?_eq_some_iff.1 hj).1
  obtain ⟨b, off, e, hb, y, ⟨h0, h1⟩, h2⟩ := h.ms.at_ hl
  rw [hj] at h1 h2
  exact ⟨b, off, e, hb, y, h0, h1, h2⟩

set_option maxRecDepth 100000 in
set_option maxHeartbeats 4000000 in
theorem stays_law (hN : CniNewC) (hW : CniWriteC) (hS : CniSendC) (hD : CniDeliverC) (hR : CniRoundC) (hCk : CniCheckC) (a : Cn) (va ua x : Sl3) (sl : Int) (bs : List UInt8) (ro ot : Nat) (w : World) (ha : CnOk w.heap.size w a va ua) (hx : BOk w.heap.size w bs x) (hro : ro < 256) (hot : ot < 256) : Calls Try.prog 5 #[.agg (cCn a va ua), .int .i64 sl, .slice x.A x.n x.c, .int .u8 (ro : Int), .int .u8 (ot : Int)] w fun e w' => e = .returned (.bool true) ∧ Below w.heap.size w w' := by
  have h0 := fun U => begun12_any hN hW hS U
  have hw := fun U (h : Below w.heap.size w U) => hD a va ua sl x bs U (ha.on h) (hx.on h)
  have hwo := @deliver_inv a sl bs
  have hwi := fun (h : okCn a) (h1 : 0 ≤ sl) (h2 : sl < a.ms.length) (h3 : bs.length ≤ 8) => deliver_ok h (j := sl.toNat) (by omega) h3
  have hst : 0 ≤ sl → ((sl.toNat : Nat) : Int) = sl := fun h => by omega
  have HX := Lib.hid hx
  have hxn := hx.bn; have hxc := hx.bc
  unfold ResCn at hw
  obtain ⟨RD, hRD⟩ : ∃ RD, RD = deliverCn a sl bs := ⟨_, rfl⟩
  rw [← hRD] at hw hwo
  obtain ⟨eW, S⟩ := RD
  have hsm : eW = 0 → okCn S ∧ 0 ≤ sl ∧ sl < S.ms.length ∧ bs.length ≤ 8 ∧ S.ms[sl.toNat]? = some ⟨bs, 0⟩ := fun h => by
    obtain ⟨k1, k2, k3, k4⟩ := hwo h
    obtain ⟨k5, k6⟩ := hwi k1 k2 k3 k4
    rw [hst k2] at k5
    rw [← hRD] at k5
    injection k5 with _ k7
    rw [k7]
    refine ⟨k6, k2, by dsimp only; rw [List.length_set]; exact k3, k4, ?_⟩
    dsimp only
    rw [List.getElem?_set, if_pos rfl, if_pos (by omega)]
  clear hwo hwi hst ha hx hN hW hS hRD
  dsimp only at hw
  obtain ⟨id, out, ms, life, want⟩ := a
  obtain ⟨A, n, c⟩ := va
  obtain ⟨B, m, d⟩ := ua
  obtain ⟨xA, xn, xc⟩ := x
  dsimp only [cCn] at *
  have H0 := Lib.hid h0; have HW := Lib.hid hw; have HD := Lib.hid hD; have HR := Lib.hid hR; have HCK := Lib.hid hCk; have HXN := Lib.hid hxn; have HSM := Lib.hid hsm
  clear h0 hw hD hR hCk hxn hsm
  obtain ⟨ka, bc⟩ := bx1 w #[.int .i64 id, .slice A n c, .slice B m d, .int .i64 life, .int .i64 want] 25
  obtain ⟨p0, p1, p2, p3, p4⟩ := ka.fiveI
  obtain ⟨si, so, sm, sL, st⟩ := S
  go_enter Try.func5, Try.ntmps5
  go_wp2_with fail
  refine (HW.out _ bc).mono ?_
  rintro e w1 ⟨⟨vA, vn, vc⟩, ⟨uA, un, uc⟩, rfl, hc1, hC⟩
  dsimp only at hc1 ⊢
  replace ka := ka.on hC; replace bc := bc.trans (hC.mono bc.size); clear hC p0 p1 p2 p3 p4
  have kx := Blk.new w1 25 #[.int .i64 si, .slice vA vn vc, .slice uA un uc, .int .i64 sL, .int .i64 st]
  have al := Below.al w1 (.cells #[.int .i64 si, .slice vA vn vc, .slice uA un uc, .int .i64 sL, .int .i64 st] 25)
  have hg1 : w.heap.size ≤ w1.heap.size := bc.size
  replace hc1 := hc1.on al; replace bc := bc.trans (al.mono bc.size); clear al ka
  go_upto_region 2 with fail
  generalize w1.alloc (.cells #[.int .i64 si, .slice vA vn vc, .slice uA un uc, .int .i64 sL, .int .i64 st] 25) = u1 at *
  generalize w1.heap.size = gx at *
  clear w1 HW
  by_cases he : eW = 0
  rotate_left
  · have hne : (eW != 0) = true := by simpa using he
    clear hc1 kx
    go_wp2_with (first | (go_at_call 7; refine (H0.out _).mono ?_; rintro e w2 ⟨rfl, hC⟩; dsimp only; replace bc := bc.trans (hC.mono bc.size); clear hC))
    go_ret
    exact ⟨rfl, bc⟩
  subst he
  obtain ⟨hok, h0s, hsl, hb8, hsm⟩ := HSM.out rfl
  obtain ⟨j, rfl⟩ := Int.eq_ofNat_of_zero_le h0s
  simp only [Int.toNat_natCast] at hsm
  have d0 : decide ((j : Int) < 0) = false := by simp
  obtain ⟨rr, hrr⟩ : ∃ rr, rr = ro % 20 := ⟨_, rfl⟩
  have hmod : ((ro : Int)).tmod 20 = (rr : Int) := by rw [Int.tmod_eq_emod_of_nonneg (by omega)]; omega
  have hmo2 : (ro : Int) % 20 = (rr : Int) := by omega
  have hr20 : rr < 20 := by omega
  go_upto_region 4 with (first | (go_at_call 7; refine (H0.out _).mono ?_; rintro e w2 ⟨rfl, hC⟩; dsimp only; replace kx := kx.on hC; replace hc1 := hc1.on hC; replace bc := bc.trans (hC.mono bc.size); clear hC))
  have hcs := hc1.ok
  clear hc1 HSM
  generalize hSS : (⟨si, so, sm, sL, st⟩ : Cn) = SS at *
  have kx2 : Blk w2 gx 25 (cCn SS ⟨vA, vn, vc⟩ ⟨uA, un, uc⟩) := by rw [← hSS]; exact kx
  clear kx
  have HSM := Lib.hid (show SS.ms[j]? = some ⟨bs, 0⟩ by rw [← hSS]; exact hsm); have HOK := Lib.hid hok; have HB8 := Lib.hid hb8
  have hsl2 : (j : Int) < SS.ms.length := by rw [← hSS]; exact hsl
  have HSL := Lib.hid hsl2
  clear hok hb8 hsm hsl hsl2 hSS hrr
  go_wp2_with fail
  go_loopw [38] (fun i wr => ∃ (k : Nat) (X : Cn) (v u : Sl3), k ≤ rr ∧ i = .int .i64 k ∧ okCn X ∧ X.ms.length = SS.ms.length ∧ X.ms[j]? = some ⟨bs, k⟩ ∧ Blk wr gx 25 (cCn X v u) ∧ CnOk wr.heap.size wr X v u ∧ Below w.heap.size w wr)
    (fun i _ => rr - (intOf i).toNat)
  case atStart => exact ⟨0, SS, ⟨vA, vn, vc⟩, ⟨uA, un, uc⟩, by omega, rfl, HOK.out, rfl, HSM.out, kx2, hcs, bc⟩
  case round =>
    clear kx2 hcs bc
    obtain ⟨k, X, v, u, hk, rfl, hok, hln, hmj, kx, hx, bc⟩ := hrel
    by_cases hlt : k < rr
    · have hlt2 : (k : Int) < (rr : Int) := by omega
      have h1ok := older_ok hok
      have h1ln := (older_length X).trans hln
      have h1mj := older_at hmj (by omega)
      have hcall := HR.out X v u wr hx
      rw [round_ok hok] at hcall
      unfold ResCn at hcall
      have hck1 := fun v u U h => HCK.out (olderCn X) v u U h
      rw [chkCn_yes h1ok] at hck1
      have hdl := fun (q : Nat) (hq : q < (olderCn X).ms.length) => deliver_ok h1ok hq (d := [1]) (by decide)
      have hdc := fun (q : Nat) v u x U h k => HD.out (olderCn X) v u (q : Int) x [1] U h k
      generalize olderCn X = X1 at *
      clear hok hln hmj hx
      obtain ⟨A1, n1, c1⟩ := v
      obtain ⟨B1, m1, d1⟩ := u
      obtain ⟨Xi, Xo, Xm, Xl, Xt⟩ := X
      obtain ⟨yi, yo, ym, yl, yt⟩ := X1
      dsimp only [cCn] at kx hcall hck1 h1ln h1mj hdc
      have HCALL := Lib.hid hcall; have HK1 := Lib.hid hck1; have HDL := Lib.hid hdl; have HDC := Lib.hid hdc; have H1OK := Lib.hid h1ok; have H1LN := Lib.hid h1ln; have H1MJ := Lib.hid h1mj
      clear hcall hck1 hdl hdc h1ok h1ln h1mj
      have hgx := kx.lt
      obtain ⟨p0, p1, p2, p3, p4⟩ := kx.fiveI
      obtain ⟨f0, f1, f2, f3, f4⟩ := kx.fiveFI
      go_upto_region 8 with (first | (go_at_call 27; refine HCALL.out.mono ?_; rintro e w3 ⟨⟨A3, n3, c3⟩, ⟨B3, m3, d3⟩, rfl, hx, hC⟩; dsimp only; clear p0 p1 p2 p3 p4 f0 f1 f2 f3 f4; replace kx := kx.on hC; replace bc := bc.trans (hC.mono bc.size); clear hC; obtain ⟨p0, p1, p2, p3, p4⟩ := kx.fiveI; obtain ⟨f0, f1, f2, f3, f4⟩ := kx.fiveFI))
      clear p0 p1 p2 p3 p4 f0 f1 f2 f3 f4
      have hG := grown5I w3 gx (.int .i64 yi) (.slice A3 n3 c3) (.slice B3 m3 d3) (.int .i64 yl) (.int .i64 yt)
      have hx4 := (hx.put hG hgx).ok
      have bc4 := Below.off bc bc.size hg1 hG
      have kx4 := kx.put5I (.int .i64 yi) (.slice A3 n3 c3) (.slice B3 m3 d3) (.int .i64 yl) (.int .i64 yt)
      clear hG hx bc kx
      have kx := kx4; have hx := hx4; have bc := bc4
      clear kx4 hx4 bc4
      generalize ((((w3.setCell ⟨gx, 0, none⟩ (.int .i64 yi)).setCell ⟨gx, 1, none⟩ (.slice A3 n3 c3)).setCell ⟨gx, 2, none⟩ (.slice B3 m3 d3)).setCell ⟨gx, 3, none⟩ (.int .i64 yl)).setCell ⟨gx, 4, none⟩ (.int .i64 yt) = w4 at *
      have hgx4 := kx.lt
      obtain ⟨p0, p1, p2, p3, p4⟩ := kx.fiveI
      have hmn := hx.mn
      dsimp only at hmn
      have hLj : (j : Int) < (m3 : Int) := by have h1 := H1LN.out; have h2 := HSL.out; omega
      have dL : decide ((m3 : Int) ≤ (j : Int)) = false := by simp; omega
      have hL8 : 4 ≤ m3 ∧ m3 ≤ 8 := by have h1 := H1OK.out.1.1; have h2 := H1OK.out.1.2.1; dsimp only at h1 h2; omega
      have hwk : IntKind.i64.wrap ((ot : Int) + (k : Int)) = (ot : Int) + (k : Int) := IntWalk.i64_in _ (by omega)
      obtain ⟨q, hq⟩ : ∃ q, q = (ot + k) % m3 := ⟨_, rfl⟩
      have hqm : ((ot : Int) + (k : Int)).tmod (m3 : Int) = (q : Int) := by rw [Int.tmod_eq_emod_of_nonneg (by omega), hq]; push_cast; rfl
      have hql : q < m3 := by rw [hq]; exact Nat.mod_lt _ (by omega)
      have HMN3 := Lib.hid hmn; clear hmn
      clear hq
      go_upto_region 12 with (first | (go_at_call 13; refine (HK1.out ⟨A3, n3, c3⟩ ⟨B3, m3, d3⟩ _ hx).mono ?_; rintro e w5 ⟨rfl, hC⟩; dsimp only; clear p0 p1 p2 p3 p4; replace kx := kx.on hC; replace hx := hx.on hC; replace bc := bc.trans (hC.mono bc.size); clear hC; obtain ⟨p0, p1, p2, p3, p4⟩ := kx.fiveI))
      go_upto_region 13 with fail
      clear p0 p1 p2 p3 p4 hL8 hwk hqm dL
      by_cases hqj : q = j
      · subst hqj
        have e7 : ((q : Int) != (q : Int)) = false := by simp
        have hok := H1OK.out; have hln := H1LN.out; have hmj := H1MJ.out
        obtain ⟨p0, p1, p2, p3, p4⟩ := kx.fiveI
        go_upto_region 17 with fail
        clear p0 p1 p2 p3 p4 e7
        obtain ⟨b, off, eA, hb, ⟨yA, yn, yc⟩, g0, g1, hy⟩ := hx.msg hmj
        dsimp only at eA g0 g1 hy
        subst eA
        have hjm : (q : Int) < (m3 : Int) := by have h1 := hx.mn; have h2 := hln; have h3 := HSL.out; dsimp only at h1 h2; omega
        obtain ⟨p0, p1, p2, p3, p4⟩ := kx.fiveI
        have km := Blk.new w5 51 #[.slice yA yn yc, .int .i64 ((k : Int) + 1)]
        have al := Below.al w5 (.cells #[.slice yA yn yc, .int .i64 ((k : Int) + 1)] 51)
        have kx6 := kx.on al; have hx6 := hx.on al; have bc6 := bc.trans (al.mono bc.size)
        have hy6 := hy.on al
        clear al
        go_upto_region 18 with fail
        clear p0 p1 p2 p3 p4 g0 g1 kx hx bc hy hb
        generalize w5.alloc (.cells #[.slice yA yn yc, .int .i64 ((k : Int) + 1)] 51) = u7 at *
        generalize w5.heap.size = gm at *
        clear w5
        obtain ⟨p0, p1, -, -⟩ := km.two
        have hwj : IntKind.i64.wrap ((k : Int) + 1) = (k : Int) + 1 := IntWalk.i64_in _ (by omega)
        have heq := bequal_any yA xA yn xn yc xc bs bs u7 hy6.bn HXN.out hy6.by_ (HX.out.on bc6).by_
        rw [decide_eq_true rfl] at heq
        have HEQ := Lib.hid heq; clear heq hy6
        have KX := Lib.hid kx6; have HXX := Lib.hid hx6; have HOK9 := Lib.hid hok; have HLN9 := Lib.hid hln; have HMJ9 := Lib.hid hmj
        clear kx6 hx6 hok hln hmj
        go_wp2_with (first | (go_at_call 24; refine HEQ.out.mono ?_; rintro e w9 ⟨rfl, rfl⟩; dsimp only))
        go_roundw
        case rel => exact ⟨k + 1, ⟨yi, yo, ym, yl, yt⟩, ⟨A3, n3, c3⟩, ⟨some ⟨b, off, none⟩, m3, d3⟩, by omega, by go_num, HOK9.out, HLN9.out, by rw [HMJ9.out]; simp, KX.out, HXX.out, bc6⟩
        case measure => simp [intOf]; omega
      · have e7 : ((q : Int) == (j : Int)) = false := by simp; omega
        have e8 : ((q : Int) != (j : Int)) = true := by simp; omega
        have e9 : (q == j) = false := by simpa using hqj
        have e10 : decide (q = j) = false := by simpa using hqj
        have hkd := HDL.out q (by have := HMN3.out; show q < ym.length; omega)
        obtain ⟨hd1, hok⟩ := hkd
        have hln : (⟨yi, yo, ym.set q ⟨[1], 0⟩, yl, yt⟩ : Cn).ms.length = SS.ms.length := by dsimp only; rw [List.length_set]; exact H1LN.out
        have hmj : (⟨yi, yo, ym.set q ⟨[1], 0⟩, yl, yt⟩ : Cn).ms[j]? = some ⟨bs, (k : Int) + 1⟩ := by dsimp only; rw [List.getElem?_set, if_neg hqj]; exact H1MJ.out
        obtain ⟨p0, p1, p2, p3, p4⟩ := kx.fiveI
        go_upto_region 14 with fail
        have kd : Blk (w5.alloc (.cells (encB [1]) 5)) w5.heap.size 5 (encB [1]) := Blk.new w5 _ _
        have al := Below.al w5 (.cells (encB [1]) 5)
        have hdd := bok_blk kd (by decide)
        have kx5 := kx.on al; have bc5 := bc.trans (al.mono bc.size)
        have hcall := HDC.out q _ _ _ _ (hx.on al) hdd
        dsimp only at hd1
        rw [hd1] at hcall
        unfold ResCn at hcall
        have hgx5 := kx5.lt
        have HCALL2 := Lib.hid hcall
        clear hcall hdd kd al hd1 kx hx bc
        have HOKa := Lib.hid hok; have HLNa := Lib.hid hln; have HMJa := Lib.hid hmj; clear hok hln hmj
        have kx := kx5; have bc := bc5; clear kx5 bc5
        go_wp2_with fail
        refine HCALL2.out.mono ?_
        rintro e w6 ⟨⟨A4, n4, c4⟩, ⟨B4, m4, d4⟩, rfl, hx, hC⟩
        dsimp only
        clear p0 p1 p2 p3 p4
        replace kx := kx.on hC; replace bc := bc.trans (hC.mono bc.size); clear hC
        obtain ⟨p0, p1, p2, p3, p4⟩ := kx.fiveI; obtain ⟨f0, f1, f2, f3, f4⟩ := kx.fiveFI
        go_upto_region 15 with fail
        clear p0 p1 p2 p3 p4 f0 f1 f2 f3 f4
        have hG := grown5I w6 gx (.int .i64 yi) (.slice A4 n4 c4) (.slice B4 m4 d4) (.int .i64 yl) (.int .i64 yt)
        have hx4 := (hx.put hG hgx5).ok
        have bc4 := Below.off bc bc.size hg1 hG
        have kx4 := kx.put5I (.int .i64 yi) (.slice A4 n4 c4) (.slice B4 m4 d4) (.int .i64 yl) (.int .i64 yt)
        clear hG hx bc kx
        have kx := kx4; have hx := hx4; have bc := bc4
        clear kx4 hx4 bc4
        generalize ((((w6.setCell ⟨gx, 0, none⟩ (.int .i64 yi)).setCell ⟨gx, 1, none⟩ (.slice A4 n4 c4)).setCell ⟨gx, 2, none⟩ (.slice B4 m4 d4)).setCell ⟨gx, 3, none⟩ (.int .i64 yl)).setCell ⟨gx, 4, none⟩ (.int .i64 yt) = w7 at *
        have hok := HOKa.out; have hln := HLNa.out; have hmj := HMJa.out
        clear HOKa HLNa HMJa HCALL2
        obtain ⟨p0, p1, p2, p3, p4⟩ := kx.fiveI
        go_upto_region 17 with fail
        clear p0 p1 p2 p3 p4 e7
        obtain ⟨b, off, eA, hb, ⟨yA, yn, yc⟩, g0, g1, hy⟩ := hx.msg hmj
        dsimp only at eA g0 g1 hy
        subst eA
        have hjm : (j : Int) < (m4 : Int) := by have h1 := hx.mn; have h2 := hln; have h3 := HSL.out; dsimp only at h1 h2; rw [h2] at h1; omega
        obtain ⟨p0, p1, p2, p3, p4⟩ := kx.fiveI
        have km := Blk.new w7 51 #[.slice yA yn yc, .int .i64 ((k : Int) + 1)]
        have al := Below.al w7 (.cells #[.slice yA yn yc, .int .i64 ((k : Int) + 1)] 51)
        have kx6 := kx.on al; have hx6 := hx.on al; have bc6 := bc.trans (al.mono bc.size)
        have hy6 := hy.on al
        clear al
        go_upto_region 18 with fail
        clear p0 p1 p2 p3 p4 g0 g1 kx hx bc hy hb
        generalize w7.alloc (.cells #[.slice yA yn yc, .int .i64 ((k : Int) + 1)] 51) = u7 at *
        generalize w7.heap.size = gm at *
        clear w7
        obtain ⟨p0, p1, -, -⟩ := km.two
        have hwj : IntKind.i64.wrap ((k : Int) + 1) = (k : Int) + 1 := IntWalk.i64_in _ (by omega)
        have heq := bequal_any yA xA yn xn yc xc bs bs u7 hy6.bn HXN.out hy6.by_ (HX.out.on bc6).by_
        rw [decide_eq_true rfl] at heq
        have HEQ := Lib.hid heq; clear heq hy6
        have KX := Lib.hid kx6; have HXX := Lib.hid hx6; have HOK9 := Lib.hid hok; have HLN9 := Lib.hid hln; have HMJ9 := Lib.hid hmj
        clear kx6 hx6 hok hln hmj
        go_wp2_with (first | (go_at_call 24; refine HEQ.out.mono ?_; rintro e w9 ⟨rfl, rfl⟩; dsimp only))
        go_roundw
        case rel => exact ⟨k + 1, ⟨yi, yo, ym.set q ⟨[1], 0⟩, yl, yt⟩, ⟨A4, n4, c4⟩, ⟨some ⟨b, off, none⟩, m4, d4⟩, by omega, by go_num, HOK9.out, HLN9.out, by rw [HMJ9.out]; simp, KX.out, HXX.out, bc6⟩
        case measure => simp [intOf]; omega
    · obtain rfl : k = rr := by omega
      have hjl : j < X.ms.length := by have := HSL.out; omega
      obtain ⟨hd1, -⟩ := deliver_ok hok hjl (d := []) (by decide)
      have hcall := HD.out X v u (j : Int) ⟨none, 0, 0⟩ [] wr hx (BOk.nil _ _)
      rw [hd1] at hcall
      unfold ResCn at hcall
      have hl2 : X.ms.length = SS.ms.length := hln
      clear hd1 hok hmj hx
      obtain ⟨A1, n1, c1⟩ := v
      obtain ⟨B1, m1, d1⟩ := u
      obtain ⟨Xi, Xo, Xm, Xl, Xt⟩ := X
      dsimp only [cCn] at kx hcall hjl
      have HCALL := Lib.hid hcall; have HJL := Lib.hid hjl; clear hcall hjl hl2 hln
      obtain ⟨p0, p1, p2, p3, p4⟩ := kx.fiveI
      go_upto_region 21 with fail
      go_wp2_with fail
      refine HCALL.out.mono ?_
      rintro e w3 ⟨⟨A4, n4, c4⟩, ⟨B4, m4, d4⟩, rfl, hy, hC⟩
      dsimp only
      replace bc := bc.trans (hC.mono bc.size)
      clear hC p0 p1 p2 p3 p4 kx
      have hyk := hy.ok
      have hmn := hyk.mn
      dsimp only at hmn
      rw [List.length_set] at hmn
      obtain ⟨b, off, eA, hb, ⟨yA, yn, yc⟩, g0, g1, hyd⟩ := hyk.msg (j := j) (x := ⟨[], 0⟩) (by dsimp only; rw [List.getElem?_set, if_pos rfl, if_pos HJL.out])
      dsimp only at eA g0 g1
      subst eA
      obtain rfl : yn = 0 := hyd.bn
      have hjm : (j : Int) < (m4 : Int) := by have := HJL.out; omega
      have al := Below.al w3 (.cells #[.int .i64 Xi, .slice A4 n4 c4, .slice (some ⟨b, off, none⟩) m4 d4, .int .i64 Xl, .int .i64 Xt] 25)
      have ky := Blk.new w3 25 #[.int .i64 Xi, .slice A4 n4 c4, .slice (some ⟨b, off, none⟩) m4 d4, .int .i64 Xl, .int .i64 Xt]
      have g0' := (al.cell (p := ⟨b, off + j * 2, none⟩) hb).trans g0
      have g1' := (al.cell (p := ⟨b, off + j * 2 + 1, none⟩) hb).trans g1
      replace bc := bc.trans (al.mono bc.size)
      clear al g0 g1 hy hyk hyd hmn
      go_upto_region 22 with fail
      generalize w3.alloc (.cells #[.int .i64 Xi, .slice A4 n4 c4, .slice (some ⟨b, off, none⟩) m4 d4, .int .i64 Xl, .int .i64 Xt] 25) = u9 at *
      generalize w3.heap.size = gy at *
      clear w3
      obtain ⟨p0, p1, p2, p3, p4⟩ := ky.fiveI
      go_wp2
      go_ret
      exact ⟨rfl, bc⟩
end Go.Proofs.Ytnlmpemfpkmodaa
