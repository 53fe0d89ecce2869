/-
  The statement of a host that gives no sign, its walk. Conditions: what the program's functions answer. (Printed by tools/gen12q.py; laid ahead.)
-/
import Derived.Test.YtnlmpemfpkmodaaIP
namespace Go.Proofs.Ytnlmpemfpkmodaa
open Go.RowKit

theorem near_pureI {P : Program} {f : FuncId} {args : Array Value} {w0 : World} {n : NearW w0} {v : Value} (h : Calls P f args n.W fun e w' => e = .returned v ∧ n.W = w') :
    Calls P f args n.W fun e w'' => e = .returned v ∧ ∃ m : NearW w0, w'' = m.W := h.mono fun _ _ ⟨he, hw⟩ => ⟨he, n, hw.symm⟩
/-- Four rounds without a sign, and a sign behind them. -/
theorem silent_plain {c : Cn} (h : okCn c) : let r := roundsCn c 4; okCn r ∧ r.life = 0 ∧ r.out = c.out ∧ beatCn r = (0, ⟨r.id, r.out, r.ms, 4, r.want⟩) ∧ okCn ⟨r.id, r.out, r.ms, 4, r.want⟩ ∧ aliveCn r = false ∧ aliveCn ⟨r.id, r.out, r.ms, 4, r.want⟩ = true := by
  intro r
  have h1 : okCn r := rounds_ok h 4
  have h2 : r.life = 0 := by show (roundsCn c 4).life = 0; rw [rounds_life c h.1.2.2.2.2.2.1 4]; have := h.1.2.2.2.2.2.2.1; omega
  have h3 : okCn ⟨r.id, r.out, r.ms, 4, r.want⟩ := by
    obtain ⟨⟨k1, k2, k3, k4, k5, k6, k7, k8, k9⟩, hm⟩ := h1
    exact ⟨⟨k1, k2, k3, k4, k5, by show (0 : Int) ≤ 4; omega, by show (4 : Int) ≤ 4; omega, k8, k9⟩, hm⟩
  refine ⟨h1, h2, rounds_out c 4, by unfold beatCn; rw [if_pos h1], h3, ?_, ?_⟩
  · unfold aliveCn; rw [h2]; simp
  · unfold aliveCn; rw [decide_eq_true h3]; rfl

set_option maxRecDepth 100000 in
set_option maxHeartbeats 4000000 in
theorem silent_law (hN : CniNewC) (hW : CniWriteC) (hS : CniSendC) (hR : CniRoundC) (hBt : CniBeatC) (hAl : CniAliveC) (a : Cn) (va ua x : Sl3) (lo : Int) (bs : List UInt8) (w : World) (ha : CnOk w.heap.size w a va ua) (hx : BOk w.heap.size w bs x) : Calls Try.prog 6 #[.agg (cCn a va ua), .slice x.A x.n x.c, .int .i64 lo] w fun e w' => e = .returned (.bool true) ∧ Below w.heap.size w w' := by
  have h0 := fun U => begun12_any hN hW hS U
  have hw := fun U (h : Below w.heap.size w U) => hW a va ua x bs U (ha.on h) (hx.on h)
  have hwo := @write_ok a bs
  unfold ResCn at hw
  generalize writeCn a bs = RW at *
  obtain ⟨eW, S⟩ := RW
  dsimp only at hw hwo
  have hr := fun (hk : okCn S) (k : Nat) v u U h => hR (roundsCn S k) v u U h
  have hr2 := fun (hk : okCn S) (k : Nat) => round_ok (rounds_ok hk k)
  have HX := Lib.hid hx
  have hxn := hx.bn; have hxc := hx.bc
  clear ha hx hN hW hR
  obtain ⟨id, out, ms, life, want⟩ := a
  obtain ⟨A, n, c⟩ := va
  obtain ⟨B, m, d⟩ := ua
  obtain ⟨xA, xn, xc⟩ := x
  dsimp only [cCn] at *
  have H0 := Lib.hid h0; have HW := Lib.hid hw; clear h0 hw
  obtain ⟨ka, bc⟩ := bx1 w #[.int .i64 id, .slice A n c, .slice B m d, .int .i64 life, .int .i64 want] 25
  obtain ⟨p0, p1, p2, p3, p4⟩ := ka.fiveI
  have HS := Lib.hid hS; have HBT := Lib.hid hBt; have HAL := Lib.hid hAl; have HR := Lib.hid hr; have HR2 := Lib.hid hr2; have HXN := Lib.hid hxn
  clear hS hBt hAl hr hr2 hxn
  obtain ⟨si, so, sm, sl, st⟩ := S
  go_enter Try.func6, Try.ntmps6
  go_wp2_with fail
  refine (HW.out _ bc).mono ?_
  rintro e w1 ⟨⟨vA, vn, vc⟩, ⟨uA, un, uc⟩, rfl, hc1, hC⟩
  dsimp only at hc1 ⊢
  replace ka := ka.on hC; replace bc := bc.trans (hC.mono bc.size); clear hC p0 p1 p2 p3 p4
  have kx := Blk.new w1 25 #[.int .i64 si, .slice vA vn vc, .slice uA un uc, .int .i64 sl, .int .i64 st]
  have al := Below.al w1 (.cells #[.int .i64 si, .slice vA vn vc, .slice uA un uc, .int .i64 sl, .int .i64 st] 25)
  have hg1 : w.heap.size ≤ w1.heap.size := bc.size
  replace hc1 := hc1.on al; replace bc := bc.trans (al.mono bc.size); clear al ka
  go_upto_region 2 with fail
  generalize w1.alloc (.cells #[.int .i64 si, .slice vA vn vc, .slice uA un uc, .int .i64 sl, .int .i64 st] 25) = u1 at *
  generalize w1.heap.size = gx at *
  clear w1 HW
  by_cases he : eW = 0
  rotate_left
  · have hne : (eW != 0) = true := by simpa using he
    clear hc1 kx hwo
    go_wp2_with (first | (go_at_call 7; refine (H0.out _).mono ?_; rintro e w2 ⟨rfl, hC⟩; dsimp only; replace bc := bc.trans (hC.mono bc.size); clear hC))
    go_ret
    exact ⟨rfl, bc⟩
  subst he
  obtain ⟨hok, hso, hb8⟩ := hwo rfl
  have HOK := Lib.hid hok; have HSO := Lib.hid hso; have HB8 := Lib.hid hb8
  clear hwo hok hso hb8
  go_upto_region 4 with (first | (go_at_call 7; refine (H0.out _).mono ?_; rintro e w2 ⟨rfl, hC⟩; dsimp only; replace kx := kx.on hC; replace hc1 := hc1.on hC; replace bc := bc.trans (hC.mono bc.size); clear hC))
  have hr0 : (⟨si, so, sm, sl, st⟩ : Cn) = roundsCn ⟨si, so, sm, sl, st⟩ 0 := rfl
  have hcs := hc1.ok
  clear hc1
  generalize hSS : (⟨si, so, sm, sl, st⟩ : Cn) = SS at *
  have kx2 : Blk w2 gx 25 (cCn (roundsCn SS 0) ⟨vA, vn, vc⟩ ⟨uA, un, uc⟩) := by rw [← hr0, ← hSS]; exact kx
  rw [hr0] at hcs
  clear kx hr0
  have HSS := Lib.hid hSS; clear hSS
  go_wp2_with fail
  go_loopw [8, 30] (fun e i wr => ∃ (k : Nat) (v u : Sl3), k ≤ 4 ∧ i = .int .i64 k ∧ e = .int .i64 0 ∧ Blk wr gx 25 (cCn (roundsCn SS k) v u) ∧ CnOk wr.heap.size wr (roundsCn SS k) v u ∧ Below w.heap.size w wr)
    (fun _ i _ => 4 - (intOf i).toNat)
  case atStart => exact ⟨0, ⟨vA, vn, vc⟩, ⟨uA, un, uc⟩, by omega, rfl, rfl, kx2, hcs, bc⟩
  case round =>
    clear kx2 hcs bc
    obtain ⟨k, v, u, hk, rfl, rfl, kx, hx, bc⟩ := hrel
    by_cases hlt : k < 4
    · have hlt2 : (k : Int) < 4 := by omega
      have hcall := HR.out HOK.out k v u wr hx
      rw [HR2.out HOK.out k] at hcall
      have hnx : olderCn (roundsCn SS k) = roundsCn SS (k + 1) := rfl
      rw [hnx] at hcall
      clear hnx hx
      unfold ResCn at hcall
      obtain ⟨r2, hr2⟩ : ∃ r2, r2 = roundsCn SS (k + 1) := ⟨_, rfl⟩
      rw [← hr2] at hcall
      have HE := Lib.hid hr2; clear hr2
      generalize roundsCn SS k = r at *
      obtain ⟨ri, ro, rm, rl, rt⟩ := r
      obtain ⟨qi, qo, qm, ql, qt⟩ := r2
      obtain ⟨A1, n1, c1⟩ := v
      obtain ⟨B1, m1, d1⟩ := u
      dsimp only [cCn] at kx hcall
      have HCALL := Lib.hid hcall; clear hcall
      have hgx := kx.lt
      obtain ⟨p0, p1, p2, p3, p4⟩ := kx.fiveI
      obtain ⟨f0, f1, f2, f3, f4⟩ := kx.fiveFI
      go_upto_region 7 with (first | (go_at_call 27; refine HCALL.out.mono ?_; rintro e w3 ⟨⟨A3, n3, c3⟩, ⟨B3, m3, d3⟩, rfl, hx, hC⟩; dsimp only; clear p0 p1 p2 p3 p4 f0 f1 f2 f3 f4; replace kx := kx.on hC; replace bc := bc.trans (hC.mono bc.size); clear hC; obtain ⟨p0, p1, p2, p3, p4⟩ := kx.fiveI; obtain ⟨f0, f1, f2, f3, f4⟩ := kx.fiveFI))
      clear p0 p1 p2 p3 p4 f0 f1 f2 f3 f4
      have hG := grown5I w3 gx (.int .i64 qi) (.slice A3 n3 c3) (.slice B3 m3 d3) (.int .i64 ql) (.int .i64 qt)
      have hx4 := (hx.put hG hgx).ok
      have bc4 := Below.off bc bc.size hg1 hG
      have kx4 := kx.put5I (.int .i64 qi) (.slice A3 n3 c3) (.slice B3 m3 d3) (.int .i64 ql) (.int .i64 qt)
      clear hG hx bc kx
      generalize ((((w3.setCell ⟨gx, 0, none⟩ (.int .i64 qi)).setCell ⟨gx, 1, none⟩ (.slice A3 n3 c3)).setCell ⟨gx, 2, none⟩ (.slice B3 m3 d3)).setCell ⟨gx, 3, none⟩ (.int .i64 ql)).setCell ⟨gx, 4, none⟩ (.int .i64 qt) = w4 at *
      go_wp2_with fail
      go_roundw
      case rel => exact ⟨k + 1, ⟨A3, n3, c3⟩, ⟨B3, m3, d3⟩, by omega, by go_num, rfl, by rw [← HE.out]; exact kx4, by rw [← HE.out]; exact hx4, bc4⟩
      case measure => simp [intOf]; omega
    · obtain rfl : k = 4 := by omega
      have hpl := silent_plain HOK.out
      dsimp only at hpl
      obtain ⟨r1, r2, r3, r4, r5, r6, r7⟩ := hpl
      have hso : (roundsCn SS 4).out = bs := by rw [r3, ← HSS.out]; exact HSO.out
      generalize roundsCn SS 4 = r at *
      have hs1 := fun v u U (h : CnOk U.heap.size U r v u) => HS.out r v u lo U h
      have hs2 := fun v u U (h : CnOk U.heap.size U ⟨r.id, r.out, r.ms, 4, r.want⟩ v u) => HS.out ⟨r.id, r.out, r.ms, 4, r.want⟩ v u lo U h
      have hbt := fun v u U (h : CnOk U.heap.size U r v u) => HBT.out r v u U h
      have ha1 := fun v u U (h : CnOk U.heap.size U r v u) => HAL.out r v u U h
      have ha2 := fun v u U (h : CnOk U.heap.size U ⟨r.id, r.out, r.ms, 4, r.want⟩ v u) => HAL.out ⟨r.id, r.out, r.ms, 4, r.want⟩ v u U h
      rw [r6] at ha1
      rw [r7] at ha2
      rw [r4] at hbt
      have hz0 := silent_send r2 lo.toNat
      have hz1 := fun q => lively_send (c := ⟨r.id, r.out, r.ms, 4, r.want⟩) (show (0 : Int) < 4 by omega) lo.toNat q
      have hz2 := sentB_length ⟨r.id, r.out, r.ms, 4, r.want⟩ lo.toNat
      have hn0 : ¬ (0 ≤ lo ∧ lo ≤ 8) → sendCn r lo = (2, []) ∧ sendCn ⟨r.id, r.out, r.ms, 4, r.want⟩ lo = (2, []) := fun h => ⟨by unfold sendCn; rw [if_pos r1, if_neg h], by unfold sendCn; rw [if_pos r5, if_neg h]⟩
      have hn1 : (0 ≤ lo ∧ lo ≤ 8) → sendCn r lo = (0, List.replicate lo.toNat 0) ∧ sendCn ⟨r.id, r.out, r.ms, 4, r.want⟩ lo = (0, sentB ⟨r.id, r.out, r.ms, 4, r.want⟩ lo.toNat) := fun h => ⟨by unfold sendCn; rw [if_pos r1, if_pos h, hz0], by unfold sendCn; rw [if_pos r5, if_pos h]⟩
      dsimp only at hz1
      unfold ResCn at hbt
      unfold ResBy at hs1 hs2
      generalize sentB ⟨r.id, r.out, r.ms, 4, r.want⟩ lo.toNat = sy at *
      rw [hso] at hz1
      generalize sendCn r lo = R1 at *
      generalize sendCn ⟨r.id, r.out, r.ms, 4, r.want⟩ lo = R2 at *
      clear r1 r2 r3 r4 r5 r6 r7 hso hz0
      obtain ⟨ri, ro, rm, rl, rt⟩ := r
      obtain ⟨A1, n1, c1⟩ := v
      obtain ⟨B1, m1, d1⟩ := u
      dsimp only [cCn] at *
      have HS1 := Lib.hid hs1; have HS2 := Lib.hid hs2; have HB1 := Lib.hid hbt; have HA1 := Lib.hid ha1; have HA2 := Lib.hid ha2; have HZ1 := Lib.hid hz1; have HZ2 := Lib.hid hz2
      clear hs1 hs2 hbt ha1 ha2 hz1 hz2 HR HR2
      by_cases cl : 0 ≤ lo ∧ lo ≤ 8
      rotate_left
      · obtain ⟨rfl, rfl⟩ := hn0 cl
        clear hn1 hn0 HZ1 HZ2
        obtain ⟨pkx0, pkx1, pkx2, pkx3, pkx4⟩ := kx.fiveI
        go_upto_region 11 with (first | (go_at_call 22; refine (HS1.out ⟨A1, n1, c1⟩ ⟨B1, m1, d1⟩ _ hx).mono ?_; rintro e w9 ⟨⟨pA, pn, pc⟩, rfl, hb, hC⟩; dsimp only; (try clear pkx0 pkx1 pkx2 pkx3 pkx4); replace kx := kx.on hC; replace hx := hx.on hC; replace bc := bc.trans (hC.mono bc.size); clear hC; obtain ⟨pkx0, pkx1, pkx2, pkx3, pkx4⟩ := kx.fiveI))
        go_upto_region 12 with (first | (go_at_call 18; refine (HB1.out ⟨A1, n1, c1⟩ ⟨B1, m1, d1⟩ _ hx).mono ?_; rintro e w10 ⟨⟨A4, n4, c4⟩, ⟨B4, m4, d4⟩, rfl, hy, hC⟩; dsimp only; (try clear pkx0 pkx1 pkx2 pkx3 pkx4); replace kx := kx.on hC; replace hx := hx.on hC; replace hb := hb.on hC; replace bc := bc.trans (hC.mono bc.size); clear hC; obtain ⟨pkx0, pkx1, pkx2, pkx3, pkx4⟩ := kx.fiveI))
        have ky := Blk.new w10 25 #[.int .i64 ri, .slice A4 n4 c4, .slice B4 m4 d4, .int .i64 4, .int .i64 rt]
        have al := Below.al w10 (.cells #[.int .i64 ri, .slice A4 n4 c4, .slice B4 m4 d4, .int .i64 4, .int .i64 rt] 25)
        replace kx := kx.on al; replace hx := hx.on al; replace hb := hb.on al; have hyy := (hy.on al).ok; clear hy; have hy := hyy; clear hyy; replace bc := bc.trans (al.mono bc.size); clear al pkx0 pkx1 pkx2 pkx3 pkx4
        generalize w10.alloc (.cells #[.int .i64 ri, .slice A4 n4 c4, .slice B4 m4 d4, .int .i64 4, .int .i64 rt] 25) = u6 at *
        generalize w10.heap.size = gy at *
        clear w10
        obtain ⟨pkx0, pkx1, pkx2, pkx3, pkx4⟩ := kx.fiveI; obtain ⟨pky0, pky1, pky2, pky3, pky4⟩ := ky.fiveI
        go_upto_region 13 with (first | (go_at_call 22; refine (HS2.out ⟨A4, n4, c4⟩ ⟨B4, m4, d4⟩ _ hy).mono ?_; rintro e w11 ⟨⟨qA, qn, qc⟩, rfl, hd, hC⟩; dsimp only; (try clear pkx0 pkx1 pkx2 pkx3 pkx4 pky0 pky1 pky2 pky3 pky4); replace kx := kx.on hC; replace ky := ky.on hC; replace hx := hx.on hC; replace hy := hy.on hC; replace hb := hb.on hC; replace bc := bc.trans (hC.mono bc.size); clear hC; obtain ⟨pkx0, pkx1, pkx2, pkx3, pkx4⟩ := kx.fiveI; obtain ⟨pky0, pky1, pky2, pky3, pky4⟩ := ky.fiveI))
        go_wp2_with (first | (have _ := hmk; go_at_call 33; refine (HA2.out ⟨A4, n4, c4⟩ ⟨B4, m4, d4⟩ _ hy).mono ?_; rintro e w13 ⟨rfl, hC⟩; dsimp only; (try clear pkx0 pkx1 pkx2 pkx3 pkx4 pky0 pky1 pky2 pky3 pky4); replace kx := kx.on hC; replace ky := ky.on hC; replace hx := hx.on hC; replace hy := hy.on hC; replace hb := hb.on hC; replace hd := hd.on hC; replace bc := bc.trans (hC.mono bc.size); clear hC; obtain ⟨pkx0, pkx1, pkx2, pkx3, pkx4⟩ := kx.fiveI; obtain ⟨pky0, pky1, pky2, pky3, pky4⟩ := ky.fiveI) | (go_at_call 33; refine (HA1.out ⟨A1, n1, c1⟩ ⟨B1, m1, d1⟩ _ hx).mono ?_; rintro e w12 ⟨rfl, hC⟩; dsimp only; have hmk : True := trivial; (try clear pkx0 pkx1 pkx2 pkx3 pkx4 pky0 pky1 pky2 pky3 pky4); replace kx := kx.on hC; replace ky := ky.on hC; replace hx := hx.on hC; replace hy := hy.on hC; replace hb := hb.on hC; replace hd := hd.on hC; replace bc := bc.trans (hC.mono bc.size); clear hC; obtain ⟨pkx0, pkx1, pkx2, pkx3, pkx4⟩ := kx.fiveI; obtain ⟨pky0, pky1, pky2, pky3, pky4⟩ := ky.fiveI))
        go_ret
        exact ⟨rfl, bc⟩
      obtain ⟨N, rfl⟩ := Int.eq_ofNat_of_zero_le cl.1
      obtain ⟨rfl, rfl⟩ := hn1 cl
      clear hn1 hn0
      obtain ⟨pkx0, pkx1, pkx2, pkx3, pkx4⟩ := kx.fiveI
      go_upto_region 11 with (first | (go_at_call 22; refine (HS1.out ⟨A1, n1, c1⟩ ⟨B1, m1, d1⟩ _ hx).mono ?_; rintro e w9 ⟨⟨pA, pn, pc⟩, rfl, hb, hC⟩; dsimp only; (try clear pkx0 pkx1 pkx2 pkx3 pkx4); replace kx := kx.on hC; replace hx := hx.on hC; replace bc := bc.trans (hC.mono bc.size); clear hC; obtain ⟨pkx0, pkx1, pkx2, pkx3, pkx4⟩ := kx.fiveI))
      go_upto_region 12 with (first | (go_at_call 18; refine (HB1.out ⟨A1, n1, c1⟩ ⟨B1, m1, d1⟩ _ hx).mono ?_; rintro e w10 ⟨⟨A4, n4, c4⟩, ⟨B4, m4, d4⟩, rfl, hy, hC⟩; dsimp only; (try clear pkx0 pkx1 pkx2 pkx3 pkx4); replace kx := kx.on hC; replace hx := hx.on hC; replace hb := hb.on hC; replace bc := bc.trans (hC.mono bc.size); clear hC; obtain ⟨pkx0, pkx1, pkx2, pkx3, pkx4⟩ := kx.fiveI))
      have ky := Blk.new w10 25 #[.int .i64 ri, .slice A4 n4 c4, .slice B4 m4 d4, .int .i64 4, .int .i64 rt]
      have al := Below.al w10 (.cells #[.int .i64 ri, .slice A4 n4 c4, .slice B4 m4 d4, .int .i64 4, .int .i64 rt] 25)
      replace kx := kx.on al; replace hx := hx.on al; replace hb := hb.on al; have hyy := (hy.on al).ok; clear hy; have hy := hyy; clear hyy; replace bc := bc.trans (al.mono bc.size); clear al pkx0 pkx1 pkx2 pkx3 pkx4
      generalize w10.alloc (.cells #[.int .i64 ri, .slice A4 n4 c4, .slice B4 m4 d4, .int .i64 4, .int .i64 rt] 25) = u6 at *
      generalize w10.heap.size = gy at *
      clear w10
      obtain ⟨pkx0, pkx1, pkx2, pkx3, pkx4⟩ := kx.fiveI; obtain ⟨pky0, pky1, pky2, pky3, pky4⟩ := ky.fiveI
      go_upto_region 13 with (first | (go_at_call 22; refine (HS2.out ⟨A4, n4, c4⟩ ⟨B4, m4, d4⟩ _ hy).mono ?_; rintro e w11 ⟨⟨qA, qn, qc⟩, rfl, hd, hC⟩; dsimp only; (try clear pkx0 pkx1 pkx2 pkx3 pkx4 pky0 pky1 pky2 pky3 pky4); replace kx := kx.on hC; replace ky := ky.on hC; replace hx := hx.on hC; replace hy := hy.on hC; replace hb := hb.on hC; replace bc := bc.trans (hC.mono bc.size); clear hC; obtain ⟨pkx0, pkx1, pkx2, pkx3, pkx4⟩ := kx.fiveI; obtain ⟨pky0, pky1, pky2, pky3, pky4⟩ := ky.fiveI))
      go_upto_region 17 with (first | (have _ := hmk; go_at_call 33; refine (HA2.out ⟨A4, n4, c4⟩ ⟨B4, m4, d4⟩ _ hy).mono ?_; rintro e w13 ⟨rfl, hC⟩; dsimp only; (try clear pkx0 pkx1 pkx2 pkx3 pkx4 pky0 pky1 pky2 pky3 pky4); replace kx := kx.on hC; replace ky := ky.on hC; replace hx := hx.on hC; replace hy := hy.on hC; replace hb := hb.on hC; replace hd := hd.on hC; replace bc := bc.trans (hC.mono bc.size); clear hC; obtain ⟨pkx0, pkx1, pkx2, pkx3, pkx4⟩ := kx.fiveI; obtain ⟨pky0, pky1, pky2, pky3, pky4⟩ := ky.fiveI) | (go_at_call 33; refine (HA1.out ⟨A1, n1, c1⟩ ⟨B1, m1, d1⟩ _ hx).mono ?_; rintro e w12 ⟨rfl, hC⟩; dsimp only; have hmk : True := trivial; (try clear pkx0 pkx1 pkx2 pkx3 pkx4 pky0 pky1 pky2 pky3 pky4); replace kx := kx.on hC; replace ky := ky.on hC; replace hx := hx.on hC; replace hy := hy.on hC; replace hb := hb.on hC; replace hd := hd.on hC; replace bc := bc.trans (hC.mono bc.size); clear hC; obtain ⟨pkx0, pkx1, pkx2, pkx3, pkx4⟩ := kx.fiveI; obtain ⟨pky0, pky1, pky2, pky3, pky4⟩ := ky.fiveI))
      obtain rfl : N = pn := by have := hb.bn; simpa using this.symm
      have hqn : qn = N := by have h1 := hd.bn; have h2 := HZ2.out; simp only [Int.toNat_natCast] at h2; dsimp only at h1; omega
      subst hqn
      have hcz := containsZ_any pA qn pc w13 (by omega) hb.by_
      have HCZ := Lib.hid hcz
      clear hcz pkx0 pkx1 pkx2 pkx3 pkx4 pky0 pky1 pky2 pky3 pky4 kx ky hx hy hb
      go_upto_region 18 with (first | (go_at_call 34; refine HCZ.out.mono ?_; rintro e w14 ⟨rfl, rfl⟩; dsimp only))
      clear HCZ
      have hxc2 := hxc
      have hdc := hd.bc
      dsimp only at hxc2 hdc
      have hxl := HXN.out
      have hX := HX.out.on bc
      by_cases hlq : (qn : Int) < (xn : Int)
      · have hq0 : (0 : Int) ≤ (qn : Int) := by omega
        have hq1 : (qn : Int) ≤ (xc : Int) := by omega
        have hq2 : (qn : Int) ≤ (qc : Int) := by omega
        have hmin : min (xn : Int) (qn : Int) = (qn : Int) := by omega
        have heq := HZ1.out qn (by rw [Int.toNat_natCast]; omega)
        have hnb : ∀ nw : NearW w13, Calls Try.prog 24 #[.slice qA qn qc, .slice xA qn xc] nw.W fun e w' => e = .returned (.bool true) ∧ nw.W = w' := fun nw => by
          have h := bequal_any qA xA qn qn qc xc (sy.take qn) (bs.take qn) nw.W (by have := hd.bn; dsimp only at this; rw [List.length_take]; omega) (by rw [List.length_take]; omega) (byt_takeI (hd.on nw.h).by_ qn) (byt_takeI (hX.on nw.h).by_ qn)
          rw [decide_eq_true heq] at h
          exact h
        have NB := Lib.hid hnb; clear hnb heq hX hxl hxc2 hdc hd
        have BC := Lib.hid bc; clear bc
        go_upto_region 19 with fail
        go_wp2_with fail
        refine wp_region_near (by kernel_rfl) (by kernel_rfl) ?_
        repeat (go_big_quiet_step (first
          | (go_at_call 24; with_reducible exact near_pureI (NB.out _))))
        refine wpQuiet_nil ?_
        rintro _ ⟨nw, rfl⟩
        go_wp2
        go_ret
        exact ⟨rfl, BC.out.trans (nw.h.mono BC.out.size)⟩
      · have hq0 : (0 : Int) ≤ (xn : Int) := by omega
        have hq1 : (xn : Int) ≤ (xc : Int) := by omega
        have hq2 : (xn : Int) ≤ (qc : Int) := by omega
        have hmin : min (xn : Int) (qn : Int) = (xn : Int) := by omega
        have heq := HZ1.out xn (by rw [Int.toNat_natCast]; omega)
        have hnb : ∀ nw : NearW w13, Calls Try.prog 24 #[.slice qA xn qc, .slice xA xn xc] nw.W fun e w' => e = .returned (.bool true) ∧ nw.W = w' := fun nw => by
          have h := bequal_any qA xA xn xn qc xc (sy.take xn) (bs.take xn) nw.W (by have := hd.bn; dsimp only at this; rw [List.length_take]; omega) (by rw [List.length_take]; omega) (byt_takeI (hd.on nw.h).by_ xn) (byt_takeI (hX.on nw.h).by_ xn)
          rw [decide_eq_true heq] at h
          exact h
        have NB := Lib.hid hnb; clear hnb heq hX hxl hxc2 hdc hd
        have BC := Lib.hid bc; clear bc
        go_upto_region 19 with fail
        go_wp2_with fail
        refine wp_region_near (by kernel_rfl) (by kernel_rfl) ?_
        repeat (go_big_quiet_step (first
          | (go_at_call 24; with_reducible exact near_pureI (NB.out _))))
        refine wpQuiet_nil ?_
        rintro _ ⟨nw, rfl⟩
        go_wp2
        go_ret
        exact ⟨rfl, BC.out.trans (nw.h.mono BC.out.size)⟩
end Go.Proofs.Ytnlmpemfpkmodaa
