/-
  The document's Round: clocks behind a round. Conditions: those that the theorem names.
-/
import Derived.Test.YtfncccjiiipfoaaFT
import Derived.Deep.RegionHeld3
import Derived.Deep.AppendLies
namespace Go.Proofs.Ytfncccjiiipfoaa
open Go.RowKit

theorem any_whole {l : List (List Int)} {n : Nat} (h : l.length = n) (p : List Int → Bool) : (l.take n).any p = l.any p := by rw [List.take_of_length_le (by omega)]
theorem take_map_succ {l : List Int} {k : Nat} (h : k < l.length) {v : Int} (hv : nth l k = v) : (l.take (k + 1)).map (Value.int .i64) = (l.take k).map (Value.int .i64) ++ [.int .i64 v] := by
  subst hv; rw [take_nth l k h, List.map_append]; rfl

set_option maxRecDepth 8000 in
set_option maxHeartbeats 8000000 in
theorem rround_any (A X : Option Addr) (n c xn xc : Nat) (cs : List Int) (rs : List RJ) (w : World) (hn : n = cs.length) (hm : n ≤ maxLen) (hA : Ints w.heap.size w A cs) (hx : xn = rs.length) (hxm : xn ≤ maxLen) (hX : RowsJ w.heap.size w X rs) :
    Calls Try.prog 20 #[.slice A n c, .slice X xn xc] w fun e w' => ∃ B d, e = .returned (roundV B d (roundS cs (rs.map RJ.l))) ∧ Ints w'.heap.size w' B (roundS cs (rs.map RJ.l)).1 ∧ Below w.heap.size w w' := by
  unfold roundV
  by_cases h1 : 4 ≤ n ∧ n ≤ 8
  · have d1 : decide ((n : Int) < 4) = false := by simp; omega
    have d2 : decide (8 < (n : Int)) = false := by simp; omega
    have arg := roundS_arg (cs := cs) (rows := rs.map RJ.l)
    have off := roundS_off (cs := cs) (rows := rs.map RJ.l)
    have fit := roundS_fit (cs := cs) (rows := rs.map RJ.l)
    have hsd : ∀ q, sizedS n q = (decide (q.length = n) && !q.any (wrongS n)) := fun q => rfl
    rw [← hn] at arg off fit
    by_cases hxn : xn = n
    · have hro := fun (y : RJ) (h : RJok w.heap.size w y) => roff_any y.A y.n y.c y.l w h.1 h.2.1 h.2.2
      have hof := roff_any A n c cs w hn hm hA
      have hrow := fun k (hk : k < n) => hX.row (k := k) (by omega)
      have hrl : (rs.map RJ.l).length = n := by rw [List.length_map]; omega
      have hall := any_whole hrl
      have hsr := sizedS_row (n := n) (rows := rs.map RJ.l)
      have hrf := fun h => nthR_off (rows := rs.map RJ.l) h
      rw [hsd, hrl] at arg off fit
      rw [hsd, hrl] at hsr
      simp only [decide_true, Bool.true_and, Bool.not_eq_true'] at arg off fit hsr
      obtain rfl : n = xn := hxn.symm
      generalize hrows : rs.map RJ.l = rows at *
      have HARG := Lib.hid arg; have HOFF := Lib.hid off; have HFIT := Lib.hid fit; have HRO := Lib.hid hro; have HOF := Lib.hid hof; have HROW := Lib.hid hrow; have HALL := Lib.hid hall; have HSR := Lib.hid hsr; have HRF := Lib.hid hrf
      have HA := Lib.hid hA; have HN := Lib.hid hn; have HRL := Lib.hid hrl
      clear arg off fit hro hof hrow hall hsr hrf hA hn hX hx hxm hrows hsd hrl
      go_enter Try.func20, Try.ntmps20
      go_wp2
      go_loopw [7] (fun i wr => ∃ k : Nat, k ≤ n ∧ i = .int .i64 k ∧ (rows.take k).any (wrongS n) = false ∧ wr = w) (fun i _ => n - (intOf i).toNat)
      case atStart => exact ⟨0, by omega, rfl, rfl, rfl⟩
      case round =>
        obtain ⟨k, hk, rfl, hno, rfl⟩ := hrel
        have HNO := Lib.hid hno; clear hno
        by_cases hlt : k < n
        · obtain ⟨bx, ox, y, rfl, hbx, hcx, hyok, hyr⟩ := HROW.out k hlt
          have hs := anyR_snoc (wrongS n) _ k y.l hyr
          rw [HNO.out] at hs
          have hf := anyR_from (wrongS n) _ k y.l hyr
          have HS := Lib.hid hs; have HF := Lib.hid hf
          have hyn := hyok.1
          clear hs hf hyr hyok
          obtain ⟨Ay, ny, cy, ly⟩ := y
          dsimp only at *
          by_cases hq : ny = n
          · have hw : wrongS n ly = false := by unfold wrongS; simp; omega
            have HW := Lib.hid hw; clear hw hyn
            subst hq
            go_wp2
            go_roundw
            case rel => exact ⟨k + 1, by omega, by go_num, by rw [HS.out, HW.out] <;> rfl, by trivial⟩
            case measure => simp [intOf]; omega
          · have e1 : ((ny : Int) == (n : Int)) = false := by simp; omega
            have e2 : decide ((ny : Int) = (n : Int)) = false := by simp; omega
            have hw : wrongS n ly = true := by unfold wrongS; simp; omega
            have HW := Lib.hid (HF.out hw); clear hw hyn hq HF
            go_wp2
            go_ret2
            have := HARG.out (fun h => by have := h.2.2; rw [HW.out] at this; cases this)
            rw [this]
            exact ⟨none, 0, rfl, ints_nil _ _, Below.refl _ _⟩
        · obtain rfl : k = n := by omega
          have hall0 := HNO.out
          rw [HALL.out] at hall0
          have HW := Lib.hid hall0
          clear hall0 HNO HARG
          obtain ⟨q0, hq0⟩ : ∃ q0, offS cs = q0 := ⟨_, rfl⟩
          rw [hq0] at HOF
          have HQ := Lib.hid hq0; clear hq0
          go_wp2_with (go_at_call 34; refine HOF.out.mono ?_; rintro e w2 ⟨rfl, rfl⟩)
          go_loopw [8, 9] (fun bd i w2 => ∃ j : Nat, j ≤ k ∧ i = .int .i64 j ∧ bd = .bool (q0 || (rows.take j).any offS) ∧ w2 = wr) (fun _ i _ => k - (intOf i).toNat)
          case atStart => exact ⟨0, by omega, rfl, by simp, rfl⟩
          case round =>
            obtain ⟨j, hj, rfl, rfl, rfl⟩ := hrel
            by_cases hjl : j < k
            · obtain ⟨bx, ox, y, rfl, hbx, hcx, hyok, hyr⟩ := HROW.out j hjl
              have hs := anyR_snoc offS _ j y.l hyr
              have hc := HRO.out y hyok
              have HS := Lib.hid hs
              clear hs hyr hyok
              obtain ⟨Ay, ny, cy, ly⟩ := y
              dsimp only at *
              obtain ⟨q1, hq1⟩ : ∃ q1, (q0 || (rows.take j).any offS) = q1 := ⟨_, rfl⟩
              rw [hq1]
              have HQ1 := Lib.hid hq1; clear hq1
              obtain ⟨q2, hq2⟩ : ∃ q2, offS ly = q2 := ⟨_, rfl⟩
              rw [hq2] at hc
              have HQ2 := Lib.hid hq2; clear hq2
              have HC := Lib.hid hc; clear hc
              cases q1 with
              | true =>
                go_wp2
                go_roundw
                case rel => exact ⟨j + 1, by omega, by go_num, by rw [HS.out, ← Bool.or_assoc, HQ1.out] <;> rfl, by trivial⟩
                case measure => simp [intOf]; omega
              | false =>
                go_wp2_with (go_at_call 34; refine HC.out.mono ?_; rintro e w3 ⟨rfl, rfl⟩)
                go_roundw
                case rel => exact ⟨j + 1, by omega, by go_num, by rw [HS.out, ← Bool.or_assoc, HQ1.out, HQ2.out] <;> rfl, by trivial⟩
                case measure => simp [intOf]; omega
            · obtain rfl : j = k := by omega
              rw [HALL.out]
              obtain ⟨q3, hq3⟩ : ∃ q3, (q0 || rows.any offS) = q3 := ⟨_, rfl⟩
              rw [hq3]
              rw [← HQ.out] at hq3
              cases q3 with
              | true =>
                have HO := Lib.hid (HOFF.out ⟨h1.1, h1.2, HW.out⟩ hq3)
                clear HOFF HFIT hq3
                go_wp2
                go_ret2
                rw [HO.out]
                exact ⟨none, 0, rfl, ints_nil _ _, Below.refl _ _⟩
              | false =>
                have HO := Lib.hid (HFIT.out ⟨h1.1, h1.2, HW.out⟩ hq3)
                have hro : rows.any offS = false := by cases h : rows.any offS <;> simp [h] at hq3 ⊢
                have hoc : offS cs = false := by cases h : offS cs <;> simp [h] at hq3 ⊢
                have HROO := Lib.hid hro; have HOC := Lib.hid hoc
                clear HOFF HFIT hq3 hro hoc
                go_wp2
                have hcb := nth_in (B := 274877906944) (by decide) (offS_in HOC.out)
                have hpre : ∀ i, i < j → ∃ (bx ox : Nat) (Ay : Option Addr) (cy : Nat) (ly : List Int), X = some ⟨bx, ox, none⟩ ∧ bx < wr.heap.size ∧ wr.cell? ⟨bx, ox + i, none⟩ = some (.slice Ay j cy) ∧ Ints wr.heap.size wr Ay ly ∧ ly.length = j ∧ offS ly = false ∧ nth (roundL cs rows) i = nth cs i + (midS (agS cs ly i)).1 := fun i hi => by
                  obtain ⟨bx, ox, y, hX, hbx, hcx, hyok, hyr⟩ := HROW.out i hi
                  have hyl := (HSR.out HW.out).2 _ (List.mem_of_getElem? hyr)
                  have hyo := HRF.out HROO.out i
                  have hth := roundL_nth cs rows i (by rw [← HN.out]; exact hi)
                  rw [nthR_at hyr] at hyo hth
                  exact ⟨bx, ox, y.A, y.c, y.l, hX, hbx, by rw [hcx, hyok.1, hyl], hyok.2.2, hyl, hyo, hth⟩
                have hll : (roundL cs rows).length = j := by rw [roundL_length]; exact HN.out.symm
                have hagl := fun l i => agS_length cs l i
                have hagn := fun l i k (h : k < j) => agS_nth cs l i k (by rw [← HN.out]; exact h)
                rw [← HN.out] at hagl
                have hint := HA.out
                have hAat := fun i (hi : i < j) => hint.nAt (k := i) (by rw [← HN.out]; exact hi)
                obtain ⟨i0, hi, hz0, hz1, hz2⟩ := info_parts Try.infoJ
                have HPRE := Lib.hid hpre; have HLL := Lib.hid hll; have HAGL := Lib.hid hagl; have HAGN := Lib.hid hagn; have HCB := Lib.hid hcb; have HAT := Lib.hid hAat
                clear hpre hll hagl hagn hcb hAat hint HN HRL HALL HSR HRF HRO HROW HW HQ HOF HROO HOC HA
                generalize roundL cs rows = L at *
                obtain ⟨wo, hwo⟩ : ∃ wo, wo = wr := ⟨_, rfl⟩
                subst hwo
                have hB0 := Below.refl wo.heap.size wo
                go_loopw [10, 11] (fun ov i w3 => ∃ (k : Nat) (ob : Option Addr) (od : Nat), k ≤ j ∧ i = .int .i64 k ∧ ov = .slice ob k od ∧ w3.ownsRow wo.heap.size 2 1 ov k ((L.take k).map (Value.int .i64)) ∧ Below wo.heap.size wo w3) (fun _ i _ => j - (intOf i).toNat)
                case atStart => exact ⟨0, none, 0, by omega, rfl, rfl, World.ownsRow_nil _ _ _ _, hB0⟩
                case round =>
                  obtain ⟨k, ob, od, hk3, rfl, rfl, hown, hB⟩ := hrel
                  clear hB0
                  by_cases hlt3 : k < j
                  · obtain ⟨bx, ox, Ay, cy, ly, rfl, hbx, hcx, hyi, hyl, hyo, hth⟩ := HPRE.out k hlt3
                    obtain ⟨b, off, rfl, hb, hcA⟩ := HAT.out k hlt3
                    have hcellx := fun W (h : Below wo.heap.size wo W) => (h.cell (p := ⟨bx, ox + k, none⟩) hbx).trans hcx
                    have hcella := fun W (h : Below wo.heap.size wo W) => (h.cell (p := ⟨b, off + k, none⟩) hb).trans hcA
                    have hagn := HAGN.out ly k
                    have hagl := HAGL.out ly k
                    have hyb := nth_in (B := 274877906944) (by decide) (offS_in hyo)
                    have hmid := fun B d w1 (h : Ints w1.heap.size w1 B (agS cs ly k)) => rmid_any B j d (agS cs ly k) w1 hagl.symm (by omega) h
                    have hmb := midS_bound (agS cs ly k)
                    have hyat := fun i (hi : i < j) => hyi.nAt (k := i) (by rw [hyl]; exact hi)
                    have hzb := HCB.out k
                    have htm := take_map_succ (l := L) (k := k) (by rw [HLL.out]; exact hlt3) hth
                    generalize agS cs ly k = ag at *
                    have htk := fun i (h : i < j) => take_map_succ (l := ag) (k := i) (by rw [hagl]; exact h) (hagn i h)
                    generalize hz : nth cs k = z at *
                    unfold midV at hmid
                    generalize midS ag = p at *
                    obtain ⟨p1, p2⟩ := p
                    dsimp only at hmid hmb htm
                    unfold mOff at hmb
                    have ez : IntKind.i64.wrap (z + p1) = z + p1 := IntWalk.i64_in _ (by omega)
                    have HCX := Lib.hid hcellx; have HCA := Lib.hid hcella; have HAGL2 := Lib.hid hagl; have HYB := Lib.hid hyb; have HMID := Lib.hid hmid; have HYAT := Lib.hid hyat; have HZB := Lib.hid hzb; have HTM := Lib.hid htm; have HTK := Lib.hid htk; have HOWN := Lib.hid hown
                    clear hcellx hcella hagl hagn hyb hmid hyat hzb htm htk hown hcx hcA hyi hyl hyo hth hmb hz
                    have hwo := hB.size
                    go_wp2
                    obtain ⟨wm, hwm⟩ : ∃ wm, wm = wr := ⟨_, rfl⟩
                    subst hwm
                    have hB1 := Below.refl wm.heap.size wm
                    go_loopw [12, 13] (fun lv i wi => ∃ (k2 : Nat) (lb : Option Addr) (ld : Nat), k2 ≤ j ∧ i = .int .i64 k2 ∧ lv = .slice lb k2 ld ∧ wi.ownsRow wm.heap.size 2 1 lv k2 ((ag.take k2).map (Value.int .i64)) ∧ Below wm.heap.size wm wi) (fun _ i _ => j - (intOf i).toNat)
                    case atStart => exact ⟨0, none, 0, by omega, rfl, rfl, World.ownsRow_nil _ _ _ _, hB1⟩
                    case round =>
                      obtain ⟨k2, lb, ld, hk2, rfl, rfl, howl, hBi⟩ := hrel
                      clear hB1
                      have hBw := hB.trans (hBi.mono hB.size)
                      have hcx0 := HCX.out _ hBw
                      have hbxw : bx < wr.heap.size := Nat.lt_of_lt_of_le hbx hBw.size
                      by_cases hlt2 : k2 < j
                      · obtain ⟨b', off', e1, hb', hcA2⟩ := HAT.out k2 hlt2
                        injection e1 with e1; injection e1 with e1 e2; subst e1; subst e2
                        obtain ⟨by_, oy, rfl, hby, hcy⟩ := HYAT.out k2 hlt2
                        have yb := HYB.out k2; have xb := HCB.out k2; have zb := HZB.out
                        have htk2 := HTK.out k2 hlt2
                        generalize nth cs k2 = x at *
                        generalize nth ly k2 = u at *
                        have f1 : IntKind.i64.wrap (x - z) = x - z := IntWalk.i64_in _ (by omega)
                        have f2 : IntKind.i64.wrap (x - z + u) = x - z + u := IntWalk.i64_in _ (by omega)
                        have hall := fun W (h : Below wo.heap.size wo W) => (⟨(h.cell (p := ⟨b, off + k2, none⟩) hb).trans hcA2, HCA.out W h, HCX.out W h, (h.cell (p := ⟨by_, oy + k2, none⟩) hby).trans hcy⟩ : W.cell? ⟨b, off + k2, none⟩ = some (.int .i64 x) ∧ W.cell? ⟨b, off + k, none⟩ = some (.int .i64 z) ∧ W.cell? ⟨bx, ox + k, none⟩ = some (.slice (some ⟨by_, oy, none⟩) j cy) ∧ W.cell? ⟨by_, oy + k2, none⟩ = some (.int .i64 u))
                        have HALL2 := Lib.hid hall; have HTK2 := Lib.hid htk2
                        clear hall htk2 hcA2 hcy yb xb zb
                        go_wp2
                        obtain ⟨c1, c2, c3, c4⟩ := HALL2.out _ hBw.drew
                        have bw1 : b < wr.drew.heap.size := Nat.lt_of_lt_of_le hb hBw.drew.size
                        have bw3 : by_ < wr.drew.heap.size := Nat.lt_of_lt_of_le hby hBw.drew.size
                        have al := Below.al wr.drew (.cells #[.int .i64 (x - z + u)] 2)
                        obtain ⟨k3, k4, k5, k6⟩ := HALL2.out _ (hBw.drew.trans (al.mono hBw.drew.size))
                        have ho0 := own_on howl (Below.refl _ _).drew
                        have ho9 := own_on ho0 al
                        have hBi0 := hBi.drew
                        have hbk := Blk.new wr.drew 2 #[.int .i64 (x - z + u)]
                        have hGx : wm.heap.size ≤ (wr.drew.alloc (.cells #[.int .i64 (x - z + u)] 2)).heap.size := by have := hBi0.size; simp at *; omega
                        clear howl al
                        go_region_held3 (fun w' => w'.cell? ⟨b, off + k2, none⟩ = some (.int .i64 x) ∧ w'.cell? ⟨b, off + k, none⟩ = some (.int .i64 z) ∧ w'.cell? ⟨bx, ox + k, none⟩ = some (.slice (some ⟨by_, oy, none⟩) j cy) ∧ w'.cell? ⟨by_, oy + k2, none⟩ = some (.int .i64 u)) (first | exact ⟨c1, c2, c3, c4⟩ | exact ⟨k3, k4, k5, k6⟩ | exact p0) (first
                          | (refine step_append_own2 _ rfl (.tmp 87) (.tmp 105) 22 rfl wm.heap.size 2 i0 (.int .i64 0) 1 8 Try.underlying22 hi hz0 hz1 hz2 rfl (by decide) (.slice lb k2 ld) k2 _ (by simp [Act.eval]) ho9 ⟨wr.drew.heap.size, 0, none⟩ 1 1 [.int .i64 (x - z + u)] (by simp [Act.eval]) rfl (World.news_of_block hbk) (by simp [Value.oneCell']) (by unfold maxLen; omega) (by omega) hGx ?_; intro v' w4 hown4 hgrow; have hb4 := own_below ho0 hgrow hBi0 (Nat.le_refl _) hBi0.size; have p0 := HALL2.out w4 (hB.trans (hb4.mono hB.size))))
                        rw [← HTK2.out] at hown4
                        obtain ⟨A4, c4', hv4⟩ := own_slice hown4
                        subst hv4
                        clear ho0 ho9 hbk hgrow c1 c2 c3 c4 k3 k4 k5 k6 p0
                        have HO4 := Lib.hid hown4; clear hown4
                        go_wp2
                        go_roundw
                        case rel => exact ⟨k2 + 1, A4, c4', by omega, by go_num, rfl, HO4.out, hb4⟩
                        case measure => simp [intOf]; omega
                      · obtain rfl : k2 = j := by omega
                        rw [show ag.take k2 = ag from List.take_of_length_le (by rw [HAGL2.out]; exact Nat.le_refl _)] at howl
                        obtain ⟨A2, c2, hv, -, -, hI⟩ := ints_own howl
                        injection hv with v1 v2 v3
                        subst v1
                        subst v3
                        have hown3 := own_on HOWN.out hBi
                        clear howl v2 HOWN hcx0 hbxw
                        go_wp2_with (first
                          | (go_at_call 14; refine (HMID.out _ _ _ hI).mono ?_; rintro e w5 ⟨rfl, hC⟩; have hB5 := hBw.trans (hC.mono hBw.size); have ho5 := own_on hown3 hC; have hc5 := HCA.out _ hB5; have hb5 : b < w5.heap.size := Nat.lt_of_lt_of_le hb hB5.size; clear hC hown3 hI)
                          | (at_builtin; refine wpList_append_own _ rfl _ _ 22 rfl wo.heap.size 2 i0 (.int .i64 0) 1 8 Try.underlying22 hi hz0 hz1 hz2 rfl (by decide) (.slice ob k od) k _ rfl (ho5.alloc _) ⟨w5.heap.size, 0, none⟩ 1 1 [.int .i64 (z + p1)] rfl rfl (cell_one_new _ _ _) (by simp [Value.oneCell']) (by unfold maxLen; omega) (by omega) (by have := hB5.size; simp; omega) ?_; intro v' w6 hown6 hgrow _; obtain ⟨A6, c6, hv6⟩ := own_slice hown6; subst hv6; have hb6 := own_below ho5 hgrow hB5 (Nat.le_refl _) hB5.size))
                        rw [← HTM.out] at hown6
                        go_roundw
                        case rel => exact ⟨k + 1, A6, c6, by omega, by go_num, rfl, hown6, hb6⟩
                        case measure => simp [intOf]; omega
                  · obtain rfl : k = j := by omega
                    rw [show L.take k = L from List.take_of_length_le (by rw [HLL.out]; exact Nat.le_refl _)] at hown
                    obtain ⟨A2, c2, hv, -, -, hI⟩ := ints_own hown
                    injection hv with v1 v2 v3
                    subst v1
                    subst v3
                    have hl := HLL.out
                    clear hown v2
                    go_wp2
                    go_ret2
                    rw [HO.out]
                    exact ⟨ob, od, (by rw [hl] <;> rfl), hI, hB⟩
    · have e1 : ((xn : Int) == (n : Int)) = false := by simp; omega
      have e2 : decide ((xn : Int) = (n : Int)) = false := by simp; omega
      rw [arg (fun h => by have := h.2.2; rw [hsd] at this; simp at this; omega)]
      clear arg off fit hsd hA hX hn hx hxn
      go_enter Try.func20, Try.ntmps20
      go_wp2
      go_ret2
      exact ⟨none, 0, rfl, ints_nil _ _, Below.refl _ _⟩
  · rw [roundS_arg (fun h => h1 ⟨by omega, by omega⟩)]
    clear hA hX hn hx
    by_cases h2 : n < 4
    · have d1 : decide ((n : Int) < 4) = true := by simp; omega
      go_enter Try.func20, Try.ntmps20
      go_wp2
      go_ret2
      exact ⟨none, 0, rfl, ints_nil _ _, Below.refl _ _⟩
    · have d1 : decide ((n : Int) < 4) = false := by simp; omega
      have d2 : decide (8 < (n : Int)) = true := by simp; omega
      go_enter Try.func20, Try.ntmps20
      go_wp2
      go_ret2
      exact ⟨none, 0, rfl, ints_nil _ _, Below.refl _ _⟩
end Go.Proofs.Ytfncccjiiipfoaa
