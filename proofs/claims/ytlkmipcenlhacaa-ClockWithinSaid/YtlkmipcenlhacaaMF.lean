/-
  MaxAir of package medl answers as the document says, of all lists. Condition: a list that can be read.
-/
import Derived.Test.YtlkmipcenlhacaaME
namespace Go.Proofs.Ytlkmipcenlhacaa
open Go.RowKit

set_option maxRecDepth 100000 in
set_option maxHeartbeats 4000000 in
theorem maxAir_any (m : ML) (c s : Slc) (w : World) (hM : Med w m c s) : Calls Try.prog 63 #[vM m c s] w fun e w' => e = .returned (.int .i64 (maxAirS m.N m.ms)) ∧ Below w.heap.size w w' := by
  obtain ⟨N, S, G, W, D, L, cold, ms⟩ := m
  obtain ⟨Ac, nc, cc⟩ := c
  obtain ⟨As, ns, cs⟩ := s
  have hsn : ns = ms.length := hM.sn
  have hsm : ns ≤ maxLen := hM.sm
  have hs : Mds w.heap.size w As ms := hM.sb
  unfold maxLen at hsm
  have HSN := Lib.hid hsn; have HS := Lib.hid hs
  clear hM hsn hs
  dsimp only [vM]
  obtain ⟨kb, bc⟩ := bx1 w #[.int .i64 N, .int .i64 S, .int .i64 G, .int .i64 W, .int .i64 D, .int .i64 L, .slice Ac nc cc, .slice As ns cs] 25
  have hsz := fun W => size_any 1 0 W
  have hz : sizeF 1 0 = 40 := by decide
  rw [hz] at hsz
  have hai := fun W => air_any 40 W
  have hz2 : airS 40 = 34 := by decide
  rw [hz2] at hai
  have hbe := fun W => beyond_any 0 8 W
  have HSZ := Lib.hid hsz; have HAI := Lib.hid hai; have HBE := Lib.hid hbe; clear hsz hai hbe hz hz2
  go_enter Try.func63, Try.ntmps63
  go_wp2_with fail
  generalize w.alloc (.cells #[.int .i64 N, .int .i64 S, .int .i64 G, .int .i64 W, .int .i64 D, .int .i64 L, .slice Ac nc cc, .slice As ns cs] 25) = u1 at *
  refine (HSZ.out _).mono ?_
  rintro e w1 ⟨rfl, hC⟩
  dsimp only
  replace kb := kb.on hC; replace bc := bc.trans (hC.mono bc.size); clear hC
  go_wp2_with fail
  refine (HAI.out _).mono ?_
  rintro e w2 ⟨rfl, rfl⟩
  dsimp only
  go_wp2_with fail
  refine (HBE.out _).mono ?_
  rintro e w3 ⟨g, rfl, hg, k1, k2, hC⟩
  dsimp only
  replace kb := kb.on hC; replace bc := bc.trans (hC.mono bc.size); clear hC hg
  obtain ⟨p0, p1, p2, p3, p4, p5, p6, p7⟩ := kb.eight
  go_wp2_with fail
  clear p0 p1 p2 p3 p4 p5 p6 p7
  go_loopw [3, 6, 7, 14] (fun v _ _ i wr => ∃ k : Nat, k ≤ ns ∧ i = .int .i64 k ∧ v = .int .i64 (airOver N 34 (ms.take k)) ∧ Below w3.heap.size w3 wr) (fun _ _ _ i _ => ns - (intOf i).toNat)
  case atStart => exact ⟨0, by omega, rfl, rfl, Below.refl _ _⟩
  case round =>
    obtain ⟨k, hk, rfl, rfl, hB⟩ := hrel
    by_cases hlt : k < ns
    · have hkm : k < ms.length := by have := HSN.out; omega
      obtain ⟨o, ho⟩ : ∃ o, ms[k]? = some o := ⟨ms[k], List.getElem?_eq_getElem hkm⟩
      have hB2 := bc.trans (hB.mono bc.size)
      have hsn := airOver_snoc N 34 (ms.take k) o
      rw [← md_at ms k o ho] at hsn
      have har := airOver_range N (ms.take k) 34 (by decide) (by decide)
      obtain ⟨b, off, rfl, hb, v, hc0, hc1, hc2, hv⟩ := (HS.out.below hB2).at_ ho
      replace hv := hv.mono hB2.size
      have hbw : b < wr.heap.size := Nat.lt_of_lt_of_le hb hB2.size
      replace kb := kb.on hB; replace k1 := k1.on hB; replace k2 := k2.on hB
      have HBO := Lib.hid hB
      have HSNO := Lib.hid hsn; clear hsn ho hkm hB
      generalize airOver N 34 (ms.take k) = a at *
      obtain ⟨⟨Ad, nd, cd⟩, ⟨Ax, nx, cx⟩, ⟨An, nn, cn⟩⟩ := v
      dsimp only at hc0 hc1 hc2
      have ko := Blk.new wr 71 #[.slice Ad nd cd, .slice Ax nx cx, .slice An nn cn]
      have al := Below.al wr (.cells #[.slice Ad nd cd, .slice Ax nx cx, .slice An nn cn] 71)
      have hv' := hv.on al
      have kb' := kb.on al; have k1' := k1.on al; have k2' := k2.on al
      have bc' := hB2.trans (al.mono hB2.size)
      have HB3 := Lib.hid (HBO.out.trans (al.mono HBO.out.size))
      obtain ⟨p0, p1, p2, p3, p4, p5, p6, p7⟩ := kb.eight
      have hlw := kb.lt
      obtain ⟨X1, hX1⟩ : ∃ X1, (if (nd : Int) < N then (nd : Int) else N) = X1 := ⟨_, rfl⟩
      obtain ⟨X, hX⟩ : ∃ X, (if (nx : Int) < X1 then (nx : Int) else X1) = X := ⟨_, rfl⟩
      have hwd : ∀ j : Nat, (j : Int) < X ↔ j < wide N o := by
        intro j
        have h1 := hv.dn; have h2 := hv.xn
        dsimp only at h1 h2
        unfold wide
        rw [← hX, ← hX1]
        split <;> split <;> omega
      have HWD := Lib.hid hwd; clear hwd
      go_wp2
      clear kb k1 k2 hc0 hc1 hc2 p0 p1 p2 p3 p4 p5 p6 p7 hX hX1 hB2 hlw
      generalize wr.alloc (.cells #[.slice Ad nd cd, .slice Ax nx cx, .slice An nn cn] 71) = u2 at *
      generalize wr.heap.size = go at *
      go_loopw [3, 7, 27] (fun v _ i wi => ∃ j : Nat, j ≤ wide N o ∧ i = .int .i64 j ∧ v = .int .i64 (modeAir o j a) ∧ Below u2.heap.size u2 wi) (fun _ _ i _ => wide N o - (intOf i).toNat)
      case atStart => exact ⟨0, by omega, rfl, rfl, Below.refl _ _⟩
      case round =>
        obtain ⟨j, hj, rfl, rfl, hBi⟩ := hrel
        have hsu := modeAir_succ o j a
        have hmr := modeAir_range o j a har.1 har.2
        generalize ha2 : modeAir o j a = a2 at *
        by_cases hjl : j < wide N o
        · have hjx : (j : Int) < X := (HWD.out j).2 hjl
          have hjd : j < o.d.length := by unfold wide at hjl; omega
          have hjxx : j < o.x.length := by unfold wide at hjl; omega
          have hv2 := hv'.on hBi
          have hnd : j < nd := by have := hv2.dn; dsimp only at this; omega
          have hmd : nd ≤ maxLen := hv2.dm
          unfold maxLen at hmd
          have k1i := k1'.on hBi
          have k2i := k2'.on hBi
          obtain ⟨q0, q1, q2⟩ := (ko.on hBi).three
          obtain ⟨b2, off2, e1, hb2, hc1⟩ := hv2.d.at_ (k := j) hjd
          dsimp only at e1
          subst e1
          have hao := fun h0 => airOf_any o _ j wr hv2 hjd hjxx h0
          have hbk := beyond1_any 0 8 (o.d[j]?.getD 0) g wr k1i k2i
          unfold nodeAir at hsu
          clear ha2
          have HWJ := Lib.hid hjl
          clear hjd hjxx hv2 hjl
          generalize o.d[j]?.getD 0 = y at *
          generalize airAt (o.x[j]?.getD false) y = air at *
          cases hby : beyondS 0 8 y with
          | true =>
            rw [hby] at hbk
            have hno : ¬ (0 ≤ y ∧ y ≤ 8) := by intro h; rw [(beyond_iff 0 8 y).2 h] at hby; cases hby
            rw [if_neg hno] at hsu
            have HSU := Lib.hid hsu; have HBK := Lib.hid hbk; clear hsu hbk hao hno hby
            go_wp2_with (go_at_call 58; refine HBK.out.mono ?_; rintro e w4 ⟨rfl, rfl⟩)
            go_roundw
            case rel => exact ⟨j + 1, by have := HWJ.out; omega, by go_num, by rw [HSU.out], hBi⟩
            case measure => have := HWJ.out; simp [intOf]; omega
          | false =>
            rw [hby] at hbk
            have hno := (beyond_iff 0 8 y).1 hby
            rw [if_pos hno] at hsu
            obtain ⟨Z, hZ⟩ : ∃ Z, (if a2 < air then air else a2) = Z := ⟨_, rfl⟩
            have hZ2 : max a2 air = Z := by rw [← hZ]; split <;> omega
            rw [hZ2] at hsu
            have HAO := Lib.hid (hao hno.1)
            have HSU := Lib.hid hsu; have HBK := Lib.hid hbk; clear hsu hbk hao hno hby hZ2
            go_wp2_with (first | (go_at_call 58; refine HBK.out.mono ?_; rintro e w4 ⟨rfl, rfl⟩) | (go_at_call 72; refine HAO.out.mono ?_; rintro e w5 ⟨rfl, hC5⟩))
            go_roundw
            case rel => exact ⟨j + 1, by have := HWJ.out; omega, by go_num, by rw [HSU.out], hBi.trans (hC5.mono hBi.size)⟩
            case measure => have := HWJ.out; simp [intOf]; omega
        · have hjx : ¬ (j : Int) < X := fun h => hjl ((HWD.out j).1 h)
          obtain rfl : j = wide N o := by omega
          have HA2 := Lib.hid ha2; clear ha2 hsu
          go_wp2
          go_roundw
          case rel => exact ⟨k + 1, by omega, by go_num, by rw [HSNO.out, HA2.out], HB3.out.trans (hBi.mono HB3.out.size)⟩
          case measure => simp [intOf]; omega
    · have hk2 : k = ms.length := by have := HSN.out; omega
      have hfin : airOver N 34 (ms.take k) = maxAirS N ms := by rw [hk2, List.take_length]; rfl
      rw [hfin]
      clear hfin hk2
      go_wp2
      go_ret
      exact ⟨rfl, bc.trans (hB.mono bc.size)⟩
end Go.Proofs.Ytlkmipcenlhacaa
