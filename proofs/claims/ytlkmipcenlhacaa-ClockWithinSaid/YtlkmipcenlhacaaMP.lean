/-
  The document's own trues, kind and MaxAir of layer 7. Conditions: those that each theorem names. (Printed by tools/gen07p.py.)
-/
import Derived.Test.YtlkmipcenlhacaaME
namespace Go.Proofs.Ytlkmipcenlhacaa
open Go.RowKit

set_option maxRecDepth 4000 in
set_option maxHeartbeats 1000000 in
theorem rtrues_any (A : Option Addr) (n c : Nat) (l : List Bool) (w : World) (hn : n = l.length) (hm : n ≤ maxLen) (hA : Bools w.heap.size w A l) :
    Calls Try.prog 54 #[.slice A n c] w fun e w' => e = .returned (.int .i64 (trues l)) ∧ w = w' := by
  have HA := Lib.hid hA
  have HN := Lib.hid hn; clear hn hA
  unfold maxLen at hm
  go_enter Try.func54, Try.ntmps54
  go_wp2
  go_loopw [3, 4] (fun v i wr => ∃ k t : Nat, k ≤ n ∧ t ≤ k ∧ i = .int .i64 k ∧ v = .int .i64 t ∧ trues (l.take k) = t ∧ wr = w) (fun _ i _ => n - (intOf i).toNat)
  case atStart => exact ⟨0, 0, by omega, by omega, rfl, rfl, rfl, rfl⟩
  case round =>
    obtain ⟨k, t, hk, ht, rfl, rfl, hts, rfl⟩ := hrel
    have HT := Lib.hid hts; clear hts
    by_cases hlt : k < n
    · have hkl : k < l.length := by have := HN.out; omega
      have HKL := Lib.hid hkl; clear hkl
      obtain ⟨b, off, rfl, hbl, hcell⟩ := HA.out.at_ (k := k) HKL.out
      have hs := trues_snoc (l.take k) (l[k]?.getD false)
      rw [← bool_at l k HKL.out, HT.out] at hs
      by_cases hb : l[k]?.getD false = true
      · rw [hb] at hcell hs
        have HS := Lib.hid hs; clear hs hb
        go_wp2
        go_roundw
        case rel => exact ⟨k + 1, t + 1, by omega, by omega, by go_num, by go_num, by rw [HS.out]; rfl, by trivial⟩
        case measure => simp [intOf]; omega
      · rw [Bool.not_eq_true] at hb
        rw [hb] at hcell hs
        have HS := Lib.hid hs; clear hs hb
        go_wp2
        go_roundw
        case rel => exact ⟨k + 1, t, by omega, by omega, by go_num, rfl, by rw [HS.out]; rfl, by trivial⟩
        case measure => simp [intOf]; omega
    · go_wp2
      go_ret
      have h3 := HT.out
      rw [List.take_of_length_le (by have := HN.out; omega)] at h3
      exact ⟨by rw [h3]; rfl, rfl⟩
set_option maxRecDepth 4000 in
set_option maxHeartbeats 1000000 in
theorem rkind_any (x : Bool) (d : Int) (w : World) : Calls Try.prog 44 #[.bool x, .int .i64 d] w fun e w' => e = .returned (.int .i64 (kindS x d)) ∧ w = w' := by
  unfold kindS
  cases x with
  | false =>
    go_enter Try.func44, Try.ntmps44
    go_wp2
    go_ret
    exact ⟨rfl, rfl⟩
  | true =>
    by_cases h : 0 < d
    · have hd : decide (0 < d) = true := by simpa using h
      rw [if_pos rfl, if_pos h]
      go_enter Try.func44, Try.ntmps44
      go_wp2
      go_ret
      exact ⟨rfl, rfl⟩
    · have hd : decide (0 < d) = false := by simpa using h
      rw [if_pos rfl, if_neg h]
      go_enter Try.func44, Try.ntmps44
      go_wp2
      go_ret
      exact ⟨rfl, rfl⟩
theorem size_pos (x : Bool) (d : Int) : 0 < sizeF (kindS x d) d ↔ (0 ≤ d ∧ d ≤ 8) := by
  constructor
  · intro h
    unfold sizeF at h
    by_cases c : 0 ≤ d ∧ d ≤ 8
    · exact c
    · rw [if_neg c] at h; omega
  · rintro ⟨h0, h1⟩
    have h : d = 0 ∨ d = 1 ∨ d = 2 ∨ d = 3 ∨ d = 4 ∨ d = 5 ∨ d = 6 ∨ d = 7 ∨ d = 8 := by omega
    rcases h with rfl | rfl | rfl | rfl | rfl | rfl | rfl | rfl | rfl <;> cases x <;> decide

set_option maxRecDepth 100000 in
set_option maxHeartbeats 4000000 in
theorem rmaxAir_any (m : ML) (c s : Slc) (w : World) (hM : Med w m c s) : Calls Try.prog 31 #[vM m c s] w fun e w' => e = .returned (.int .i64 (maxAirS m.N m.ms)) ∧ Below w.heap.size w w' := by
  obtain ⟨N, S, G, W, D, L, cold, ms⟩ := m
  obtain ⟨Ac, nc, cc⟩ := c
  obtain ⟨As, ns, cs⟩ := s
  have hsn : ns = ms.length := hM.sn
  have hsm : ns ≤ maxLen := hM.sm
  have hs : Mds w.heap.size w As ms := hM.sb
  unfold maxLen at hsm
  have HSN := Lib.hid hsn; have HS := Lib.hid hs
  clear hM hsn hs
  dsimp only [vM]
  obtain ⟨kb, bc⟩ := bx1 w #[.int .i64 N, .int .i64 S, .int .i64 G, .int .i64 W, .int .i64 D, .int .i64 L, .slice Ac nc cc, .slice As ns cs] 25
  have hsz := fun W => rsize_any 1 0 W
  have hz : sizeF 1 0 = 40 := by decide
  rw [hz] at hsz
  have hai := fun W => rair_any 40 W
  have hz2 : airS 40 = 34 := by decide
  rw [hz2] at hai
  have HSZ := Lib.hid hsz; have HAI := Lib.hid hai; clear hsz hai hz hz2
  go_enter Try.func31, Try.ntmps31
  go_wp2_with fail
  generalize w.alloc (.cells #[.int .i64 N, .int .i64 S, .int .i64 G, .int .i64 W, .int .i64 D, .int .i64 L, .slice Ac nc cc, .slice As ns cs] 25) = u1 at *
  refine (HSZ.out _).mono ?_
  rintro e w1 ⟨rfl, hC⟩
  dsimp only
  replace kb := kb.on hC; replace bc := bc.trans (hC.mono bc.size); clear hC
  go_wp2_with fail
  refine (HAI.out _).mono ?_
  rintro e w3 ⟨rfl, rfl⟩
  dsimp only
  go_wp2_with fail
  clear HSZ HAI
  go_loopw [3, 4, 5, 6, 7] (fun v i _ _ _ wr => ∃ k : Nat, k ≤ ns ∧ i = .int .i64 k ∧ v = .int .i64 (airOver N 34 (ms.take k)) ∧ Below w1.heap.size w1 wr) (fun _ i _ _ _ _ => ns - (intOf i).toNat)
  case atStart => exact ⟨0, by omega, rfl, rfl, Below.refl _ _⟩
  case round =>
    obtain ⟨k, hk, rfl, rfl, hB⟩ := hrel
    have HBO := Lib.hid hB
    replace kb := kb.on hB
    obtain ⟨p0, p1, p2, p3, p4, p5, p6, p7⟩ := kb.eight
    have hlw := kb.lt
    by_cases hlt : k < ns
    · have hkm : k < ms.length := by have := HSN.out; omega
      obtain ⟨o, ho⟩ : ∃ o, ms[k]? = some o := ⟨ms[k], List.getElem?_eq_getElem hkm⟩
      have hB2 := bc.trans (hB.mono bc.size)
      have hsn := airOver_snoc N 34 (ms.take k) o
      rw [← md_at ms k o ho] at hsn
      have har := airOver_range N (ms.take k) 34 (by decide) (by decide)
      obtain ⟨b, off, rfl, hb, v, hc0, hc1, hc2, hv⟩ := (HS.out.below hB2).at_ ho
      replace hv := hv.mono hB2.size
      have hbw : b < wr.heap.size := Nat.lt_of_lt_of_le hb hB2.size
      have HSNO := Lib.hid hsn; clear hsn ho hkm hB
      generalize airOver N 34 (ms.take k) = a at *
      obtain ⟨⟨Ad, nd, cd⟩, ⟨Ax, nx, cx⟩, ⟨An, nn, cn⟩⟩ := v
      dsimp only at hc0 hc1 hc2
      have ko := Blk.new wr 71 #[.slice Ad nd cd, .slice Ax nx cx, .slice An nn cn]
      have al := Below.al wr (.cells #[.slice Ad nd cd, .slice Ax nx cx, .slice An nn cn] 71)
      have hv' := hv.on al
      have kb' := kb.on al
      have HB3 := Lib.hid (HBO.out.trans (al.mono HBO.out.size))
      have hwd : ∀ j : Nat, j < wide N o ↔ (j < nd ∧ j < nx ∧ (j : Int) < N) := by
        intro j
        have h1 := hv.dn; have h2 := hv.xn
        dsimp only at h1 h2
        unfold wide
        omega
      have HWD := Lib.hid hwd; clear hwd
      go_wp2
      clear kb hc0 hc1 hc2 p0 p1 p2 p3 p4 p5 p6 p7 hB2 hlw
      generalize wr.alloc (.cells #[.slice Ad nd cd, .slice Ax nx cx, .slice An nn cn] 71) = u2 at *
      generalize wr.heap.size = go at *
      go_loopw [3, 6, 7] (fun v i _ wi => ∃ j : Nat, j ≤ wide N o ∧ i = .int .i64 j ∧ v = .int .i64 (modeAir o j a) ∧ Below u2.heap.size u2 wi) (fun _ i _ _ => wide N o - (intOf i).toNat)
      case atStart => exact ⟨0, by omega, rfl, rfl, Below.refl _ _⟩
      case round =>
        obtain ⟨j, hj, rfl, rfl, hBi⟩ := hrel
        have hsu := modeAir_succ o j a
        have hmr := modeAir_range o j a har.1 har.2
        have kbi := kb'.on hBi
        obtain ⟨p0, p1, p2, p3, p4, p5, p6, p7⟩ := kbi.eight
        obtain ⟨q0, q1, q2, q3⟩ := (ko.on hBi).three
        generalize ha2 : modeAir o j a = a2 at *
        have hnd : nd ≤ maxLen := hv.dm
        have hnx : nx ≤ maxLen := hv.xm
        unfold maxLen at hnd hnx
        by_cases hjl : j < wide N o
        · obtain ⟨hjd0, hjx0, hjN⟩ := (HWD.out j).1 hjl
          have hjd : j < o.d.length := by have := hv.dn; dsimp only at this; omega
          have hjxx : j < o.x.length := by have := hv.xn; dsimp only at this; omega
          have hv2 := hv'.on hBi
          obtain ⟨b2, off2, e1, hb2, hc1⟩ := hv2.d.at_ (k := j) hjd
          obtain ⟨b3, off3, e2, hb3, hc2⟩ := hv2.x.at_ (k := j) hjxx
          dsimp only at e1 e2
          subst e1; subst e2
          unfold nodeAir at hsu
          clear ha2
          have HWJ := Lib.hid hjl
          clear hjd hjxx hv2 hjl
          generalize o.d[j]?.getD 0 = y at *
          generalize o.x[j]?.getD false = x at *
          have hpos := size_pos x y
          have hair : airAt x y = airS (sizeF (kindS x y) y) := rfl
          have hki := fun W => rkind_any x y W
          have hsz := fun (n : NearW wr) => near_call (n := n) (rsize_any (kindS x y) y n.W)
          generalize kindS x y = kk at *
          generalize sizeF kk y = sz at *
          have HKI := Lib.hid hki; have HSZ := Lib.hid hsz; clear hki hsz
          have hai := fun W => rair_any sz W
          rw [← hair] at hai
          generalize airAt x y = air at *
          clear hair
          obtain ⟨near0, near1, near2⟩ := near_three (ko.on hBi)
          have nc1 := near_cell hb2 hc1
          have nc2 := near_cell hb3 hc2
          by_cases hs : 0 < sz
          · have hd : decide (0 < sz) = true := by simpa using hs
            rw [if_pos (hpos.1 hs)] at hsu
            obtain ⟨Z, hZ⟩ : ∃ Z, (if a2 < air then air else a2) = Z := ⟨_, rfl⟩
            have hZ2 : max a2 air = Z := by rw [← hZ]; split <;> omega
            rw [hZ2] at hsu
            have HSU := Lib.hid hsu; have HAI := Lib.hid hai; clear hsu hai hpos hs hZ2
            go_wp2_with fail
            clear q0 q1 q2 q3 p0 p1 p2 p3 p4 p5 p6 p7 hc1 hc2
            refine wp_region_near (by kernel_rfl) (by kernel_rfl) ?_
            repeat (go_big_quiet_step (first
              | (go_at_call 44; exact near_call ((HKI.out _).mono fun e w' h => ⟨h.1, h.2 ▸ Below.refl _ _⟩))
              | (go_at_call 43; exact HSZ.out _)))
            refine wpQuiet_nil ?_
            rintro _ ⟨nw, rfl⟩
            go_wp2_with (first | (go_at_call 42; refine (HAI.out _).mono ?_; rintro e w5 ⟨rfl, rfl⟩))
            go_roundw
            case rel => exact ⟨j + 1, by have := HWJ.out; omega, by go_num, by rw [HSU.out], hBi.trans (nw.h.mono hBi.size)⟩
            case measure => have := HWJ.out; simp [intOf]; omega
          · have hd : decide (0 < sz) = false := by simpa using hs
            rw [if_neg (fun h => hs (hpos.2 h))] at hsu
            have HSU := Lib.hid hsu; clear hsu hai hpos hs
            go_wp2_with fail
            clear q0 q1 q2 q3 p0 p1 p2 p3 p4 p5 p6 p7 hc1 hc2
            refine wp_region_near (by kernel_rfl) (by kernel_rfl) ?_
            repeat (go_big_quiet_step (first
              | (go_at_call 44; exact near_call ((HKI.out _).mono fun e w' h => ⟨h.1, h.2 ▸ Below.refl _ _⟩))
              | (go_at_call 43; exact HSZ.out _)))
            refine wpQuiet_nil ?_
            rintro _ ⟨nw, rfl⟩
            go_wp2
            go_roundw
            case rel => exact ⟨j + 1, by have := HWJ.out; omega, by go_num, by rw [HSU.out], hBi.trans (nw.h.mono hBi.size)⟩
            case measure => have := HWJ.out; simp [intOf]; omega
        · have hne : ¬ (j < nd ∧ j < nx ∧ (j : Int) < N) := fun h => hjl ((HWD.out j).2 h)
          obtain rfl : j = wide N o := by omega
          have HA2 := Lib.hid ha2; clear ha2 hsu hjl
          generalize wide N o = j at *
          by_cases h1 : j < nd
          · have d1 : decide ((j : Int) < (nd : Int)) = true := by simp; omega
            by_cases h2 : j < nx
            · have d2 : decide ((j : Int) < (nx : Int)) = true := by simp; omega
              have d3 : decide ((j : Int) < N) = false := by simp only [decide_eq_false_iff_not]; exact fun h => hne ⟨h1, h2, h⟩
              clear hne
              go_wp2
              go_roundw
              case rel => exact ⟨k + 1, by omega, by go_num, by rw [HSNO.out, HA2.out], HB3.out.trans (hBi.mono HB3.out.size)⟩
              case measure => simp [intOf]; omega
            · have d2 : decide ((j : Int) < (nx : Int)) = false := by simp; omega
              clear hne
              go_wp2
              go_roundw
              case rel => exact ⟨k + 1, by omega, by go_num, by rw [HSNO.out, HA2.out], HB3.out.trans (hBi.mono HB3.out.size)⟩
              case measure => simp [intOf]; omega
          · have d1 : decide ((j : Int) < (nd : Int)) = false := by simp; omega
            clear hne
            go_wp2
            go_roundw
            case rel => exact ⟨k + 1, by omega, by go_num, by rw [HSNO.out, HA2.out], HB3.out.trans (hBi.mono HB3.out.size)⟩
            case measure => simp [intOf]; omega
    · have hk2 : k = ms.length := by have := HSN.out; omega
      have hfin : airOver N 34 (ms.take k) = maxAirS N ms := by rw [hk2, List.take_length]; rfl
      rw [hfin]
      clear hfin hk2
      go_wp2
      go_ret
      exact ⟨rfl, bc.trans (HBO.out.mono bc.size)⟩
end Go.Proofs.Ytlkmipcenlhacaa
