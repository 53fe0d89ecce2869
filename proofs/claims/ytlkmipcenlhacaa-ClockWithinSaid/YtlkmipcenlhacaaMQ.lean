/-
  The document's own mode and Check of layer 7. Conditions: those that each theorem names. (Printed by tools/gen07q.py.)
-/
import Derived.Test.YtlkmipcenlhacaaMP
import Derived.Test.YtlkmipcenlhacaaMH
namespace Go.Proofs.Ytlkmipcenlhacaa
open Go.RowKit

theorem data_snoc (l : List Int) (k : Nat) (h : k < l.length) : dataOk (l.take (k + 1)) = (dataOk (l.take k) && decide (0 ≤ l[k]?.getD 0 ∧ l[k]?.getD 0 ≤ 8)) := by
  unfold dataOk; rw [int_at l k h, List.all_append]; simp
theorem data_not (l : List Int) (k : Nat) (h : k < l.length) (hb : ¬ (0 ≤ l[k]?.getD 0 ∧ l[k]?.getD 0 ≤ 8)) : dataOk l = false := by
  unfold dataOk
  rw [List.all_eq_false]
  refine ⟨l[k], List.getElem_mem h, ?_⟩
  rw [List.getElem?_eq_getElem h] at hb
  simpa using hb
set_option maxRecDepth 100000 in
set_option maxHeartbeats 4000000 in
theorem rmode_any (m : ML) (c s : Slc) (o : Md) (v : MdV) (w : World) (hM : Med w m c s) (hN : (m.cold.length : Int) = m.N) (hv : MdOk w.heap.size w o v) :
    Calls Try.prog 55 #[vO v, vM m c s] w fun e w' => e = .returned (.bool (okMode m.N m.cold m.ms.length o)) ∧ Below w.heap.size w w' := by
  have hsn : s.n = m.ms.length := hM.sn
  have hcn : c.n = m.cold.length := hM.cn
  have hcm : c.n ≤ maxLen := hM.cm
  have hcb := hM.cb
  obtain ⟨R, hR⟩ : ∃ R, R = okMode m.N m.cold m.ms.length o := ⟨_, rfl⟩
  rw [← hR]
  unfold okMode at hR
  obtain ⟨N, S, G, W, D, L, cold, ms⟩ := m
  obtain ⟨Ac, nc, cc⟩ := c
  obtain ⟨As, ns, cs⟩ := s
  have hvd := hv.d; have hvdn := hv.dn; have hvdm := hv.dm; have hvx := hv.x; have hvxn := hv.xn; have hvxm := hv.xm; have hvnn := hv.nn
  obtain ⟨⟨Ad, nd, cd⟩, ⟨Ax, nx, cx⟩, ⟨An, nn, cn⟩⟩ := v
  clear hv hM
  dsimp only [vO, vM] at *
  have HSN := Lib.hid hsn; have HCN := Lib.hid hcn; have HDN := Lib.hid hvdn; have HXN := Lib.hid hvxn; have HNN := Lib.hid hvnn; have HD := Lib.hid hvd; have HX := Lib.hid hvx; have HC := Lib.hid hcb; have HN := Lib.hid hN
  have hR2 : R = ((decide ((nd : Int) = N) && dataOk o.d) && ((decide ((nx : Int) = N) && withCold o.x cold) && decide (nn = ns))) := by rw [hR, hvdn, hvxn, hvnn, hsn]
  clear hR hsn hcn hvdn hvxn hvnn hvd hvx hcb hN
  unfold maxLen at hvdm hvxm hcm
  obtain ⟨ko, kb, bc⟩ := bx2 w #[.slice Ad nd cd, .slice Ax nx cx, .slice An nn cn] #[.int .i64 N, .int .i64 S, .int .i64 G, .int .i64 W, .int .i64 D, .int .i64 L, .slice Ac nc cc, .slice As ns cs] 71 25
  by_cases c1 : (nd : Int) = N
  rotate_left
  · have d1 : ((nd : Int) != N) = true := by simpa using c1
    obtain rfl : R = false := by rw [hR2]; simp [c1]
    clear hR2 c1
    go_enter Try.func55, Try.ntmps55
    go_wp2
    go_ret
    exact ⟨rfl, bc⟩
  have d1 : ((nd : Int) != N) = false := by simpa using c1
  by_cases c2 : (nx : Int) = N
  rotate_left
  · have d2 : ((nx : Int) != N) = true := by simpa using c2
    obtain rfl : R = false := by rw [hR2]; simp [c2]
    clear hR2 c2 c1
    go_enter Try.func55, Try.ntmps55
    go_wp2
    go_ret
    exact ⟨rfl, bc⟩
  have d2 : ((nx : Int) != N) = false := by simpa using c2
  by_cases c3 : nn = ns
  rotate_left
  · have d3 : ((nn : Int) != (ns : Int)) = true := by simp; omega
    obtain rfl : R = false := by rw [hR2]; simp [c3]
    clear hR2 c3 c2 c1
    go_enter Try.func55, Try.ntmps55
    go_wp2
    go_ret
    exact ⟨rfl, bc⟩
  have d3 : ((nn : Int) != (ns : Int)) = false := by simp [c3]
  have hR3 : R = (dataOk o.d && withCold o.x cold) := by rw [hR2]; simp [c1, c2, c3]
  have HNX := Lib.hid (show nx = nc by have := HCN.out; have := HN.out; omega)
  have HR := Lib.hid hR3
  clear hR2 hR3 c1 c2 c3
  go_enter Try.func55, Try.ntmps55
  go_wp2
  generalize (w.alloc (.cells #[.slice Ad nd cd, .slice Ax nx cx, .slice An nn cn] 71)).alloc (.cells #[.int .i64 N, .int .i64 S, .int .i64 G, .int .i64 W, .int .i64 D, .int .i64 L, .slice Ac nc cc, .slice As ns cs] 25) = u1 at *
  clear d1 d2 d3
  go_loopw [5] (fun i wr => ∃ k : Nat, k ≤ nd ∧ i = .int .i64 k ∧ dataOk (o.d.take k) = true ∧ wr = u1) (fun i _ => nd - (intOf i).toNat)
  case atStart => exact ⟨0, by omega, rfl, rfl, rfl⟩
  case round =>
    obtain ⟨k, hk, rfl, hno, rfl⟩ := hrel
    have HNO := Lib.hid hno; clear hno
    obtain ⟨q0, q1, q2, q3⟩ := ko.three
    obtain ⟨p0, p1, p2, p3, p4, p5, p6, p7⟩ := kb.eight
    by_cases hlt : k < nd
    · have hkl : k < o.d.length := by have := HDN.out; omega
      obtain ⟨b, off, rfl, hbl, hcell⟩ := ((HD.out.below bc).mono bc.size).at_ hkl
      have hs := data_snoc o.d k hkl
      rw [HNO.out] at hs
      have hf := data_not o.d k hkl
      have HKL := Lib.hid hkl; clear hkl
      generalize o.d[k]?.getD 0 = y at *
      by_cases h0 : y < 0
      · have e0 : decide (y < 0) = true := by simpa using h0
        obtain rfl : R = false := by rw [HR.out, hf (fun h => by omega)]; rfl
        clear hs hf h0
        go_wp2
        go_ret
        exact ⟨rfl, bc⟩
      · have e0 : decide (y < 0) = false := by simpa using h0
        by_cases h8 : 8 < y
        · have e8 : decide (8 < y) = true := by simpa using h8
          obtain rfl : R = false := by rw [HR.out, hf (fun h => by omega)]; rfl
          clear hs hf h0 h8
          go_wp2
          go_ret
          exact ⟨rfl, bc⟩
        · have e8 : decide (8 < y) = false := by simpa using h8
          have hs2 : dataOk (o.d.take (k + 1)) = true := by rw [hs]; simp; omega
          have HS := Lib.hid hs2
          clear hs hs2 hf h0 h8
          go_wp2
          go_roundw
          case rel => exact ⟨k + 1, by omega, by go_num, HS.out, by trivial⟩
          case measure => simp [intOf]; omega
    · have hda : dataOk o.d = true := by
        have h3 := HNO.out
        rw [List.take_of_length_le (by have := HDN.out; omega)] at h3
        exact h3
      have hR4 : R = withCold o.x cold := by rw [HR.out, hda]; rfl
      have HR4 := Lib.hid hR4
      clear HNO hda hR4
      go_wp2
      clear q0 q1 q2 q3 p0 p1 p2 p3 p4 p5 p6 p7
      go_loopw [6] (fun i wi => ∃ j : Nat, j ≤ nc ∧ i = .int .i64 j ∧ (List.range j).all (fun i => !(cold[i]?.getD false) || o.x[i]?.getD false) = true ∧ wi = wr) (fun i _ => nc - (intOf i).toNat)
      case atStart => exact ⟨0, by omega, rfl, rfl, rfl⟩
      case round =>
        obtain ⟨j, hj, rfl, hts, rfl⟩ := hrel
        have HT := Lib.hid hts; clear hts
        obtain ⟨q0, q1, q2, q3⟩ := ko.three
        obtain ⟨p0, p1, p2, p3, p4, p5, p6, p7⟩ := kb.eight
        by_cases hlj : j < nc
        · have hjx : j < nx := by have := HNX.out; omega
          have hkl : j < cold.length := by have := HCN.out; omega
          have hkx : j < o.x.length := by have := HXN.out; omega
          have HKL := Lib.hid hkl; have HKX := Lib.hid hkx; clear hkl hkx
          obtain ⟨b, off, rfl, hbl, hcell⟩ := ((HC.out.below bc).mono bc.size).at_ HKL.out
          obtain ⟨b2, off2, rfl, hbl2, hcell2⟩ := ((HX.out.below bc).mono bc.size).at_ HKX.out
          have hs := with_snoc o.x cold j
          rw [HT.out] at hs
          have hno := with_not o.x cold j HKL.out
          generalize cold[j]?.getD false = P at *
          generalize o.x[j]?.getD false = Q at *
          have HNX2 := Lib.hid hjx
          cases P with
          | true =>
            cases Q with
            | true =>
              have HS := Lib.hid hs; clear hs hno
              go_wp2
              go_roundw
              case rel => exact ⟨j + 1, by omega, by go_num, by rw [HS.out]; rfl, by trivial⟩
              case measure => simp [intOf]; omega
            | false =>
              obtain rfl : R = false := by rw [HR4.out, hno rfl rfl]
              clear hs hno
              go_wp2
              go_ret
              exact ⟨rfl, bc⟩
          | false =>
            have HS := Lib.hid hs; clear hs hno
            go_wp2
            go_roundw
            case rel => exact ⟨j + 1, by omega, by go_num, by rw [HS.out]; rfl, by trivial⟩
            case measure => simp [intOf]; omega
        · have hjx : ¬ j < nx := by have := HNX.out; omega
          obtain rfl : R = true := by
            have h3 := HT.out
            have : j = cold.length := by have := HCN.out; omega
            rw [this] at h3
            rw [HR4.out]; exact h3
          go_wp2
          go_ret
          exact ⟨rfl, bc⟩

end Go.Proofs.Ytlkmipcenlhacaa
