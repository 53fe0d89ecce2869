/-
  An interface that may be, in memory of its own, of package cni. Condition: an interface that can be read. (Printed by tools/gen12jb.py.)
-/
import Derived.Test.YtnlmpemfpkmodaaJA
import Derived.Deep.RegionLaw
namespace Go.Proofs.Ytnlmpemfpkmodaa
open Go.RowKit

/-- The messages of which the first k are copied. -/
def copyTo (ms : List Ms) (k : Nat) : List Ms := ms.take k ++ List.replicate (ms.length - k) ⟨[], 0⟩
theorem copyTo_zero (ms : List Ms) : copyTo ms 0 = List.replicate ms.length ⟨[], 0⟩ := by simp [copyTo]
theorem copyTo_all (ms : List Ms) : copyTo ms ms.length = ms := by simp [copyTo]
theorem copyTo_length (ms : List Ms) (k : Nat) (h : k ≤ ms.length) : (copyTo ms k).length = ms.length := by simp [copyTo]; omega
theorem copyTo_set (ms : List Ms) (k : Nat) (h : k < ms.length) : (copyTo ms k).set k (ms[k]?.getD default) = copyTo ms (k + 1) := by
  have h2 : (ms.take k).length = k := by simp; omega
  unfold copyTo
  rw [List.set_append_right _ _ (by omega), h2, Nat.sub_self, List.take_add_one, List.append_assoc]
  have e : ms[k]? = some ms[k] := by simp [h]
  rw [e, show ms.length - k = (ms.length - (k + 1)) + 1 by omega, List.replicate_succ]
  rfl

set_option maxRecDepth 100000 in
set_option maxHeartbeats 4000000 in
theorem ownedNo_any (s : Cn) (v u : Sl3) (w : World) (h : CnOk w.heap.size w s v u) (hok : ¬ okCn s) : Calls Try.prog 42 #[.agg (cCn s v u)] w fun e w' => e = .returned (.tuple #[.agg #[.int .i64 0, .slice none 0 0, .slice none 0 0, .int .i64 0, .int .i64 0], .int .i64 120]) ∧ Below w.heap.size w w' := by
  have hck := fun U (hb : Below w.heap.size w U) => chkCnP_any s v u U (h.on hb)
  rw [chkCn_no hok] at hck
  clear h hok
  obtain ⟨id, out, ms, life, want⟩ := s
  obtain ⟨A, n, c⟩ := v
  obtain ⟨B, m, d⟩ := u
  dsimp only [cCn] at *
  have HCK := Lib.hid hck; clear hck
  obtain ⟨kb, kr, bc⟩ := bx2 w #[.int .i64 id, .slice A n c, .slice B m d, .int .i64 life, .int .i64 want] #[.int .i64 0, .slice none 0 0, .slice none 0 0, .int .i64 0, .int .i64 0] 25 25
  obtain ⟨p0, p1, p2, p3, p4⟩ := kb.fiveI; obtain ⟨r0, r1, r2, r3, r4⟩ := kr.fiveI; obtain ⟨g0, g1, g2, g3, g4⟩ := kr.fiveFI; obtain ⟨f0, f1, f2, f3, f4⟩ := kb.fiveFI
  go_enter Try.func42, Try.ntmps42
  go_wp2_with (first | (go_at_call 13; refine (HCK.out _ bc).mono ?_; rintro e w1 ⟨rfl, hC⟩; dsimp only; (try clear p0 p1 p2 p3 p4 r0 r1 r2 r3 r4 g0 g1 g2 g3 g4 f0 f1 f2 f3 f4); replace kb := kb.on hC; replace kr := kr.on hC; replace bc := bc.trans (hC.mono bc.size); clear hC; obtain ⟨p0, p1, p2, p3, p4⟩ := kb.fiveI; obtain ⟨r0, r1, r2, r3, r4⟩ := kr.fiveI; obtain ⟨g0, g1, g2, g3, g4⟩ := kr.fiveFI; obtain ⟨f0, f1, f2, f3, f4⟩ := kb.fiveFI))
  exact bodyPost_ret (v := .tuple #[.agg #[.int .i64 0, .slice none 0 0, .slice none 0 0, .int .i64 0, .int .i64 0], .int .i64 120]) (by simp [results, Try.results42, go_sem, r0, r1, r2, r3, r4]) rfl ⟨rfl, by repeat (first | refine Below.setCell ?_ (by dsimp only; omega) _ | exact bc)⟩
set_option maxRecDepth 100000 in
set_option maxHeartbeats 4000000 in
theorem owned_any (s : Cn) (v u : Sl3) (w : World) (h : CnOk w.heap.size w s v u) (hok : okCn s) : Calls Try.prog 42 #[.agg (cCn s v u)] w fun e w' => ∃ v' u' l, e = .returned (.tuple #[.agg (cCn s v' u'), .int .i64 0]) ∧ ClOk w.heap.size w' s v' u' l ∧ Below w.heap.size w w' := by
  have hck := fun U (hb : Below w.heap.size w U) => chkCnP_any s v u U (h.on hb)
  rw [chkCn_yes hok] at hck
  have hout8 := hok.1.2.2.2.2.1
  have hms8 := hok.1.2.1
  have hd8 := fun k (hk : k < s.ms.length) => (hok.2 k hk).1
  clear hok
  obtain ⟨id, out, ms, life, want⟩ := s
  obtain ⟨A, n, c⟩ := v
  obtain ⟨B, m, d⟩ := u
  obtain ⟨hO, hM, hmn, hmc, hmm, hmz⟩ := h
  dsimp only [cCn] at *
  have hcO := fun U (hb : Below w.heap.size w U) => copied12_any ⟨A, n, c⟩ out U (hO.on hb) hout8
  have HCK := Lib.hid hck; clear hck; have HCO := Lib.hid hcO; have HM := Lib.hid hM; have HMN := Lib.hid hmn; have HD8 := Lib.hid hd8
  have hm8 : m ≤ 8 := by omega
  have hmk := run_make_msgs m (by omega)
  clear hcO hO hM hmn hmc hmm hmz hd8 hms8 hout8
  obtain ⟨kb, kr, bc⟩ := bx2 w #[.int .i64 id, .slice A n c, .slice B m d, .int .i64 life, .int .i64 want] #[.int .i64 0, .slice none 0 0, .slice none 0 0, .int .i64 0, .int .i64 0] 25 25
  obtain ⟨p0, p1, p2, p3, p4⟩ := kb.fiveI; obtain ⟨r0, r1, r2, r3, r4⟩ := kr.fiveI; obtain ⟨g0, g1, g2, g3, g4⟩ := kr.fiveFI; obtain ⟨f0, f1, f2, f3, f4⟩ := kb.fiveFI
  go_enter Try.func42, Try.ntmps42
  go_upto_region 5 with (first | (go_at_call 13; refine (HCK.out _ bc).mono ?_; rintro e w1 ⟨rfl, hC⟩; dsimp only; (try clear p0 p1 p2 p3 p4 r0 r1 r2 r3 r4 g0 g1 g2 g3 g4 f0 f1 f2 f3 f4); replace kb := kb.on hC; replace kr := kr.on hC; replace bc := bc.trans (hC.mono bc.size); clear hC; obtain ⟨p0, p1, p2, p3, p4⟩ := kb.fiveI; obtain ⟨r0, r1, r2, r3, r4⟩ := kr.fiveI; obtain ⟨g0, g1, g2, g3, g4⟩ := kr.fiveFI; obtain ⟨f0, f1, f2, f3, f4⟩ := kb.fiveFI))
  have kq := Blk.new w1 51 (cellsM (List.replicate m zeroMs)).toArray
  have al := Below.al w1 (.cells (cellsM (List.replicate m zeroMs)).toArray 51)
  have hgq := kr.lt
  have kb3 := kb.on al; have kr3 := kr.on al; have bc3 := bc.trans (al.mono bc.size)
  have hrowM := own_made_msgs (base := w1.heap.size) kq (Nat.le_refl _) (by omega)
  (try clear p0 p1 p2 p3 p4 r0 r1 r2 r3 r4 g0 g1 g2 g3 g4 f0 f1 f2 f3 f4)
  clear al kb kr bc kq hmk
  generalize w1.alloc (.cells (cellsM (List.replicate m zeroMs)).toArray 51) = u3 at *
  generalize w1.heap.size = gq at *
  clear w1
  obtain ⟨p0, p1, p2, p3, p4⟩ := kb3.fiveI
  go_wp2_with fail
  go_loopw [21] (fun i wr => ∃ (k : Nat) (l : List (Ms × Sl3)), k ≤ m ∧ i = .int .i64 k ∧ l.map Prod.fst = copyTo ms k ∧ wr.ownsRow gq 51 2 (.slice (some ⟨gq, 0, none⟩) m m) m (cellsM l) ∧ MsRd w.heap.size l wr ∧ Blk wr w.heap.size 25 #[.int .i64 id, .slice A n c, .slice B m d, .int .i64 life, .int .i64 want] ∧ Blk wr (w.heap.size + 1) 25 #[.int .i64 0, .slice none 0 0, .slice none 0 0, .int .i64 0, .int .i64 0] ∧ Below w.heap.size w wr)
    (fun i _ => m - (intOf i).toNat)
  case atStart => exact ⟨0, List.replicate m zeroMs, by omega, rfl, by rw [copyTo_zero, ← HMN.out, List.map_replicate]; rfl, hrowM, msrd_zeros _ _ _, kb3, kr3, bc3⟩
  case round =>
    clear kb3 kr3 bc3 hrowM p0 p1 p2 p3 p4
    obtain ⟨k, l, hk, rfl, hl, hrow, hrd, kb, kr, bc⟩ := hrel

    by_cases hlt : k < m
    · have hlt2 : (k : Int) < (m : Int) := by omega
      have hkl : k < ms.length := by have := HMN.out; omega
      obtain ⟨b, off, rfl, hb, ⟨xA, xn, xc⟩, ⟨e0, e1⟩, hv⟩ := (HM.out.below bc).at_ (k := k) hkl
      have hd := HD8.out k hkl
      have hnx := copyTo_set ms k hkl
      rw [← hl] at hnx
      dsimp only at e0
      obtain ⟨x, hx⟩ : ∃ x, x = ms[k]?.getD default := ⟨_, rfl⟩
      rw [← hx] at e1 hv hd hnx
      clear hx
      obtain ⟨xd, xg⟩ := x
      dsimp only at e1 hv hd
      have HNX := Lib.hid hnx; have HL := Lib.hid hl; clear hnx hl hkl
      go_upto_region 8 with fail
      have km := Blk.new wr 51 #[.slice xA xn xc, .int .i64 xg]
      have al := (Below.al wr (.cells #[.slice xA xn xc, .int .i64 xg] 51))
      have hdr : Below (wr.alloc (.cells #[.slice xA xn xc, .int .i64 xg] 51)).heap.size (wr.alloc (.cells #[.slice xA xn xc, .int .i64 xg] 51)) (wr.alloc (.cells #[.slice xA xn xc, .int .i64 xg] 51)).drew := (Below.refl _ _).drew
      have ad := below_then al hdr
      have km1 := km.on hdr
      have kb1 := kb.on ad; have kr1 := kr.on ad; have hrow1 := own_on hrow ad; have bc1 := bc.trans (ad.mono bc.size)
      have HRD := Lib.hid (hrd.keep (ku_below ad))
      have hv1 := (hv.mono bc.size).on ad
      have hcx := fun U (hb : Below (wr.alloc (.cells #[.slice xA xn xc, .int .i64 xg] 51)).drew.heap.size (wr.alloc (.cells #[.slice xA xn xc, .int .i64 xg] 51)).drew U) => copied12_any ⟨xA, xn, xc⟩ xd U (hv1.on hb) hd
      have HCX := Lib.hid hcx
      clear hcx hv1 km kb kr hrow bc hrd al hdr ad hv e0 e1 hd
      generalize wr.alloc (.cells #[.slice xA xn xc, .int .i64 xg] 51) = ub at *
      generalize wr.heap.size = gm at *
      clear wr
      obtain ⟨y0, y1, -, -⟩ := km1.two
      go_region_law (first
        | (go_simp; go_at_call 43; refine (HCX.out _ (Below.refl _ _)).mono ?_; rintro e w5 ⟨A5, c5, rfl, hown5, hC⟩; dsimp only at hown5 ⊢; have kb5 := kb1.on hC; have kr5 := kr1.on hC; have hrow5 := own_on hrow1 hC; have bc5 := bc1.trans (hC.mono bc1.size); have km5 := km1.on hC; obtain ⟨z0, z1, -, -⟩ := km5.two; obtain ⟨ym, -, em0, em1⟩ := own_cellM hrow5 (j := k) (by have h0 := hrow5.1; rw [cellsM_length] at h0; omega); have fy0 := (own_frozenI hrow5 (k * 2)).1; have fy1 := (own_frozenI hrow5 (k * 2 + 1)).1))
      all_goals
        have ho9 := (own_setI (own_setI hrow5 (k * 2) (.slice A5 xn c5)) (k * 2 + 1) (.int .i64 xg))
        rw [← cellsM_set l k ((⟨xd, xg⟩ : Ms), (⟨A5, xn, c5⟩ : Sl3)) (by have h0 := hrow5.1; rw [cellsM_length] at h0; omega)] at ho9
        have hG1 : w5.grownBy ((w5.setCell ⟨gq, k * 2, none⟩ (.slice A5 xn c5)).setCell ⟨gq, k * 2 + 1, none⟩ (.int .i64 xg)) (some gq) := only_setCell (only_setCell (World.grownBy.refl w5 (some gq)) (.inl rfl) _) (.inl rfl) _
        have ku5 : Ku w5 ((w5.setCell ⟨gq, k * 2, none⟩ (.slice A5 xn c5)).setCell ⟨gq, k * 2 + 1, none⟩ (.int .i64 xg)) := ku_own hrow5 (by decide) hG1
        have hrd9 := MsRd.set (j := k) (y := ((⟨xd, xg⟩ : Ms), (⟨A5, xn, c5⟩ : Sl3))) ((HRD.out.keep (ku_below hC)).keep ku5) (ku5 _ _ _ _ (own_mono hown5 bc1.size))
        have kb9 := kb5.grown hG1 (fun e => own_ne_blkI hrow5 kb5 (by decide) (by rw [e]; rfl))
        have kr9 := kr5.grown hG1 (fun e => own_ne_blkI hrow5 kr5 (by decide) (by rw [e]; rfl))
        have bc9 := Below.off bc5 bc5.size (by omega) hG1
        have hl9 : (l.set k ((⟨xd, xg⟩ : Ms), (⟨A5, xn, c5⟩ : Sl3))).map Prod.fst = copyTo ms (k + 1) := by rw [List.map_set]; exact HNX.out
        have HL9 := Lib.hid hl9; have HO9 := Lib.hid ho9; have HRD9 := Lib.hid hrd9
        clear hl9 ho9 hrd9 ku5 hG1 hC kb5 kr5 bc5 km5 hrow5 hown5 kb1 kr1 bc1 km1 hrow1 y0 y1 z0 z1 em0 em1 fy0 fy1
        generalize (w5.setCell ⟨gq, k * 2, none⟩ (.slice A5 xn c5)).setCell ⟨gq, k * 2 + 1, none⟩ (.int .i64 xg) = w6 at *
        go_wp2_with fail
        go_roundw
        case rel => exact ⟨k + 1, l.set k ((⟨xd, xg⟩ : Ms), (⟨A5, xn, c5⟩ : Sl3)), by omega, by go_num, HL9.out, HO9.out, HRD9.out, kb9, kr9, bc9⟩
        case measure => simp [intOf]; omega

    · obtain rfl : k = m := by omega
      have hlf : l.map Prod.fst = ms := by rw [hl, show k = ms.length from HMN.out, copyTo_all]
      have HLF := Lib.hid hlf; have HRD := Lib.hid hrd; clear hlf hl hrd
      obtain ⟨p0, p1, p2, p3, p4⟩ := kb.fiveI; obtain ⟨f0, f1, f2, f3, f4⟩ := kb.fiveFI
      go_upto_region 11 with (first | (go_at_call 43; refine (HCO.out _ bc).mono ?_; rintro e w1 ⟨A1, c1, rfl, hrowO, hC⟩; dsimp only at hrowO ⊢; have hrowO2 := own_mono hrowO bc.size; clear hrowO p0 p1 p2 p3 p4 f0 f1 f2 f3 f4; replace kb := kb.on hC; replace kr := kr.on hC; have hrow2 := own_on hrow hC; have HRD2 := Lib.hid (HRD.out.keep (ku_below hC)); replace bc := bc.trans (hC.mono bc.size); clear hC; obtain ⟨p0, p1, p2, p3, p4⟩ := kb.fiveI; obtain ⟨f0, f1, f2, f3, f4⟩ := kb.fiveFI))
      have hcl : ClOk w.heap.size w1 ⟨id, out, ms, life, want⟩ ⟨A1, n, c1⟩ ⟨some ⟨gq, 0, none⟩, k, k⟩ l := ⟨HLF.out, own_mono hrow2 (by omega), HRD2.out, hrowO2⟩
      have hG := only_setCell (only_setCell (World.grownBy.refl w1 (some w.heap.size)) (p := ⟨w.heap.size, 1, none⟩) (.inl rfl) (.slice A1 n c1)) (p := ⟨w.heap.size, 2, none⟩) (.inl rfl) (.slice (some ⟨gq, 0, none⟩) k k)
      have hcl4 := hcl.keep kb (by decide) (by decide) hG
      have kr4 := kr.grown hG (some_ne (by omega))
      have bc4 := Below.off bc bc.size (Nat.le_refl _) hG
      have HCL4 := Lib.hid hcl4
      have kb4 : Blk ((w1.setCell ⟨w.heap.size, 1, none⟩ (.slice A1 n c1)).setCell ⟨w.heap.size, 2, none⟩ (.slice (some ⟨gq, 0, none⟩) k k)) w.heap.size 25 #[.int .i64 id, .slice A1 n c1, .slice (some ⟨gq, 0, none⟩) k k, .int .i64 life, .int .i64 want] := by simpa using (kb.set_ 1 (.slice A1 n c1)).set_ 2 (.slice (some ⟨gq, 0, none⟩) k k)
      clear hcl4 hG hcl hrow2 hrowO2 hrow p0 p1 p2 p3 p4 f0 f1 f2 f3 f4 kb kr bc
      generalize (w1.setCell ⟨w.heap.size, 1, none⟩ (.slice A1 n c1)).setCell ⟨w.heap.size, 2, none⟩ (.slice (some ⟨gq, 0, none⟩) k k) = u6 at *
      have kb := kb4; have kr := kr4; have bc := bc4; clear kb4 kr4 bc4
      obtain ⟨p0, p1, p2, p3, p4⟩ := kb.fiveI
      obtain ⟨r0, r1, r2, r3, r4⟩ := kr.fiveI
      obtain ⟨f0, f1, f2, f3, f4⟩ := kr.fiveFI
      go_wp2
      exact bodyPost_ret (v := .tuple #[.agg #[.int .i64 id, .slice A1 n c1, .slice (some ⟨gq, 0, none⟩) k k, .int .i64 life, .int .i64 want], .int .i64 0]) (by simp [results, Try.results42, go_sem, r0, r1, r2, r3, r4]) rfl ⟨⟨A1, n, c1⟩, ⟨some ⟨gq, 0, none⟩, k, k⟩, l, rfl, HCL4.out.keep kr (by decide) (by decide) (grown5I _ _ _ _ _ _ _), by repeat (first | refine Below.setCell ?_ (by dsimp only; omega) _ | exact bc)⟩
end Go.Proofs.Ytnlmpemfpkmodaa
