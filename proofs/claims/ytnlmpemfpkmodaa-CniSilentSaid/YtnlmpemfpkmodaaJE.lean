/-
  New of package cni. No condition. (Printed by tools/gen12je.py.)
-/
import Derived.Test.YtnlmpemfpkmodaaJD
namespace Go.Proofs.Ytnlmpemfpkmodaa
open Go.RowKit

/-- The messages of which the first k are as New makes them. -/
def newTo (N k : Nat) : List Ms := List.replicate k ⟨[], 255⟩ ++ List.replicate (N - k) ⟨[], 0⟩
theorem newTo_set {N k : Nat} (h : k < N) : (newTo N k).set k ⟨[], 255⟩ = newTo N (k + 1) := by
  unfold newTo
  rw [List.set_append_right _ _ (by simp), List.length_replicate, Nat.sub_self, show N - k = (N - (k + 1)) + 1 by omega, List.replicate_succ, List.set_cons_zero, List.replicate_succ', List.append_assoc]
  rfl
theorem newTo_at {N k : Nat} (h : k < N) : (newTo N k)[k]? = some ⟨[], 0⟩ := by
  unfold newTo
  rw [List.getElem?_append_right (by simp), List.length_replicate, Nat.sub_self]
  simp [show 0 < N - k by omega]
/-- An age is stored to a message that a call owns. -/
theorem own_ageM {W : World} {base g n c j : Nat} {l : List (Ms × Sl3)} {y : Ms × Sl3} (h : W.ownsRow base 51 2 (.slice (some ⟨g, 0, none⟩) n c) n (cellsM l)) (hy : l[j]? = some y) (a : Int) :
    (W.setCell ⟨g, j * 2 + 1, none⟩ (.int .i64 a)).ownsRow base 51 2 (.slice (some ⟨g, 0, none⟩) n c) n (cellsM (l.set j ((⟨y.1.d, a⟩ : Ms), y.2))) := by
  have hj : j < l.length := (List.getElem?_eq_some_iff.1 hy).1
  have ho := own_setI h (j * 2 + 1) (.int .i64 a)
  have hce := (cellsM_get l j y hy).1
  have hsame : (cellsM l).set (j * 2) (.slice y.2.A y.2.n y.2.c) = cellsM l := List.ext_getElem? fun i => by
    rw [List.getElem?_set]
    split
    · subst_vars
      rw [hce]; simp [cellsM_length]; omega
    · rfl
  have hset := cellsM_set l j ((⟨y.1.d, a⟩ : Ms), y.2) hj
  dsimp only at hset
  rw [hsame] at hset
  rw [hset]
  exact ho

set_option maxRecDepth 100000 in
set_option maxHeartbeats 4000000 in
theorem newP_any : CniNewC := fun id q w => by
  have hsl := fun U => isSlot_any id q U
  have q0 : ¬ ((4 ≤ q ∧ q ≤ 8) ∧ 0 ≤ id ∧ id < q) → newCn id q = (120, zeroCn) := fun h => by unfold newCn; rw [if_neg h]
  have q3 : ((4 ≤ q ∧ q ≤ 8) ∧ 0 ≤ id ∧ id < q) → newCn id q = (0, ⟨id, [], List.replicate q.toNat ⟨[], 255⟩, 4, -1⟩) := fun h => by unfold newCn; rw [if_pos h]
  unfold ResCn
  generalize newCn id q = RR at *
  obtain ⟨zs, hzs⟩ : ∃ z, z = (decide (0 ≤ id) && decide (id < q)) := ⟨_, rfl⟩
  rw [← hzs] at hsl
  have s1 : zs = true → 0 ≤ id ∧ id < q := fun e => by rw [hzs] at e; simpa using e
  have s0 : zs = false → ¬ (0 ≤ id ∧ id < q) := fun e h => by rw [hzs] at e; simp [h.1, h.2] at e
  clear hzs
  have HSL := Lib.hid hsl; clear hsl
  obtain ⟨kr, bc⟩ := bx1 w #[.int .i64 0, .slice none 0 0, .slice none 0 0, .int .i64 0, .int .i64 0] 25
  by_cases cd1 : 4 ≤ q
  rotate_left
  · obtain rfl := q0 (by omega)
    have d1 : decide (q < 4) = true := by simp; omega
    clear q3 s0 s1
    obtain ⟨r0, r1, r2, r3, r4⟩ := kr.fiveI; obtain ⟨g0, g1, g2, g3, g4⟩ := kr.fiveFI
    go_enter Try.func10, Try.ntmps10
    go_wp2_with (first | (go_at_call 36; refine (HSL.out _).mono ?_; rintro e w2 ⟨rfl, rfl⟩; dsimp only))
    exact bodyPost_ret (v := .tuple #[.agg #[.int .i64 0, .slice none 0 0, .slice none 0 0, .int .i64 0, .int .i64 0], .int .i64 120]) (by simp [results, Try.results10, go_sem, r0, r1, r2, r3, r4]) rfl ⟨⟨none, 0, 0⟩, ⟨none, 0, 0⟩, rfl, CnFr.zero _ _, by repeat (first | refine Below.setCell ?_ (by dsimp only; omega) _ | exact bc)⟩
  have d1 : decide (q < 4) = false := by simp; omega
  by_cases cd2 : q ≤ 8
  rotate_left
  · obtain rfl := q0 (by omega)
    have d2 : decide (8 < q) = true := by simp; omega
    clear q3 s0 s1
    obtain ⟨r0, r1, r2, r3, r4⟩ := kr.fiveI; obtain ⟨g0, g1, g2, g3, g4⟩ := kr.fiveFI
    go_enter Try.func10, Try.ntmps10
    go_wp2_with (first | (go_at_call 36; refine (HSL.out _).mono ?_; rintro e w2 ⟨rfl, rfl⟩; dsimp only))
    exact bodyPost_ret (v := .tuple #[.agg #[.int .i64 0, .slice none 0 0, .slice none 0 0, .int .i64 0, .int .i64 0], .int .i64 120]) (by simp [results, Try.results10, go_sem, r0, r1, r2, r3, r4]) rfl ⟨⟨none, 0, 0⟩, ⟨none, 0, 0⟩, rfl, CnFr.zero _ _, by repeat (first | refine Below.setCell ?_ (by dsimp only; omega) _ | exact bc)⟩
  have d2 : decide (8 < q) = false := by simp; omega
  cases zs with
  | false =>
    obtain rfl := q0 (fun h => s0 rfl h.2)
    clear q3 s0 s1
    obtain ⟨r0, r1, r2, r3, r4⟩ := kr.fiveI; obtain ⟨g0, g1, g2, g3, g4⟩ := kr.fiveFI
    go_enter Try.func10, Try.ntmps10
    go_wp2_with (first | (go_at_call 36; refine (HSL.out _).mono ?_; rintro e w2 ⟨rfl, rfl⟩; dsimp only))
    exact bodyPost_ret (v := .tuple #[.agg #[.int .i64 0, .slice none 0 0, .slice none 0 0, .int .i64 0, .int .i64 0], .int .i64 120]) (by simp [results, Try.results10, go_sem, r0, r1, r2, r3, r4]) rfl ⟨⟨none, 0, 0⟩, ⟨none, 0, 0⟩, rfl, CnFr.zero _ _, by repeat (first | refine Below.setCell ?_ (by dsimp only; omega) _ | exact bc)⟩
  | true =>
    obtain ⟨cd3, cd4⟩ := s1 rfl
    clear s0 s1
    have Q3 := Lib.hid (q3 ⟨⟨cd1, cd2⟩, cd3, cd4⟩); clear q0 q3
    obtain ⟨N, rfl⟩ := Int.eq_ofNat_of_zero_le (show 0 ≤ q by omega)
    have hmk := run_make_msgs N (by omega)
    go_enter Try.func10, Try.ntmps10
    go_upto_region 4 with (first | (go_at_call 36; refine (HSL.out _).mono ?_; rintro e w2 ⟨rfl, rfl⟩; dsimp only))
    have kq := Blk.new (w.alloc (.cells #[.int .i64 0, .slice none 0 0, .slice none 0 0, .int .i64 0, .int .i64 0] 25)) 51 (cellsM (List.replicate N zeroMs)).toArray
    have al := Below.al (w.alloc (.cells #[.int .i64 0, .slice none 0 0, .slice none 0 0, .int .i64 0, .int .i64 0] 25)) (.cells (cellsM (List.replicate N zeroMs)).toArray 51)
    rw [show (w.alloc (.cells #[.int .i64 0, .slice none 0 0, .slice none 0 0, .int .i64 0, .int .i64 0] 25)).heap.size = w.heap.size + 1 by simp] at kq
    replace kr := kr.on al
    replace bc := bc.trans (al.mono bc.size)
    clear al hmk
    have hrow2 := own_made_msgs (base := w.heap.size + 1) kq (Nat.le_refl _) (by omega)
    clear kq
    generalize (w.alloc (.cells #[.int .i64 0, .slice none 0 0, .slice none 0 0, .int .i64 0, .int .i64 0] 25)).alloc (.cells (cellsM (List.replicate N zeroMs)).toArray 51) = u2 at *
    go_wp2_with fail
    go_loopw [25] (fun i wr => ∃ (k : Nat) (l : List (Ms × Sl3)), k ≤ N ∧ i = .int .i64 k ∧ l.map Prod.fst = newTo N k ∧ wr.ownsRow (w.heap.size + 1) 51 2 (.slice (some ⟨w.heap.size + 1, 0, none⟩) N N) N (cellsM l) ∧ MsRd w.heap.size l wr ∧ Blk wr w.heap.size 25 #[.int .i64 0, .slice none 0 0, .slice none 0 0, .int .i64 0, .int .i64 0] ∧ Below w.heap.size w wr)
      (fun i _ => N - (intOf i).toNat)
    case atStart => exact ⟨0, List.replicate N zeroMs, by omega, rfl, by simp [newTo, zeroMs], hrow2, msrd_zeros _ _ _, kr, bc⟩
    case round =>
      clear kr bc hrow2
      obtain ⟨k, l, hk, rfl, hl, hrow, hrd, kr, bc⟩ := hrel
      by_cases hlt : k < N
      · have hlt2 : (k : Int) < (N : Int) := by omega
        have hkl : k < l.length := by have h0 := hrow.1; rw [cellsM_length] at h0; omega
        obtain ⟨y, hy, e0, e1⟩ := own_cellM hrow hkl
        have hy1 : y.1 = ⟨[], 0⟩ := by
          have h0 := congrArg (fun z => z[k]?) hl
          simp only [List.getElem?_map, hy, Option.map_some, newTo_at hlt] at h0
          exact Option.some.inj h0
        have fz := (own_frozenI hrow (k * 2 + 1)).1
        have ho9 := own_ageM hrow hy 255
        have hG := only_setCell (World.grownBy.refl wr (some (w.heap.size + 1))) (p := ⟨w.heap.size + 1, k * 2 + 1, none⟩) (.inl rfl) (.int .i64 255)
        have hku := ku_own hrow (by decide) hG
        have hyo := hrd _ (List.mem_of_getElem? hy)
        have hrd9 := (MsRd.set (j := k) (y := ((⟨y.1.d, 255⟩ : Ms), y.2)) (hrd.keep hku) (hku _ _ _ _ hyo))
        have kr9 := kr.grown hG (fun e => own_ne_blkI hrow kr (by decide) (by rw [e]; rfl))
        have bc9 := Below.off bc bc.size (by omega) hG
        have hl9 : (l.set k ((⟨y.1.d, 255⟩ : Ms), y.2)).map Prod.fst = newTo N (k + 1) := by rw [List.map_set, hl, hy1, newTo_set hlt]
        have HL9 := Lib.hid hl9; have HO9 := Lib.hid ho9; have HRD9 := Lib.hid hrd9
        clear hl9 ho9 hrd9 hyo hku hG kr bc hrow hrd hl hy1 hkl
        go_upto_region 8 with fail
        clear e0 e1 fz
        generalize wr.setCell ⟨w.heap.size + 1, k * 2 + 1, none⟩ (.int .i64 255) = w6 at *
        go_wp2_with fail
        go_roundw
        case rel => exact ⟨k + 1, l.set k ((⟨y.1.d, 255⟩ : Ms), y.2), by omega, by go_num, HL9.out, HO9.out, HRD9.out, kr9, bc9⟩
        case measure => simp [intOf]; omega
      · obtain rfl : k = N := by omega
        have hcl : ClOk w.heap.size wr ⟨id, [], List.replicate k ⟨[], 255⟩, 4, -1⟩ ⟨none, 0, 0⟩ ⟨some ⟨w.heap.size + 1, 0, none⟩, k, k⟩ l := ⟨by rw [hl]; simp [newTo], own_mono hrow (by omega), hrd, World.ownsRow_nil _ _ _ _⟩
        have HCL := Lib.hid hcl
        clear hcl hrd hrow hl
        obtain rfl := Q3.out
        obtain ⟨r0, r1, r2, r3, r4⟩ := kr.fiveI; obtain ⟨g0, g1, g2, g3, g4⟩ := kr.fiveFI
        go_wp2
        exact bodyPost_ret (v := .tuple #[.agg #[.int .i64 id, .slice none 0 0, .slice (some ⟨w.heap.size + 1, 0, none⟩) k k, .int .i64 4, .int .i64 (-1)], .int .i64 0]) (by simp [results, Try.results10, go_sem, r0, r1, r2, r3, r4]) rfl ⟨⟨none, 0, 0⟩, ⟨some ⟨w.heap.size + 1, 0, none⟩, k, k⟩, rfl, (ClOk.fr (l := l) (HCL.out.keep kr (by decide) (by decide) (grown5I _ _ _ _ _ _ _))), by repeat (first | refine Below.setCell ?_ (by dsimp only; omega) _ | exact bc)⟩
end Go.Proofs.Ytnlmpemfpkmodaa
