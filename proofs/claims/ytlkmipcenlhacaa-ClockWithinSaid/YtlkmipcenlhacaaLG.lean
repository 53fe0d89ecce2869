/-
  The law of by how much a clock is wrong: it lies within what was seen, and 0. Conditions: what the program's functions answer. (Printed by tools/gen13g.py; laid ahead.)
-/
import Derived.Test.YtlkmipcenlhacaaLF
namespace Go.Proofs.Ytlkmipcenlhacaa
open Go.RowKit

theorem byK_least (k : Ck) : k.dv.foldl min 0 ≤ byK k ∧ byK k ≤ k.dv.foldl max 0 := by
  have hlen : 0 < (0 :: k.dv).length := by simp
  have hw := midOf_within (0 :: k.dv) hlen
  have h1 := least_is (0 :: k.dv) hlen
  have h2 := most_is (0 :: k.dv) hlen
  have e1 : (0 :: k.dv).foldl min (nth (0 :: k.dv) 0) = k.dv.foldl min 0 := rfl
  have e2 : (0 :: k.dv).foldl max (nth (0 :: k.dv) 0) = k.dv.foldl max 0 := rfl
  rw [e1] at h1; rw [e2] at h2
  have r1 := sort_rises (0 :: k.dv) (Nat.zero_le (loAt (0 :: k.dv).length)) (loAt_lt hlen)
  have r2 := sort_rises (0 :: k.dv) (show hiAt (0 :: k.dv).length ≤ (0 :: k.dv).length - 1 by have := hiAt_lt hlen; omega) (by omega)
  unfold keptLo keptHi at hw
  unfold byK
  rw [h1, h2]
  omega

set_option maxRecDepth 100000 in
set_option maxHeartbeats 4000000 in
theorem within_law (hS : ClkSendC) (hW : ClkWindowC) (hC : ClkCorrectC) (m : ML) (c s : Slc) (k : Ck) (v : Slc) (w : World) (hM : Med w m c s) (hk : CkOk w.heap.size w k v) : Calls Try.prog 8 #[vM m c s, .agg (cK k v)] w fun e w' => e = .returned (.bool true) ∧ Below w.heap.size w w' := by
  have h0 := fun U => begun13_any hS hW hC U
  have hc := fun U (hb : Below w.heap.size w U) => hC m c s k v U (hM.on hb) (hk.on hb)
  have hle := byK_least k
  have hcc : corK m k = (0, byK k) ∨ ¬ (corK m k).1 = 0 := by
    unfold corK
    by_cases h : chkK m k = 0
    · rw [if_pos h]; exact .inl rfl
    · rw [if_neg h]; exact .inr h
  generalize corK m k = CC at *
  generalize byK k = by_ at *
  have hA := hk.d; have hn := hk.dn; have hm := hk.dm; unfold maxLen at hm
  clear hM hk hS hW hC
  obtain ⟨N, S, G, W, D, L, cold, ms⟩ := m
  obtain ⟨Ac, nc, cc⟩ := c
  obtain ⟨As, ns, cs⟩ := s
  obtain ⟨st, sl, dv⟩ := k
  obtain ⟨A, n, c⟩ := v
  obtain ⟨ce, cv⟩ := CC
  dsimp only [vM, cK] at *
  have H0 := Lib.hid h0; have HC := Lib.hid hc; have HA := Lib.hid hA; have HN := Lib.hid hn; have HLE := Lib.hid hle; clear h0 hc hA hn hle
  obtain ⟨km, kc, bc⟩ := bx2 w #[.int .i64 N, .int .i64 S, .int .i64 G, .int .i64 W, .int .i64 D, .int .i64 L, .slice Ac nc cc, .slice As ns cs] #[.int .i64 st, .int .i64 sl, .slice A n c] 25 28
  obtain ⟨p0, p1, p2, p3, p4, p5, p6, p7⟩ := km.eight; obtain ⟨q0, q1, q2, -⟩ := kc.three
  by_cases he : ce = 0
  rotate_left
  · have d0 : (ce != 0) = true := by simpa using he
    clear hcc
    go_enter Try.func8, Try.ntmps8
    go_wp2_with (first | (go_at_call 20; refine (HC.out _ bc).mono ?_; rintro e w1 ⟨rfl, hC⟩; dsimp only; clear p0 p1 p2 p3 p4 p5 p6 p7 q0 q1 q2; replace km := km.on hC; replace kc := kc.on hC; replace bc := bc.trans (hC.mono bc.size); clear hC; obtain ⟨p0, p1, p2, p3, p4, p5, p6, p7⟩ := km.eight; obtain ⟨q0, q1, q2, -⟩ := kc.three) | (go_at_call 11; refine (H0.out _).mono ?_; rintro e w2 ⟨rfl, hC⟩; dsimp only; clear p0 p1 p2 p3 p4 p5 p6 p7 q0 q1 q2; replace km := km.on hC; replace kc := kc.on hC; replace bc := bc.trans (hC.mono bc.size); clear hC; obtain ⟨p0, p1, p2, p3, p4, p5, p6, p7⟩ := km.eight; obtain ⟨q0, q1, q2, -⟩ := kc.three))
    go_ret
    exact ⟨rfl, bc⟩
  subst he
  obtain rfl : cv = by_ := by
    rcases hcc with h | h
    · injection h
    · exact absurd rfl h
  clear hcc
  go_enter Try.func8, Try.ntmps8
  go_wp2_with (first | (go_at_call 20; refine (HC.out _ bc).mono ?_; rintro e w1 ⟨rfl, hC⟩; dsimp only; clear p0 p1 p2 p3 p4 p5 p6 p7 q0 q1 q2; replace km := km.on hC; replace kc := kc.on hC; replace bc := bc.trans (hC.mono bc.size); clear hC; obtain ⟨p0, p1, p2, p3, p4, p5, p6, p7⟩ := km.eight; obtain ⟨q0, q1, q2, -⟩ := kc.three) | (go_at_call 11; refine (H0.out _).mono ?_; rintro e w2 ⟨rfl, hC⟩; dsimp only; clear p0 p1 p2 p3 p4 p5 p6 p7 q0 q1 q2; replace km := km.on hC; replace kc := kc.on hC; replace bc := bc.trans (hC.mono bc.size); clear hC; obtain ⟨p0, p1, p2, p3, p4, p5, p6, p7⟩ := km.eight; obtain ⟨q0, q1, q2, -⟩ := kc.three))
  clear p0 p1 p2 p3 p4 p5 p6 p7 q0 q1 q2
  go_loopw [7, 8, 27] (fun a b i wr => ∃ j : Nat, j ≤ n ∧ i = .int .i64 j ∧ a = .int .i64 ((dv.take j).foldl min 0) ∧ b = .int .i64 ((dv.take j).foldl max 0) ∧ Below w.heap.size w wr)
    (fun _ _ i _ => n - (intOf i).toNat)
  case atStart => exact ⟨0, by omega, rfl, rfl, rfl, bc⟩
  case round =>
    clear bc km kc
    obtain ⟨j, hj, rfl, rfl, rfl, bc⟩ := hrel
    by_cases hlt : j < n
    · have hlt2 : (j : Int) < (n : Int) := by omega
      obtain ⟨b, off, rfl, hb, hcell⟩ := (HA.out.below bc).nAt (k := j) (by have := HN.out; omega)
      have f1 := fold_snoc min dv j 0 (by have := HN.out; omega)
      have f2 := fold_snoc max dv j 0 (by have := HN.out; omega)
      rw [← min_if] at f1
      rw [← max_if] at f2
      generalize nth dv j = x at *
      generalize (dv.take j).foldl min 0 = lo at *
      generalize (dv.take j).foldl max 0 = hi at *
      have F1 := Lib.hid f1; have F2 := Lib.hid f2; clear f1 f2
      by_cases d1 : x < lo
      · have e1 : decide (x < lo) = true := by simpa using d1
        by_cases d2 : hi < x
        · have e2 : decide (hi < x) = true := by simpa using d2
          go_wp2
          go_roundw
          case rel => exact ⟨j + 1, by omega, by go_num, by rw [F1.out]; simp [d1], by rw [F2.out]; simp [d2], bc⟩
          case measure => simp [intOf]; omega
        · have e2 : decide (hi < x) = false := by simpa using d2
          go_wp2
          go_roundw
          case rel => exact ⟨j + 1, by omega, by go_num, by rw [F1.out]; simp [d1], by rw [F2.out]; simp [d2], bc⟩
          case measure => simp [intOf]; omega
      · have e1 : decide (x < lo) = false := by simpa using d1
        by_cases d2 : hi < x
        · have e2 : decide (hi < x) = true := by simpa using d2
          go_wp2
          go_roundw
          case rel => exact ⟨j + 1, by omega, by go_num, by rw [F1.out]; simp [d1], by rw [F2.out]; simp [d2], bc⟩
          case measure => simp [intOf]; omega
        · have e2 : decide (hi < x) = false := by simpa using d2
          go_wp2
          go_roundw
          case rel => exact ⟨j + 1, by omega, by go_num, by rw [F1.out]; simp [d1], by rw [F2.out]; simp [d2], bc⟩
          case measure => simp [intOf]; omega
    · obtain rfl : j = n := by omega
      have hle := HLE.out
      rw [List.take_of_length_le (by have := HN.out; omega)]
      generalize dv.foldl min 0 = lo at *
      generalize dv.foldl max 0 = hi at *
      have e1 : decide (lo ≤ cv) = true := by simpa using hle.1
      have e2 : decide (cv ≤ hi) = true := by simpa using hle.2
      clear hle
      go_wp2
      go_ret
      exact ⟨rfl, bc⟩
end Go.Proofs.Ytlkmipcenlhacaa
