/-
  Same of the document of layer 12. Conditions: two interfaces that can be read. (Printed by tools/gen12j.py; laid ahead.)
-/
import Derived.Test.YtnlmpemfpkmodaaII
namespace Go.Proofs.Ytnlmpemfpkmodaa
open Go.RowKit

theorem str_bytes {W : World} {bs : List UInt8} {v : Sl3} {n₀ : Nat} (h : BOk n₀ W bs v) : (convert 22 9 (.slice v.A v.n v.c)).run Try.prog W = .ok (.string ⟨bs.toArray⟩) W := run_string_bytes h.bn h.by_
theorem near_cellI {w0 : World} {b off : Nat} {v : Value} (hb : b < w0.heap.size) (h : w0.cell? ⟨b, off, none⟩ = some v) : ∀ n : NearW w0, n.W.cell? ⟨b, off, none⟩ = some v := fun n => (n.h.cell (p := ⟨b, off, none⟩) hb).trans h
theorem str_same (a b : List UInt8) : ((⟨a.toArray⟩ : ByteArray).toList == (⟨b.toArray⟩ : ByteArray).toList) = decide (a = b) := str_eq a b

set_option maxRecDepth 100000 in
set_option maxHeartbeats 4000000 in
theorem rsameCn_any (s r : Cn) (v u v' u' : Sl3) (w : World) (h : CnOk w.heap.size w s v u) (k : CnOk w.heap.size w r v' u') (hm : u.n ≤ 1048576) : Calls Try.prog 12 #[.agg (cCn s v u), .agg (cCn r v' u')] w fun e w' => e = .returned (.bool (sameCn s r)) ∧ Below w.heap.size w w' := by
  obtain ⟨R, hR⟩ : ∃ R, R = sameCn s r := ⟨_, rfl⟩
  rw [← hR]
  unfold sameCn at hR
  have hO := h.out; have hO2 := k.out; have hM := h.ms; have hM2 := k.ms; have hmn := h.mn; have hmn2 := k.mn
  clear h k
  obtain ⟨id, out, ms, life, want⟩ := s
  obtain ⟨A, n, c⟩ := v
  obtain ⟨B, m, d⟩ := u
  obtain ⟨id2, out2, ms2, life2, want2⟩ := r
  obtain ⟨A2, n2, c2⟩ := v'
  obtain ⟨B2, m2, d2⟩ := u'
  dsimp only [cCn] at *
  have hno : ¬ (id = id2 ∧ out = out2 ∧ life = life2 ∧ want = want2 ∧ m = m2) → R = false := fun hh => by rw [hR, decide_eq_false (fun h => hh ⟨h.1, h.2.1, h.2.2.1, h.2.2.2.1, by omega⟩)]; rfl
  have hyes : (id = id2 ∧ out = out2 ∧ life = life2 ∧ want = want2 ∧ m = m2) → R = decide (∀ (k : Nat), k < m → (ms[k]?.getD default).d = (ms2[k]?.getD default).d ∧ (ms[k]?.getD default).g = (ms2[k]?.getD default).g) := fun hh => by rw [hR, decide_eq_true ⟨hh.1, hh.2.1, hh.2.2.1, hh.2.2.2.1, by omega⟩, hmn]; simp
  clear hR
  obtain ⟨kb, kc, bc⟩ := bx2 w #[.int .i64 id, .slice A n c, .slice B m d, .int .i64 life, .int .i64 want] #[.int .i64 id2, .slice A2 n2 c2, .slice B2 m2 d2, .int .i64 life2, .int .i64 want2] 25 25
  have hs1 := str_bytes (hO.on bc)
  have hs2 := str_bytes (hO2.on bc)
  have hse := str_same out out2
  dsimp only at hs1 hs2
  clear hO hO2
  generalize (⟨out.toArray⟩ : ByteArray) = s1 at *
  generalize (⟨out2.toArray⟩ : ByteArray) = s2 at *
  obtain ⟨p0, p1, p2, p3, p4⟩ := kb.fiveI
  obtain ⟨q0, q1, q2, q3, q4⟩ := kc.fiveI
  by_cases c1 : id = id2
  rotate_left
  · obtain rfl : R = false := hno (fun hh => c1 hh.1)
    have d1 : (id == id2) = false := by simpa using c1
    clear hse hs1 hs2
    clear hno hyes hmn hmn2 hM hM2
    go_enter Try.func12, Try.ntmps12
    go_wp2
    go_ret
    exact ⟨rfl, bc⟩
  subst c1
  by_cases c2 : out = out2
  rotate_left
  · obtain rfl : R = false := hno (fun hh => c2 hh.2.1)
    have d2 : (s1.toList == s2.toList) = false := by rw [hse]; simpa using c2
    clear hse
    clear hno hyes hmn hmn2 hM hM2
    go_enter Try.func12, Try.ntmps12
    go_wp2
    go_ret
    exact ⟨rfl, bc⟩
  have d2 : (s1.toList == s2.toList) = true := by rw [hse]; simpa using c2
  clear hse
  by_cases c3 : life = life2
  rotate_left
  · obtain rfl : R = false := hno (fun hh => c3 hh.2.2.1)
    have d3 : (life == life2) = false := by simpa using c3
    clear hno hyes hmn hmn2 hM hM2
    go_enter Try.func12, Try.ntmps12
    go_wp2
    go_ret
    exact ⟨rfl, bc⟩
  subst c3
  by_cases c4 : want = want2
  rotate_left
  · obtain rfl : R = false := hno (fun hh => c4 hh.2.2.2.1)
    have d4 : (want == want2) = false := by simpa using c4
    clear hno hyes hmn hmn2 hM hM2
    go_enter Try.func12, Try.ntmps12
    go_wp2
    go_ret
    exact ⟨rfl, bc⟩
  subst c4
  by_cases c5 : m = m2
  rotate_left
  · obtain rfl : R = false := hno (fun hh => c5 hh.2.2.2.2)
    have d5 : ((m : Int) == (m2 : Int)) = false := by simp; omega
    clear hno hyes hmn hmn2 hM hM2
    go_enter Try.func12, Try.ntmps12
    go_wp2
    go_ret
    exact ⟨rfl, bc⟩
  subst c5
  have hyes := hyes ⟨rfl, c2, rfl, rfl, rfl⟩
  have HY := Lib.hid hyes; have HM := Lib.hid hM; have HM2 := Lib.hid hM2; have HN := Lib.hid hmn; have HN2 := Lib.hid hmn2
  clear hno hyes hM hM2 hmn hmn2 c2
  go_enter Try.func12, Try.ntmps12
  go_wp2_with fail
  clear p0 p1 p2 p3 p4 q0 q1 q2 q3 q4 hs1 hs2 d2
  generalize (w.alloc (.cells #[.int .i64 id, .slice A n c, .slice B m d, .int .i64 life, .int .i64 want] 25)).alloc (.cells #[.int .i64 id, .slice A2 n2 c2, .slice B2 m d2, .int .i64 life, .int .i64 want] 25) = u1 at *
  go_loopw [5] (fun i wr => ∃ k : Nat, k ≤ m ∧ i = .int .i64 k ∧ (∀ j, j < k → (ms[j]?.getD default).d = (ms2[j]?.getD default).d ∧ (ms[j]?.getD default).g = (ms2[j]?.getD default).g) ∧ Blk wr w.heap.size 25 #[.int .i64 id, .slice A n c, .slice B m d, .int .i64 life, .int .i64 want] ∧ Blk wr (w.heap.size + 1) 25 #[.int .i64 id, .slice A2 n2 c2, .slice B2 m d2, .int .i64 life, .int .i64 want] ∧ Below w.heap.size w wr)
    (fun i _ => m - (intOf i).toNat)
  case atStart => exact ⟨0, by omega, rfl, fun j hj => by omega, kb, kc, bc⟩
  case round =>
    clear kb kc bc
    obtain ⟨k, hk, rfl, hall, kb, kc, bc⟩ := hrel
    obtain ⟨p0, p1, p2, p3, p4⟩ := kb.fiveI
    obtain ⟨q0, q1, q2, q3, q4⟩ := kc.fiveI
    by_cases hlt : k < m
    rotate_left
    · have hlt2 : decide ((k : Int) < (m : Int)) = false := by simp; omega
      obtain rfl : R = true := by rw [HY.out]; exact decide_eq_true (fun j hj => hall j (by omega))
      clear hall
      go_wp2
      go_ret
      exact ⟨rfl, bc⟩
    have hlt2 : decide ((k : Int) < (m : Int)) = true := by simp; omega
    have hkk : (k : Int) < (m : Int) := by omega
    obtain ⟨b, off, rfl, hb, v, ⟨e0, e1⟩, hv⟩ := (HM.out.below bc).at_ (k := k) (by have := HN.out; omega)
    obtain ⟨b', off', rfl, hb', v', ⟨o0, o1⟩, hv'⟩ := (HM2.out.below bc).at_ (k := k) (by have := HN2.out; omega)
    have hbw : b < wr.heap.size := Nat.lt_of_lt_of_le hb bc.size
    have hbw' : b' < wr.heap.size := Nat.lt_of_lt_of_le hb' bc.size
    have hno : ¬ ((ms[k]?.getD default).d = (ms2[k]?.getD default).d ∧ (ms[k]?.getD default).g = (ms2[k]?.getD default).g) → R = false := fun hh => by rw [HY.out]; exact decide_eq_false (fun h => hh (h k hlt))
    have hst : ((ms[k]?.getD default).d = (ms2[k]?.getD default).d ∧ (ms[k]?.getD default).g = (ms2[k]?.getD default).g) → ∀ j, j < k + 1 → (ms[j]?.getD default).d = (ms2[j]?.getD default).d ∧ (ms[j]?.getD default).g = (ms2[j]?.getD default).g := fun h1 j hj => by
      rcases Nat.lt_or_ge j k with h2 | h2
      · exact hall j h2
      · obtain rfl : j = k := by omega
        exact h1
    obtain ⟨x0, x1, x2, x3, x4⟩ := near_fiveI kb
    obtain ⟨y0, y1, y2, y3, y4⟩ := near_fiveI kc
    have m0 := near_cellI hbw e0; have m1 := near_cellI hbw e1; have m2 := near_cellI hbw' o0; have m3 := near_cellI hbw' o1
    have z1 := fun nw : NearW wr => str_bytes (hv.below (nw.h.mono bc.size))
    have z2 := fun nw : NearW wr => str_bytes (hv'.below (nw.h.mono bc.size))
    have hse := str_same (ms[k]?.getD default).d (ms2[k]?.getD default).d
    have HST := Lib.hid hst; have HNO := Lib.hid hno
    clear hst hno hall hv hv' e0 e1 o0 o1
    generalize (⟨(ms[k]?.getD default).d.toArray⟩ : ByteArray) = t1 at *
    generalize (⟨(ms2[k]?.getD default).d.toArray⟩ : ByteArray) = t2 at *
    generalize (ms[k]?.getD default).d = D1 at *
    generalize (ms2[k]?.getD default).d = D2 at *
    generalize (ms[k]?.getD default).g = G1 at *
    generalize (ms2[k]?.getD default).g = G2 at *
    obtain ⟨vA, vn, vc⟩ := v
    obtain ⟨vA', vn', vc'⟩ := v'
    have BC := Lib.hid bc; have KB := Lib.hid kb; have KC := Lib.hid kc
    clear bc kb kc
    dsimp only at m0 m2 z1 z2
    by_cases c6 : D1 = D2
    rotate_left
    · obtain rfl : R = false := HNO.out (fun hh => c6 hh.1)
      have d6 : (t1.toList == t2.toList) = false := by rw [hse]; simpa using c6
      clear hse
      go_wp2_with fail
      refine wp_region_near (by kernel_rfl) (by kernel_rfl) ?_
      repeat (go_big_quiet_step (first | fail))
      refine wpQuiet_nil ?_
      rintro _ ⟨nw, rfl⟩
      have kb := KB.out.on nw.h
      have kc := KC.out.on nw.h
      have bc := BC.out.trans (nw.h.mono BC.out.size)
      clear m0 m1 m2 m3 z1 z2 x0 x1 x2 x3 x4 y0 y1 y2 y3 y4 p0 p1 p2 p3 p4 q0 q1 q2 q3 q4
      go_wp2
      go_ret
      exact ⟨rfl, bc⟩
    have d6 : (t1.toList == t2.toList) = true := by rw [hse]; simpa using c6
    clear hse
    by_cases c7 : G1 = G2
    rotate_left
    · obtain rfl : R = false := HNO.out (fun hh => c7 hh.2)
      have d7 : (G1 == G2) = false := by simpa using c7
      skip
      go_wp2_with fail
      refine wp_region_near (by kernel_rfl) (by kernel_rfl) ?_
      repeat (go_big_quiet_step (first | fail))
      refine wpQuiet_nil ?_
      rintro _ ⟨nw, rfl⟩
      have kb := KB.out.on nw.h
      have kc := KC.out.on nw.h
      have bc := BC.out.trans (nw.h.mono BC.out.size)
      clear m0 m1 m2 m3 z1 z2 x0 x1 x2 x3 x4 y0 y1 y2 y3 y4 p0 p1 p2 p3 p4 q0 q1 q2 q3 q4
      go_wp2
      go_ret
      exact ⟨rfl, bc⟩
    subst c7
    have HS2 := Lib.hid (HST.out ⟨c6, rfl⟩)
    go_wp2_with fail
    refine wp_region_near (by kernel_rfl) (by kernel_rfl) ?_
    repeat (go_big_quiet_step (first | fail))
    refine wpQuiet_nil ?_
    rintro _ ⟨nw, rfl⟩
    have kb := KB.out.on nw.h
    have kc := KC.out.on nw.h
    have bc := BC.out.trans (nw.h.mono BC.out.size)
    clear m0 m1 m2 m3 z1 z2 x0 x1 x2 x3 x4 y0 y1 y2 y3 y4 p0 p1 p2 p3 p4 q0 q1 q2 q3 q4
    go_wp2_with fail
    go_roundw
    case rel => exact ⟨k + 1, by omega, by go_num, HS2.out, kb, kc, bc⟩
    case measure => simp [intOf]; omega
end Go.Proofs.Ytnlmpemfpkmodaa
