/-
  since of package sched: it tells the slots from the first one on that begins no earlier than a moment, till it is left. Conditions: a grid that may be, a moment of at most MaxTick, a bound on the rounds by the invariant of whoever ranges over it.
-/
import Derived.Test.YtjdhodobfkkoiaaSM
import Derived.Test.YtjdhodobfkkoiaaE6
namespace Go.Proofs.Ytjdhodobfkkoiaa
open Go.RowKit Go.Shelf
attribute [local go_sem] Oper.semAt_some

/-- What a round is handed: the slot's number, its span. -/
abbrev encSl (g : Gr) (k0 : Int) (j : Nat) : Array Value := #[.int .i64 (k0 + j), vS (slotAt g (k0 + j)).1 (slotAt g (k0 + j)).2]
theorem first_bound {a b n t : Int} (ha : 0 ≤ a) (hb : 1 ≤ b) (ht : t ≤ 1099511627776) : 0 ≤ firstS (a, b, n) t ∧ firstS (a, b, n) t * b ≤ 1099511627776 + b ∧ firstS (a, b, n) t ≤ 1099511627776 := by
  unfold firstS; dsimp only
  split
  · refine ⟨by omega, by rw [Int.zero_mul]; omega, by omega⟩
  · have h1 := div_small (m := t - a - 1) (b := b) (by omega) hb
    have h2 := Int.ediv_mul_le (t - a - 1) (show b ≠ 0 by omega)
    refine ⟨by omega, ?_, by omega⟩
    rw [Int.add_mul, Int.one_mul]; omega
theorem slot_in {b k0 : Int} {j M : Nat} (hb : 1 ≤ b) (hb2 : b ≤ 16777216) (h0 : 0 ≤ k0) (h1 : k0 * b ≤ 1099511627776 + b) (hj : j ≤ M) (hM : (M : Int) * b ≤ 1099511627776 + 16777216 * 16) : 0 ≤ (k0 + j) * b ∧ (k0 + j) * b ≤ 1152921504606846976 := by
  have e : (k0 + j) * b = k0 * b + j * b := Int.add_mul _ _ _
  have h2 : 0 ≤ k0 * b := Int.mul_nonneg h0 (by omega)
  have h3 : 0 ≤ (j : Int) * b := Int.mul_nonneg (by omega) (by omega)
  have h4 : (j : Int) * b ≤ (M : Int) * b := Int.mul_le_mul_of_nonneg_right (by omega) (by omega)
  omega

set_option maxRecDepth 100000 in
set_option maxHeartbeats 2000000 in
theorem since_left (q gb tb M : Nat) (hq : 1 ≤ q) (a b n t : Int) (ha : 0 ≤ a ∧ a ≤ 1099511627776) (hb : 1 ≤ b ∧ b ≤ 16777216) (ht : t ≤ 1099511627776) (hM : (M : Int) * b ≤ 1099511627776 + 16777216 * 16)
    (I : List Nat → World → Prop) (hbd : ∀ m W, I (List.range m) W → m < M) (w : World)
    (hg : Blk w gb 41 #[.int .i64 a, .int .i64 b, .int .i64 n]) (ht2 : Blk w tb 2 #[.int .i64 t]) :
    SeqLeft Fence.wide q Try.prog 52 #[.pointer (some ⟨gb, 0, none⟩), .pointer (some ⟨tb, 0, none⟩)] (encSl (a, b, n) (firstS (a, b, n) t)) (Keeps2 gb tb) I (fun pre => ∃ m, pre = List.range (m + 1)) w := by
  intro lp J Jx W hW hJ _ hIJ hY h0
  have HJ := Lib.hid hJ; have HY := Lib.hid hY; have H0 := Lib.hid h0; have HI := Lib.hid hIJ; have HBD := Lib.hid hbd
  clear hJ hY h0 hIJ hbd
  have kg := hg.below hW hg.lt
  have kt := ht2.below hW ht2.lt
  obtain ⟨f1, f2, f3⟩ := first_bound (n := n) ha.1 hb.1 ht
  have hfs := fun (W : World) => firstSince_any a b n t W ha.1 hb.1 ht
  have hsp := fun (j : Nat) (W : World) (h : j ≤ M) => spanOf_any a b n (firstS (a, b, n) t + j) W ha hb (slot_in hb.1 hb.2 f1 f2 h hM)
  have hM2 : (M : Int) ≤ 1099511627776 + 16777216 * 16 := by
    have : (M : Int) * 1 ≤ (M : Int) * b := Int.mul_le_mul_of_nonneg_left hb.1 (by omega)
    omega
  generalize firstS (a, b, n) t = k0 at *
  obtain ⟨K, hK⟩ := Int.eq_ofNat_of_zero_le f1
  subst hK
  have HFS := Lib.hid hfs; have HSP := Lib.hid hsp
  clear hfs hsp hg ht2 ha hb ht hM hW f1 f2
  obtain ⟨p0, p1, p2, -, -, -⟩ := kg.three
  obtain ⟨p3, -⟩ := kt.one
  refine callsIn_of_wp Try.func52 rfl trivial ?_ rfl
  simp only [Try.ntmps52, List.size_toArray, List.length_cons, List.length_nil, Nat.reduceAdd, Nat.reduceSub, Array.replicate_succ, Array.replicate_zero, List.push_toArray, List.append_toArray, List.nil_append, List.cons_append]
  gi_wp2_with fail
  refine ⟨trivial, ?_⟩
  refine (callsIn_wide.2 (HFS.out _)).mono ?_
  rintro e w1 ⟨rfl, hC⟩
  dsimp only
  have k1 := kg.on hC
  have k2 := kt.on hC
  have hJ1 := HJ.out _ _ _ none H0.out (only_of_below hC none) (fun r e => by cases e)
  clear p0 p1 p2 p3 kg kt H0 hC
  gi_wp2
  gi_loopw [4] (fun i wr => ∃ m : Nat, i = .int .i64 ((K : Int) + (m : Int)) ∧ J (List.range m) wr ∧ Blk wr gb 41 #[.int .i64 a, .int .i64 b, .int .i64 n] ∧ Blk wr tb 2 #[.int .i64 t])
    (fun i _ => K + M - (intOf i).toNat)
  case atStart => exact ⟨0, by simp, hJ1, k1, k2⟩
  case round =>
    clear hJ1 k1 k2
    obtain ⟨m, rfl, hJs, k1, k2⟩ := hrel
    have hmM := HBD.out m _ (HI.out _ _ hJs)
    obtain ⟨p0, p1, p2, -, -, -⟩ := k1.three
    have hsp := HSP.out m
    have hyy := HY.out (List.range m) m
    simp only [encSl] at hyy
    generalize (slotAt (a, b, n) (↑K + ↑m)).1 = s1 at *
    generalize (slotAt (a, b, n) (↑K + ↑m)).2 = s2 at *
    have HSM := Lib.hid hsp; have HYY := Lib.hid hyy; clear hsp hyy HSP
    have hw1 : IntKind.i64.wrap ((K : Int) + (m : Int) + 1) = (K : Int) + (m : Int) + 1 := IntWalk.i64_in _ (by omega)
    gi_wp2_with fail
    refine ⟨trivial, ?_⟩
    refine (callsIn_wide.2 (HSM.out _ (by omega))).mono ?_
    rintro e w3 ⟨rfl, hb3⟩
    dsimp only
    obtain ⟨fn, tmps, assign, body, hy, hR⟩ := HYY.out w3 (HJ.out _ _ _ none hJs (only_of_below hb3 none) (fun r e => by cases e))
    gi_wp2_with fail
    refine hR.mono ?_
    rintro e W3 (⟨rfl, hJ3, hk3⟩ | ⟨rfl, hJx3⟩)
    · gi_wp2
      go_roundw
      case rel => exact ⟨m + 1, by go_num, by rw [List.range_succ]; exact hJ3, hk3.1.trans (k1.on hb3), hk3.2.trans (k2.on hb3)⟩
      case measure => simp [intOf]; omega
    · gi_wp2
      go_end0
      exact ⟨⟨_, rfl⟩, _, ⟨m, by rw [List.range_succ]⟩, hJx3⟩
end Go.Proofs.Ytjdhodobfkkoiaa
