/-
  The document itself: Get. No condition but that the bytes can be read.
-/
import Derived.Test.YteigekhfamapmaaDoorF4
namespace Go.Proofs.YteigekhfamapmaaDoor
open Go.RowKit

theorem u64_more (x : Nat) (h : 2 * x < 2 ^ 64) : IntKind.u64.wrap (((2 * x : Nat) : Int) + 1) = ((2 * x + 1 : Nat) : Int) := by
  rw [IntKind.wrap_u64]; omega

set_option maxRecDepth 4000 in
set_option maxHeartbeats 1000000 in
theorem rget_any (N at_ width : Int) (A : Option Addr) (n c : Nat) (bs : List UInt8) (w : World) (hn : n = bs.length) (hm : n ≤ maxLen) (hA : Byt w.heap.size w A bs) :
    Calls Tryd.prog 52 #[.agg #[.int .i64 N, .slice A n c], .int .i64 at_, .int .i64 width] w (Num w (getS N bs at_ width)) := by
  have HA := Lib.hid hA
  have HN := Lib.hid hn; clear hn
  have hck := fun w1 (h : Below w.heap.size w w1) => rcheck_any N A n c bs w1 HN.out hm ((hA.below h).mono h.size)
  have HCK := Lib.hid hck; clear hck hA
  unfold maxLen at hm
  by_cases hgood : goodB N bs = true
  · obtain ⟨hg0, hg1, hg2, hg3⟩ := (good_iff N bs).1 hgood
    clear hg3
    have hk := chk_yes hgood
    have HK := Lib.hid hk; clear hk
    by_cases hbad : (0 ≤ width ∧ width ≤ 64) ∧ 0 ≤ at_ ∧ at_ ≤ N - width
    · obtain ⟨⟨hw0, hw1⟩, ha0, ha1⟩ := hbad
      have hr : getS N bs at_ width = (0, numOf (((listOf N bs).drop at_.toNat).take width.toNat)) := by simp [getS, hgood, hw0, hw1, ha0, ha1]
      rw [hr]; clear hr
      have hib := good_isBits hgood
      have hll : (listOf N bs).length = N.toNat := listOf_length N bs
      generalize hl : listOf N bs = l at *
      have HG2 := Lib.hid hg2; clear hg2
      have HIB := Lib.hid hib; clear hib
      have HLL := Lib.hid hll; clear hll hl hgood
      have hd1 : decide (width < 0) = false := by simpa using hw0
      have hd2 : decide ((64 : Int) < width) = false := by simpa using hw1
      have hd3 : decide (at_ < 0) = false := by simpa using ha0
      have hd4 : decide (N < at_) = false := by simp; omega
      have hd5 : decide (N - at_ < width) = false := by simp; omega
      obtain ⟨at', rfl⟩ := Int.eq_ofNat_of_zero_le ha0
      obtain ⟨wd, rfl⟩ := Int.eq_ofNat_of_zero_le hw0
      simp only [Int.toNat_natCast] at *
      go_enter Tryd.func52, Tryd.ntmps52
      go_wp2_with (go_at_call 36; refine (HCK.out _ ((Below.refl _ _).alloc (Nat.le_refl _) _)).mono ?_; rintro e w1 ⟨rfl, hB⟩; rw [HK.out]; obtain ⟨k1, hs, hBw⟩ := boxes1 hB; obtain ⟨c1, c2, f1, f2⟩ := k1.two)
      go_loopw [8, 9] (fun v i wr => ∃ k : Nat, k ≤ wd ∧ i = .int .i64 ((at' + k : Nat) : Int) ∧ v = .int .u64 (numOf ((l.drop at').take k)) ∧ wr = w1)
        (fun _ i _ => at' + wd - (intOf i).toNat)
      case atStart => exact ⟨0, by omega, by simp, rfl, rfl⟩
      case round =>
        obtain ⟨k, hk, rfl, rfl, rfl⟩ := hrel
        by_cases hlt : k < wd
        · have hsm := num_small (l.drop at') k (by omega)
          have hts := take_snoc_get l at' k (by have := HLL.out; omega)
          have hone := rbit_any (at' + k : Nat) A n c bs wr (by omega) (by omega) HN.out (by have := HG2.out; omega) ((HA.out.below hBw).mono hBw.size)
          rw [Int.toNat_natCast, HIB.out.2] at hone
          have hnx : numOf ((l.drop at').take (k + 1)) = 2 * numOf ((l.drop at').take k) + (l[at' + k]?.getD false).toNat := by rw [hts, numOf_snoc]
          generalize numOf ((l.drop at').take k) = x at *
          have hwx := u64_twice x hsm
          have hor := u64_more x hsm
          obtain ⟨y, hy⟩ : ∃ y, y = 2 * x := ⟨_, rfl⟩
          rw [← hy] at hwx hor hnx
          obtain ⟨z, hz⟩ : ∃ z, z = y + 1 := ⟨_, rfl⟩
          rw [← hz] at hor
          clear hts hsm
          have HY := Lib.hid hy; clear hy
          have HZ := Lib.hid hz; clear hz
          obtain ⟨p, hp⟩ : ∃ p, p = at' + k := ⟨_, rfl⟩
          rw [← hp] at hone hnx ⊢
          have hp2 : p < at' + wd := by omega
          have hp3 : p ≤ 8192 := by omega
          have HP := Lib.hid hp; clear hp
          by_cases hb : l[p]?.getD false = true
          · rw [hb] at hone hnx
            have HO := Lib.hid hone; have HX := Lib.hid hnx; clear hone hnx hb
            go_wp2_with (go_at_call 51; refine HO.out.mono ?_; rintro e w3 ⟨rfl, rfl⟩)
            go_roundw
            case rel => exact ⟨k + 1, by omega, by rw [HP.out]; go_num, by rw [HX.out, HZ.out]; rfl, by first | rfl | trivial⟩
            case measure => have := HP.out; simp [intOf]; omega
          · rw [Bool.not_eq_true] at hb
            rw [hb] at hone hnx
            have HO := Lib.hid hone; have HX := Lib.hid hnx; clear hone hnx hb
            go_wp2_with (go_at_call 51; refine HO.out.mono ?_; rintro e w3 ⟨rfl, rfl⟩)
            go_roundw
            case rel => exact ⟨k + 1, by omega, by rw [HP.out]; go_num, by rw [HX.out]; rfl, by first | rfl | trivial⟩
            case measure => have := HP.out; simp [intOf]; omega
        · obtain rfl : k = wd := by omega
          go_wp2
          go_ret2
          exact ⟨rfl, hBw⟩
    · have hr : getS N bs at_ width = (2, 0) := by
        unfold getS
        rw [if_pos hgood, if_neg hbad]
      rw [hr]; clear hr hgood
      have HG2 := Lib.hid hg2; clear hg2
      have HBAD := Lib.hid hbad; clear hbad
      go_enter Tryd.func52, Tryd.ntmps52
      go_wp2_with (go_at_call 36; refine (HCK.out _ ((Below.refl _ _).alloc (Nat.le_refl _) _)).mono ?_; rintro e w1 ⟨rfl, hB⟩; rw [HK.out]; obtain ⟨k1, hs, hBw⟩ := boxes1 hB; obtain ⟨c1, c2, f1, f2⟩ := k1.two)
      all_goals first
        | (go_ret2; exact ⟨rfl, hBw⟩)
        | (have hq := HBAD.out; exfalso; omega)
  · have hr : getS N bs at_ width = (10, 0) := by simp [getS, hgood]
    have hk := chk_no (N := N) (bs := bs) (by simpa using hgood)
    rw [hr]; clear hr hgood
    have HK := Lib.hid hk; clear hk
    go_enter Tryd.func52, Tryd.ntmps52
    go_wp2_with (go_at_call 36; refine (HCK.out _ ((Below.refl _ _).alloc (Nat.le_refl _) _)).mono ?_; rintro e w1 ⟨rfl, hB⟩; rw [HK.out]; obtain ⟨k1, hs, hBw⟩ := boxes1 hB; obtain ⟨c1, c2, f1, f2⟩ := k1.two)
    go_ret2
    exact ⟨rfl, hBw⟩
end Go.Proofs.YteigekhfamapmaaDoor
