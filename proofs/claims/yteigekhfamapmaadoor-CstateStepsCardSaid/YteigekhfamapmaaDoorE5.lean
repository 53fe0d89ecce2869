/-
  Get of package bits answers as the document says, for all bits, places and widths. No condition but that the bytes can be read.
-/
import Derived.Test.YteigekhfamapmaaDoorE4
namespace Go.Proofs.YteigekhfamapmaaDoor
open Go.RowKit

/-- Get, by the document. -/
def getS (N : Int) (bs : List UInt8) (at_ width : Int) : Int × Nat :=
  if goodB N bs = true then
    if (0 ≤ width ∧ width ≤ 64) ∧ 0 ≤ at_ ∧ at_ ≤ N - width then (0, numOf (((listOf N bs).drop at_.toNat).take width.toNat))
    else (2, 0)
  else (10, 0)
/-- What it answers. -/
def Num (w : World) (r : Int × Nat) (e : Ending) (w' : World) : Prop := e = .returned (.tuple #[.int .u64 r.2, .int .i64 r.1]) ∧ Below w.heap.size w w'

/-- A box laid by a call, behind a callee that keeps all that was there. -/
theorem boxes1 {w w1 : World} {a0 a1 : Value} (hB : Below (w.alloc (.cells #[a0, a1] 26)).heap.size (w.alloc (.cells #[a0, a1] 26)) w1) :
    Blk w1 w.heap.size 26 #[a0, a1] ∧ w.heap.size + 1 ≤ w1.heap.size ∧ Below w.heap.size w w1 := by
  have h1 : Blk (w.alloc (.cells #[a0, a1] 26)) w.heap.size 26 #[a0, a1] := Blk.new w 26 _
  exact ⟨h1.below hB h1.lt, by have := hB.size; simpa using this, ((Below.refl _ _).alloc (Nat.le_refl _) _).trans (hB.mono (by simp))⟩

theorem u64_twice (x : Nat) (h : 2 * x < 2 ^ 64) : IntKind.u64.wrap ((x : Int) * 2) = ((2 * x : Nat) : Int) := by
  rw [IntKind.wrap_u64]; omega
theorem u64_or1 (x : Nat) (h : 2 * x < 2 ^ 64) : bits .or .u64 ((2 * x : Nat) : Int) 1 = ((2 * x + 1 : Nat) : Int) := by
  rw [show (1 : Int) = ((1 : Nat) : Int) from rfl, u64_or_nat _ _ (by omega) (by omega)]
  rw [nat_join 1 (2 * x) 1 (by omega) (by omega)]
theorem take_snoc_get (l : List Bool) (a k : Nat) (h : a + k < l.length) : (l.drop a).take (k + 1) = (l.drop a).take k ++ [l[a + k]?.getD false] := by
  rw [List.take_add_one, List.getElem?_drop, List.getElem?_eq_getElem h]
  rfl
theorem num_small (l : List Bool) (k : Nat) (h : k < 64) : 2 * numOf (l.take k) < 2 ^ 64 := by
  have h1 := numOf_lt (l.take k)
  have h2 : (l.take k).length ≤ k := List.length_take_le _ _
  have h3 : 2 ^ (l.take k).length ≤ 2 ^ 63 := Nat.pow_le_pow_right (by omega) (by omega)
  omega

set_option maxRecDepth 4000 in
set_option maxHeartbeats 1000000 in
theorem get_any (N at_ width : Int) (A : Option Addr) (n c : Nat) (bs : List UInt8) (w : World) (hn : n = bs.length) (hm : n ≤ maxLen) (hA : Byt w.heap.size w A bs) :
    Calls Tryd.prog 34 #[.agg #[.int .i64 N, .slice A n c], .int .i64 at_, .int .i64 width] w (Num w (getS N bs at_ width)) := by
  have HA := Lib.hid hA
  have HN := Lib.hid hn; clear hn
  have hck := fun w1 (h : Below w.heap.size w w1) => check_any N A n c bs w1 HN.out hm ((hA.below h).mono h.size)
  have HCK := Lib.hid hck; clear hck hA
  unfold maxLen at hm
  by_cases hgood : goodB N bs = true
  · obtain ⟨hg0, hg1, hg2, hg3⟩ := (good_iff N bs).1 hgood
    clear hg3
    have hk := chk_yes hgood
    have HK := Lib.hid hk; clear hk
    by_cases hwid : 0 ≤ width ∧ width ≤ 64
    · obtain ⟨hw0, hw1⟩ := hwid
      by_cases hat : 0 ≤ at_ ∧ at_ ≤ N - width
      · obtain ⟨ha0, ha1⟩ := hat
        have hr : getS N bs at_ width = (0, numOf (((listOf N bs).drop at_.toNat).take width.toNat)) := by simp [getS, hgood, hw0, hw1, ha0, ha1]
        rw [hr]; clear hr
        have hib := good_isBits hgood
        have hll : (listOf N bs).length = N.toNat := listOf_length N bs
        generalize hl : listOf N bs = l at *
        have HG2 := Lib.hid hg2; clear hg2
        have HIB := Lib.hid hib; clear hib
        have HLL := Lib.hid hll; clear hll hl hgood
        have hd1 : decide (at_ < 0) = false := by simpa using ha0
        have hd2 : decide (N - width < at_) = false := by simpa using ha1
        go_enter Tryd.func34, Tryd.ntmps34
        go_wp2_with (first
            | (go_at_call 33; refine (HCK.out _ ((Below.refl _ _).alloc (Nat.le_refl _) _)).mono ?_; rintro e w1 ⟨rfl, hB⟩; rw [HK.out]; obtain ⟨k1, hs, hBw⟩ := boxes1 hB; obtain ⟨c1, c2, f1, f2⟩ := k1.two)
            | (go_at_call 44; refine (isWidth_yes _ _ hw0 hw1).mono ?_; rintro e w2 ⟨rfl, rfl⟩))
        go_loopw [8, 29] (fun v i wr => ∃ k : Nat, (k : Int) ≤ width ∧ i = .int .i64 k ∧ v = .int .u64 (numOf ((l.drop at_.toNat).take k)) ∧ Blk wr w.heap.size 26 #[.int .i64 N, .slice A n c] ∧ Below w.heap.size w wr)
          (fun _ i _ => width.toNat - (intOf i).toNat)
        case atStart => exact ⟨0, by omega, rfl, rfl, k1, hBw⟩
        case round =>
          obtain ⟨k, hk, rfl, rfl, q1, hBr⟩ := hrel
          obtain ⟨c3, c4, f3, f4⟩ := q1.two
          clear c1 c2 f1 f2 k1 hB
          by_cases hlt : (k : Int) < width
          · have hsm := num_small (l.drop at_.toNat) k (by omega)
            have hts := take_snoc_get l at_.toNat k (by have := HLL.out; omega)
            have hone := isOne_any N (at_ + k) A n c bs wr (by omega) (by omega) HN.out (by have := HG2.out; omega) ((HA.out.below hBr).mono hBr.size)
            rw [HIB.out.2, show (at_ + (k : Int)).toNat = at_.toNat + k by omega] at hone
            have hnx : numOf ((l.drop at_.toNat).take (k + 1)) = 2 * numOf ((l.drop at_.toNat).take k) + (l[at_.toNat + k]?.getD false).toNat := by rw [hts, numOf_snoc]
            generalize numOf ((l.drop at_.toNat).take k) = x at *
            have hwx := u64_twice x hsm
            have hor := u64_or1 x hsm
            obtain ⟨y, hy⟩ : ∃ y, y = 2 * x := ⟨_, rfl⟩
            rw [← hy] at hwx hor hnx
            obtain ⟨z, hz⟩ : ∃ z, z = y + 1 := ⟨_, rfl⟩
            rw [← hz] at hor
            clear hts hsm
            have HY := Lib.hid hy; clear hy
            have HZ := Lib.hid hz; clear hz
            by_cases hb : l[at_.toNat + k]?.getD false = true
            · rw [hb] at hone hnx
              have HO := Lib.hid hone; have HX := Lib.hid hnx; clear hone hnx hb
              go_wp2_with (go_at_call 50; refine HO.out.mono ?_; rintro e w3 ⟨rfl, hb3⟩)
              go_roundw
              case rel => exact ⟨k + 1, by omega, by go_num, by rw [HX.out, HZ.out]; rfl, q1.below hb3 q1.lt, hBr.trans (hb3.mono hBr.size)⟩
              case measure => simp [intOf]; omega
            · rw [Bool.not_eq_true] at hb
              rw [hb] at hone hnx
              have HO := Lib.hid hone; have HX := Lib.hid hnx; clear hone hnx hb
              go_wp2_with (go_at_call 50; refine HO.out.mono ?_; rintro e w3 ⟨rfl, hb3⟩)
              go_roundw
              case rel => exact ⟨k + 1, by omega, by go_num, by rw [HX.out]; rfl, q1.below hb3 q1.lt, hBr.trans (hb3.mono hBr.size)⟩
              case measure => simp [intOf]; omega
          · go_wp2
            go_ret2
            exact ⟨by rw [show width.toNat = k by omega]; rfl, hBr⟩
      · have hr : getS N bs at_ width = (2, 0) := by simp [getS, hgood, hat]
        rw [hr]; clear hr hgood
        have HG2 := Lib.hid hg2; clear hg2
        by_cases ha0 : at_ < 0
        · have hd1 : decide (at_ < 0) = true := by simpa using ha0
          clear hat
          go_enter Tryd.func34, Tryd.ntmps34
          go_wp2_with (first
            | (go_at_call 33; refine (HCK.out _ ((Below.refl _ _).alloc (Nat.le_refl _) _)).mono ?_; rintro e w1 ⟨rfl, hB⟩; rw [HK.out]; obtain ⟨k1, hs, hBw⟩ := boxes1 hB; obtain ⟨c1, c2, f1, f2⟩ := k1.two)
            | (go_at_call 44; refine (isWidth_yes _ _ hw0 hw1).mono ?_; rintro e w2 ⟨rfl, rfl⟩))
          go_ret2
          exact ⟨rfl, hBw⟩
        · have hd1 : decide (at_ < 0) = false := by simpa using ha0
          have hd2 : decide (N - width < at_) = true := by simp; omega
          clear hat
          go_enter Tryd.func34, Tryd.ntmps34
          go_wp2_with (first
            | (go_at_call 33; refine (HCK.out _ ((Below.refl _ _).alloc (Nat.le_refl _) _)).mono ?_; rintro e w1 ⟨rfl, hB⟩; rw [HK.out]; obtain ⟨k1, hs, hBw⟩ := boxes1 hB; obtain ⟨c1, c2, f1, f2⟩ := k1.two)
            | (go_at_call 44; refine (isWidth_yes _ _ hw0 hw1).mono ?_; rintro e w2 ⟨rfl, rfl⟩))
          go_ret2
          exact ⟨rfl, hBw⟩
    · have hr : getS N bs at_ width = (2, 0) := by simp [getS, hgood, hwid]
      rw [hr]; clear hr hgood
      have HG2 := Lib.hid hg2; clear hg2
      have HW := Lib.hid hwid; clear hwid
      go_enter Tryd.func34, Tryd.ntmps34
      go_wp2_with (first
            | (go_at_call 33; refine (HCK.out _ ((Below.refl _ _).alloc (Nat.le_refl _) _)).mono ?_; rintro e w1 ⟨rfl, hB⟩; rw [HK.out]; obtain ⟨k1, hs, hBw⟩ := boxes1 hB; obtain ⟨c1, c2, f1, f2⟩ := k1.two)
            | (go_at_call 44; refine (isWidth_no _ _ HW.out).mono ?_; rintro e w2 ⟨rfl, rfl⟩))
      go_ret2
      exact ⟨rfl, hBw⟩
  · have hr : getS N bs at_ width = (10, 0) := by simp [getS, hgood]
    have hk := chk_no (N := N) (bs := bs) (by simpa using hgood)
    rw [hr]; clear hr hgood
    have HK := Lib.hid hk; clear hk
    go_enter Tryd.func34, Tryd.ntmps34
    go_wp2_with (first
            | (go_at_call 33; refine (HCK.out _ ((Below.refl _ _).alloc (Nat.le_refl _) _)).mono ?_; rintro e w1 ⟨rfl, hB⟩; rw [HK.out]; obtain ⟨k1, hs, hBw⟩ := boxes1 hB; obtain ⟨c1, c2, f1, f2⟩ := k1.two))
    go_ret2
    exact ⟨rfl, hBw⟩
end Go.Proofs.YteigekhfamapmaaDoor
