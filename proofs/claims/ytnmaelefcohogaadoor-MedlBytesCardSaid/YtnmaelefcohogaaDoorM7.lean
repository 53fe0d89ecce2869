/-
  The reader of package medl takes a number of bytes. Condition: that there are some more. (Printed by tools/gen07m7.py.)
-/
import Derived.Test.YtnmaelefcohogaaDoorM6
namespace Go.Proofs.YtnmaelefcohogaaDoor
open Go.RowKit

/-- The number of bytes, the highest first. -/
def numB (l : List UInt8) : Nat := l.foldl (fun n v => n * 256 + v.toNat) 0
theorem numB_snoc (l : List UInt8) (v : UInt8) : numB (l ++ [v]) = numB l * 256 + v.toNat := by unfold numB; rw [List.foldl_append]; rfl
theorem numB_lt (l : List UInt8) : numB l < 256 ^ l.length := by
  suffices h : ∀ k, ∀ l : List UInt8, l.length = k → numB l < 256 ^ k from h _ l rfl
  intro k
  induction k with
  | zero => intro l hl; rw [List.eq_nil_of_length_eq_zero hl]; decide
  | succ k ih =>
    intro l hl
    obtain ⟨a, v, rfl⟩ : ∃ a v, l = a ++ [v] := ⟨l.dropLast, l.getLast (by rintro rfl; simp at hl), (List.dropLast_concat_getLast _).symm⟩
    rw [numB_snoc, Nat.pow_succ]
    have h1 := ih a (by simpa using hl)
    have h2 := v.toNat_lt
    omega
theorem i64_join (a v : Nat) (ha : a < 2 ^ 50) (hv : v < 256) : bits .or .i64 ((a * 256 : Nat) : Int) (v : Int) = ((a * 256 + v : Nat) : Int) := by
  have hj : a * 256 ||| v = a * 256 + v := nat_join 8 (a * 256) v (by omega) (by omega)
  show IntKind.i64.wrap ((BitVec.ofInt 64 ((a * 256 : Nat) : Int) ||| BitVec.ofInt 64 (v : Int)).toNat : Int) = _
  rw [BitVec.toNat_or, ofInt_i64 (a * 256) (by omega), ofInt_i64 v (by omega), hj]
  exact IntWalk.i64_in _ (by omega)
theorem take_more (l : List UInt8) (j k : Nat) (h : j + k < l.length) : (l.drop j).take (k + 1) = (l.drop j).take k ++ [l[j + k]?.getD 0] := by
  rw [List.take_add_one, List.getElem?_drop, List.getElem?_eq_getElem h]; rfl
set_option maxRecDepth 8000 in
set_option maxHeartbeats 2000000 in
theorem rtake_any (g b off n c j wd : Nat) (bs : List UInt8) (w : World) (hn : n = bs.length) (hc : n ≤ c) (hcm : c ≤ maxLen) (hj : j + wd < n) (hwd : wd ≤ 4) (hA : Byt w.heap.size w (some ⟨b, off, none⟩) bs) (hg : Blk w g 74 #[.slice (some ⟨b, off + j, none⟩) (n - j) (c - j)]) :
    Calls Tryd.prog 42 #[.pointer (some ⟨g, 0, none⟩), .int .i64 (wd : Int)] w fun e w' => e = .returned (.int .i64 (numB ((bs.drop j).take wd) : Nat)) ∧ Blk w' g 74 #[.slice (some ⟨b, off + (j + wd), none⟩) (n - (j + wd)) (c - (j + wd))] ∧ w.grownBy w' (some g) ∧ w'.heap.size = w.heap.size := by
  have HN := Lib.hid hn; have HA := Lib.hid hA; clear hn hA
  unfold maxLen at hcm
  obtain ⟨N, hN⟩ : ∃ N, N = n - j := ⟨_, rfl⟩
  obtain ⟨C, hC⟩ : ∃ C, C = c - j := ⟨_, rfl⟩
  rw [← hN, ← hC] at hg
  have h1 : wd ≤ N := by omega
  have h2 : N ≤ C := by omega
  have h3 : n - (j + wd) = N - wd := by omega
  have h4 : c - (j + wd) = C - wd := by omega
  have h5 : C ≤ 2 ^ 63 - 1 := by omega
  have h6 : wd < C := by omega
  rw [h3, h4]
  obtain ⟨p0, f0⟩ := hg.one
  have lg := hg.lt
  obtain ⟨J, hJ⟩ : ∃ J, J = off + j := ⟨_, rfl⟩
  rw [← hJ] at hg p0
  have hJ2 : off + (j + wd) = J + wd := by omega
  rw [hJ2]
  have HJ := Lib.hid hJ; have HNN := Lib.hid hN; have HCC := Lib.hid hC; clear hJ hN hC h3 h4 hJ2
  go_enter Tryd.func42, Tryd.ntmps42
  go_wp2_with fail
  go_loopw [5, 7, 15] (fun v _ i wr => ∃ k t : Nat, k ≤ wd ∧ i = .int .i64 k ∧ v = .int .i64 t ∧ numB ((bs.drop j).take k) = t ∧ wr = w) (fun _ _ i _ => wd - (intOf i).toNat)
  case atStart => exact ⟨0, 0, by omega, rfl, rfl, rfl, rfl⟩
  case round =>
    obtain ⟨k, t, hk, rfl, rfl, ht, rfl⟩ := hrel
    by_cases hlt : k < wd
    · have hkl : j + k < bs.length := by have := HN.out; omega
      have ht50 : t < 2 ^ 50 := by
        have h := numB_lt ((bs.drop j).take k)
        rw [ht] at h
        have hl : ((bs.drop j).take k).length ≤ 4 := by rw [List.length_take]; omega
        exact Nat.lt_of_lt_of_le h (Nat.le_trans (Nat.pow_le_pow_right (by decide) hl) (by decide))
      have hm := numB_snoc ((bs.drop j).take k) (bs[j + k]?.getD 0)
      rw [← take_more bs j k hkl, ht] at hm
      have HT := Lib.hid ht; have HM := Lib.hid hm; clear ht
      obtain ⟨b1, off1, e1, hb1, hc1⟩ := HA.out (by rintro rfl; simp at hkl)
      injection e1 with e1
      injection e1 with e1 e2 _
      subst e1; subst e2
      have hcell := hc1 (j + k) hkl
      rw [show off + (j + k) = J + k by have := HJ.out; omega] at hcell
      have hv := (bs[j + k]?.getD 0).toNat_lt
      generalize hvv : (bs[j + k]?.getD 0).toNat = v at *
      have hor := i64_join t v ht50 (by omega)
      have ew : IntKind.i64.wrap ((t : Int) * 256) = (t : Int) * 256 := IntWalk.i64_in _ (by omega)
      have ev : IntKind.i64.wrap (v : Int) = (v : Int) := IntWalk.i64_in _ (by omega)
      replace HM := Lib.hid hm
      clear hc1 hm hkl hvv
      go_wp2
      go_roundw
      case rel => exact ⟨k + 1, t * 256 + v, by omega, by go_num, by simpa using hor, HM.out, by trivial⟩
      case measure => simp [intOf]; omega
    · obtain rfl : k = wd := by omega
      have HT := Lib.hid ht; clear ht
      go_wp2
      go_ret
      exact ⟨by rw [HT.out]; rfl, by simpa using hg.set_ 0 (.slice (some ⟨b, J + k, none⟩) (N - k) (C - k)), st1 wr g _, by simp⟩
end Go.Proofs.YtnmaelefcohogaaDoor
