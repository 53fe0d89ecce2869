/-
  Whether two slices of numbers, or of truths, are the same: slices.Equal, and the document's own. Conditions: those that each theorem names. (Printed by tools/gen07u.py.)
-/
import Derived.Test.YtnmaelefcohogaaDoorMR
namespace Go.Proofs.YtnmaelefcohogaaDoor
open Go.RowKit

theorem same_snoc {α : Type} {l m : List α} {k : Nat} (h : l.take k = m.take k) (hk : l[k]? = m[k]?) : l.take (k + 1) = m.take (k + 1) := by
  rw [List.take_add_one, List.take_add_one, h, hk]
theorem same_whole {α : Type} {l m : List α} {k : Nat} (h : l.take k = m.take k) (h1 : k = l.length) (h2 : k = m.length) : l = m := by
  have e1 : l.take k = l := List.take_of_length_le (by omega)
  have e2 : m.take k = m := List.take_of_length_le (by omega)
  rw [e1, e2] at h; exact h
theorem at_same {α : Type} {l m : List α} {k : Nat} {d : α} (h1 : k < l.length) (h2 : k < m.length) (h : l[k]?.getD d = m[k]?.getD d) : l[k]? = m[k]? := by
  rw [List.getElem?_eq_getElem h1, List.getElem?_eq_getElem h2] at *
  simpa using h
set_option maxHeartbeats 1000000 in
theorem rsameI_any (A B : Option Addr) (n m c d : Nat) (x y : List Int) (w : World) (hn : n = x.length) (hm : m = y.length) (hx : n ≤ maxLen) (hy : m ≤ maxLen) (hA : Ints w.heap.size w A x) (hB : Ints w.heap.size w B y) :
    Calls Tryd.prog 28 #[.slice A n c, .slice B m d] w fun e w' => e = .returned (.bool (decide (x = y))) ∧ Below w.heap.size w w' := by
  unfold maxLen at hx hy
  by_cases hl : n = m
  rotate_left
  · have hne : decide (x = y) = false := by simp; rintro rfl; exact hl (hn.trans hm.symm)
    have d0 : decide ((n : Int) = (m : Int)) = false := by simp; omega
    have d1 : ((n : Int) != (m : Int)) = true := by simp; omega
    have d2 : ((n : Int) == (m : Int)) = false := by simp; omega
    rw [hne]
    clear hn hm hA hB hl hne
    go_enter Tryd.func28, Tryd.ntmps28
    go_wp2
    go_ret
    exact ⟨rfl, Below.refl _ _⟩
  subst hl
  obtain ⟨R, hR⟩ : ∃ R, R = decide (x = y) := ⟨_, rfl⟩
  rw [← hR]
  have HN := Lib.hid hn; have HM := Lib.hid hm; have HA := Lib.hid hA; have HB := Lib.hid hB; have HR := Lib.hid hR; clear hn hm hA hB hR hy
  go_enter Tryd.func28, Tryd.ntmps28
  go_wp2
  go_loopw [5] (fun i wr => ∃ k : Nat, k ≤ n ∧ i = .int .i64 k ∧ x.take k = y.take k ∧ Below w.heap.size w wr) (fun i _ => n - (intOf i).toNat)
  case atStart => exact ⟨0, by omega, rfl, rfl, Below.refl _ _⟩
  case round =>
    obtain ⟨k, hk, rfl, hs, hBr⟩ := hrel
    have HS := Lib.hid hs; clear hs
    by_cases hlt : k < n
    · have hkl : k < x.length := by have := HN.out; omega
      have hkm : k < y.length := by have := HM.out; omega
      obtain ⟨b, off, rfl, hbl, hc0⟩ := (HA.out.below hBr).at_ hkl
      obtain ⟨b', off', rfl, hbl', hc1⟩ := (HB.out.below hBr).at_ hkm
      have hbs : b < wr.heap.size := Nat.lt_of_lt_of_le hbl hBr.size
      have hbs' : b' < wr.heap.size := Nat.lt_of_lt_of_le hbl' hBr.size
      by_cases he : x[k]?.getD 0 = y[k]?.getD 0
      · have hs2 := same_snoc HS.out (at_same hkl hkm he)
        have HS2 := Lib.hid hs2; clear hs2
        rw [he] at hc0
        clear he
        generalize y[k]?.getD 0 = v at *
        clear hkl hkm
        go_wp2
        go_quiet (fail)
        go_wp2
        go_roundw
        case rel => exact ⟨k + 1, by omega, by go_num, HS2.out, below_drewN hBr _⟩
        case measure => simp [intOf]; omega
      · obtain rfl : R = false := by rw [HR.out]; simp; rintro rfl; exact he rfl
        generalize x[k]?.getD 0 = u at *
        generalize y[k]?.getD 0 = v at *
        have d1 : (u != v) = true := by simpa using he
        have d2 : (u == v) = false := by simpa using he
        all_goals
          clear he hkl hkm
          go_wp2
          go_quiet (fail)
          go_wp2
          go_ret
          exact ⟨rfl, below_drewN hBr _⟩
    · obtain rfl : R = true := by rw [HR.out]; exact decide_eq_true (same_whole HS.out (by have := HN.out; omega) (by have := HM.out; omega))
      go_wp2
      go_ret
      exact ⟨rfl, hBr⟩
set_option maxHeartbeats 1000000 in
theorem rsameB_any (A B : Option Addr) (n m c d : Nat) (x y : List Bool) (w : World) (hn : n = x.length) (hm : m = y.length) (hx : n ≤ maxLen) (hy : m ≤ maxLen) (hA : Bools w.heap.size w A x) (hB : Bools w.heap.size w B y) :
    Calls Tryd.prog 27 #[.slice A n c, .slice B m d] w fun e w' => e = .returned (.bool (decide (x = y))) ∧ Below w.heap.size w w' := by
  unfold maxLen at hx hy
  by_cases hl : n = m
  rotate_left
  · have hne : decide (x = y) = false := by simp; rintro rfl; exact hl (hn.trans hm.symm)
    have d0 : decide ((n : Int) = (m : Int)) = false := by simp; omega
    have d1 : ((n : Int) != (m : Int)) = true := by simp; omega
    have d2 : ((n : Int) == (m : Int)) = false := by simp; omega
    rw [hne]
    clear hn hm hA hB hl hne
    go_enter Tryd.func27, Tryd.ntmps27
    go_wp2
    go_ret
    exact ⟨rfl, Below.refl _ _⟩
  subst hl
  obtain ⟨R, hR⟩ : ∃ R, R = decide (x = y) := ⟨_, rfl⟩
  rw [← hR]
  have HN := Lib.hid hn; have HM := Lib.hid hm; have HA := Lib.hid hA; have HB := Lib.hid hB; have HR := Lib.hid hR; clear hn hm hA hB hR hy
  go_enter Tryd.func27, Tryd.ntmps27
  go_wp2
  go_loopw [5] (fun i wr => ∃ k : Nat, k ≤ n ∧ i = .int .i64 k ∧ x.take k = y.take k ∧ Below w.heap.size w wr) (fun i _ => n - (intOf i).toNat)
  case atStart => exact ⟨0, by omega, rfl, rfl, Below.refl _ _⟩
  case round =>
    obtain ⟨k, hk, rfl, hs, hBr⟩ := hrel
    have HS := Lib.hid hs; clear hs
    by_cases hlt : k < n
    · have hkl : k < x.length := by have := HN.out; omega
      have hkm : k < y.length := by have := HM.out; omega
      obtain ⟨b, off, rfl, hbl, hc0⟩ := (HA.out.below hBr).at_ hkl
      obtain ⟨b', off', rfl, hbl', hc1⟩ := (HB.out.below hBr).at_ hkm
      have hbs : b < wr.heap.size := Nat.lt_of_lt_of_le hbl hBr.size
      have hbs' : b' < wr.heap.size := Nat.lt_of_lt_of_le hbl' hBr.size
      by_cases he : x[k]?.getD false = y[k]?.getD false
      · have hs2 := same_snoc HS.out (at_same hkl hkm he)
        have HS2 := Lib.hid hs2; clear hs2
        rw [he] at hc0
        clear he
        generalize y[k]?.getD false = v at *
        clear hkl hkm
        go_wp2
        go_quiet (fail)
        go_wp2
        go_roundw
        case rel => exact ⟨k + 1, by omega, by go_num, HS2.out, below_drewN hBr _⟩
        case measure => simp [intOf]; omega
      · obtain rfl : R = false := by rw [HR.out]; simp; rintro rfl; exact he rfl
        generalize x[k]?.getD false = u at *
        generalize y[k]?.getD false = v at *
        have d1 : (u != v) = true := by simpa using he
        have d2 : (u == v) = false := by simpa using he
        cases u <;> cases v
        · exact absurd rfl he
        rotate_right
        · exact absurd rfl he
        all_goals
          clear he hkl hkm
          go_wp2
          go_quiet (fail)
          go_wp2
          go_ret
          exact ⟨rfl, below_drewN hBr _⟩
    · obtain rfl : R = true := by rw [HR.out]; exact decide_eq_true (same_whole HS.out (by have := HN.out; omega) (by have := HM.out; omega))
      go_wp2
      go_ret
      exact ⟨rfl, hBr⟩
end Go.Proofs.YtnmaelefcohogaaDoor
