/-
  Sum of package crc answers as the document says, for all lists of bits. Conditions: that the lists and the bytes can be read, and that the table holds what the program's text lays.
-/
import Derived.Test.YtlmlbpnjkkfiaaaDoorC2
namespace Go.Proofs.YtlmlbpnjkkfiaaaDoor
open Go.RowKit

/-- Sum, by the document. -/
def sumS (xs : List BV) : Int × Nat := if allGood xs = true then (0, rem 0 (cat xs)) else (10, 0)
/-- What it answers. -/
def Sm (w : World) (r : Int × Nat) (e : Ending) (w' : World) : Prop := e = .returned (.tuple #[.int .u32 r.2, .int .i64 r.1]) ∧ Below w.heap.size w w'
theorem sumS_lt (xs : List BV) : (sumS xs).2 < 2 ^ 24 := by
  unfold sumS
  split
  · exact rem_lt _ _ (by decide)
  · simp
theorem good_at {xs : List BV} (h : allGood xs = true) {k : Nat} {x : BV} (hx : xs[k]? = some x) : goodB x.N x.bs = true := by
  unfold allGood at h; rw [List.all_eq_true] at h; exact h x (List.mem_of_getElem? hx)
theorem lst_good {N : Int} {bs : List UInt8} (h : goodB N bs = true) : lst N bs = listOf N bs := by simp [lst, h]

set_option maxHeartbeats 1000000 in
theorem sum_any (X : Option Addr) (xn xc : Nat) (xs : List BV) (w : World) (hxn : xn = xs.length) (hxm : xn ≤ maxLen) (hX : BVs w.heap.size w X xs) (hok : ∀ x ∈ xs, BVok w.heap.size w x) (hT : Tab w) :
    Calls Tryd.prog 11 #[.slice X xn xc] w (Sm w (sumS xs)) := by
  unfold maxLen at hxm
  have HXN := Lib.hid hxn; have HX := Lib.hid hX; have HOK := Lib.hid hok; have HT := Lib.hid hT; clear hxn hX hok hT
  obtain ⟨R, hR⟩ : ∃ R, R = sumS xs := ⟨_, rfl⟩
  rw [← hR]
  have HR := Lib.hid hR; clear hR
  go_enter Tryd.func11, Tryd.ntmps11
  go_wp2
  go_loopw [11] (fun i wr => ∃ k : Nat, k ≤ xn ∧ i = .int .i64 k ∧ allGood (xs.take k) = true ∧ Below w.heap.size w wr)
    (fun i _ => xn - (intOf i).toNat)
  case atStart => exact ⟨0, by omega, rfl, rfl, Below.refl _ _⟩
  case round =>
    obtain ⟨k, hk, rfl, hall, hBr⟩ := hrel
    have HALL := Lib.hid hall; clear hall
    by_cases hlt : k < xn
    · obtain ⟨x, hx⟩ : ∃ x, xs[k]? = some x := ⟨_, List.getElem?_eq_getElem (by have := HXN.out; omega)⟩
      obtain ⟨b, off, rfl, hbl, hc0, hc1⟩ := HX.out.at_ hBr hx
      have hgs := good_snoc (xs.take k) x
      rw [← take_snoc_bv xs k x hx] at hgs
      have hgn := good_not xs k x hx
      have hxo := HOK.out x (List.mem_of_getElem? hx)
      have hBa := fun o => hBr.alloc hBr.size o
      have hck := fun (o : Obj) => check_any x.N x.A x.n x.c x.bs (wr.alloc o) hxo.1 hxo.2.1 ((hxo.2.2.below (hBa o)).mono (hBa o).size)
      by_cases hgx : goodB x.N x.bs = true
      · rw [chk_yes hgx] at hck
        rw [hgx, HALL.out] at hgs
        have HCK := Lib.hid hck; have HGS := Lib.hid hgs
        clear hck hgs hgn hgx hx hxo hBa
        go_wp2_with (go_at_call 25; refine (HCK.out _).mono ?_; rintro e w2 ⟨rfl, hB2⟩)
        go_roundw
        case rel => exact ⟨k + 1, by omega, by go_num, HGS.out, (hBr.alloc hBr.size _).trans (hB2.mono (by have := hBr.size; simp; omega))⟩
        case measure => simp [intOf]; omega
      · rw [chk_no (by simpa using hgx)] at hck
        have hr := hgn (by simpa using hgx)
        have HCK := Lib.hid hck; have HG := Lib.hid hr
        clear hck hgs hgn hgx hx hr hxo hBa
        go_wp2_with (go_at_call 25; refine (HCK.out _).mono ?_; rintro e w2 ⟨rfl, hB2⟩)
        go_ret2
        rw [HR.out, show sumS xs = (10, 0) by unfold sumS; rw [HG.out]; rfl]
        exact ⟨rfl, (hBr.alloc hBr.size _).trans (hB2.mono (by have := hBr.size; simp; omega))⟩
    · have hgood := HALL.out
      rw [List.take_of_length_le (by have := HXN.out; omega)] at hgood
      have HGD := Lib.hid hgood; clear hgood
      go_wp2
      go_loopw [6, 21] (fun sv i wr2 => ∃ k : Nat, k ≤ xn ∧ i = .int .i64 k ∧ sv = .int .u32 (rem 0 (cat (xs.take k)) : Nat) ∧ Below w.heap.size w wr2)
        (fun _ i _ => xn - (intOf i).toNat)
      case atStart => exact ⟨0, by omega, rfl, rfl, hBr⟩
      case round =>
        clear hBr HALL hlt hk
        obtain ⟨k2, hk, rfl, rfl, hBr⟩ := hrel
        by_cases hlt : k2 < xn
        · obtain ⟨x, hx⟩ : ∃ x, xs[k2]? = some x := ⟨_, List.getElem?_eq_getElem (by have := HXN.out; omega)⟩
          obtain ⟨b, off, rfl, hbl, hc0, hc1⟩ := HX.out.at_ hBr hx
          have hgx := good_at HGD.out hx
          have hcs := cat_snoc (xs.take k2) x
          rw [← take_snoc_bv xs k2 x hx, lst_good hgx] at hcs
          have hxo := HOK.out x (List.mem_of_getElem? hx)
          have hBa := fun o => hBr.alloc hBr.size o
          have hrl := rem_lt (cat (xs.take k2)) 0 (by decide)
          have hmo : rem 0 (cat (xs.take (k2 + 1))) = rem (rem 0 (cat (xs.take k2))) (listOf x.N x.bs) := by rw [hcs]; exact crcOver_append _ _ _ _
          generalize rem 0 (cat (xs.take k2)) = s at *
          have hbe := fun (o : Obj) => behind_any s x.N x.A x.n x.c x.bs (wr.alloc o) hrl hgx hxo.1 hxo.2.1 ((hxo.2.2.below (hBa o)).mono (hBa o).size) (HT.out.below (hBa o) (.inl (Nat.le_refl _)))
          have HBE := Lib.hid hbe; have HMO := Lib.hid hmo
          clear hbe hmo hgx hcs hx hxo hBa
          generalize rem s (listOf x.N x.bs) = y at *
          go_wp2_with (go_at_call 26; refine (HBE.out _).mono ?_; rintro e w2 ⟨rfl, hB2⟩)
          go_roundw
          case rel => exact ⟨k2 + 1, by omega, by go_num, by rw [HMO.out], (hBr.alloc hBr.size _).trans (hB2.mono (by have := hBr.size; simp; omega))⟩
          case measure => simp [intOf]; omega
        · have htk : xs.take k2 = xs := List.take_of_length_le (by have := HXN.out; omega)
          rw [htk]
          go_wp2
          go_ret2
          rw [HR.out, show sumS xs = (0, rem 0 (cat xs)) by unfold sumS; rw [HGD.out]; rfl]
          exact ⟨rfl, hBr⟩
end Go.Proofs.YtlmlbpnjkkfiaaaDoor
