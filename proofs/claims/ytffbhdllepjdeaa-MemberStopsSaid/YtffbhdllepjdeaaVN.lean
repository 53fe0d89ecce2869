/-
  slices.Equal and slices.Index over numbers, and what stands behind a lost frame (begun of layer 9). Conditions: those that the theorems name.
-/
import Derived.Test.YtffbhdllepjdeaaVM
namespace Go.Proofs.Ytffbhdllepjdeaa
open Go.RowKit

set_option maxHeartbeats 1000000 in
/-- slices.Equal, of two lists of numbers that are the same. -/
theorem zsame_yes (A A' : Option Addr) (c c' n : Nat) (l : List Int) (w : World) (hn : n = l.length) (hm : n ≤ maxLen) (hA : Ints w.heap.size w A l) (hA' : Ints w.heap.size w A' l) :
    Calls Try.prog 21 #[.slice A n c, .slice A' n c'] w fun e w' => e = .returned (.bool true) ∧ Below w.heap.size w w' := by
  unfold maxLen at hm
  have HN := Lib.hid hn; clear hn
  go_enter Try.func21, Try.ntmps21
  go_wp2
  go_loopw [13] (fun i wr => ∃ (k q : Nat), k ≤ n ∧ i = .int .i64 k ∧ wr = w.drewN q)
    (fun i _ => n - (intOf i).toNat)
  case atStart => exact ⟨0, 0, by omega, rfl, rfl⟩
  case round =>
    obtain ⟨k, q, hk, rfl, rfl⟩ := hrel
    by_cases hlt : k < n
    · obtain ⟨b, off, rfl, _, hcell⟩ := hA.at_ (k := k) (by have := HN.out; omega)
      obtain ⟨b', off', rfl, _, hcell'⟩ := hA'.at_ (k := k) (by have := HN.out; omega)
      have hki : (k : Int) < (n : Int) := by omega
      generalize l[k]?.getD 0 = x at *
      go_wp2
      go_quiet (fail)
      go_wp2
      go_roundw
      case rel => exact ⟨k + 1, _, by omega, by go_num, rfl⟩
      case measure => simp [intOf]; omega
    · go_wp2
      go_ret
      exact ⟨rfl, below_drewN (Below.refl _ _) _⟩

/-- The place of a number in a list, or -1. -/
def idxZ (l : List Int) (v : Int) : Int := match l.findIdx? (· == v) with
  | some i => (i : Int)
  | none => -1
theorem idx_at {l : List Int} {v : Int} {k : Nat} (hk : k < l.length) (hb : ∀ j, j < k → (l[j]?.getD 0 == v) = false) (h : (l[k]?.getD 0 == v) = true) : idxZ l v = k := by
  unfold idxZ
  have : l.findIdx? (· == v) = some k := by
    rw [List.findIdx?_eq_some_iff_getElem]
    refine ⟨hk, by simpa [hk] using h, fun j hj => ?_⟩
    have hjl : j < l.length := by omega
    simpa [hjl] using hb j hj
  rw [this]
theorem idx_no {l : List Int} {v : Int} (hb : ∀ j, j < l.length → (l[j]?.getD 0 == v) = false) : idxZ l v = -1 := by
  unfold idxZ
  have : l.findIdx? (· == v) = none := by
    rw [List.findIdx?_eq_none_iff]
    intro x hx
    obtain ⟨j, hj, rfl⟩ := List.getElem_of_mem hx
    simpa [hj] using hb j hj
  rw [this]

set_option maxHeartbeats 1000000 in
/-- slices.Index, over numbers. -/
theorem zindex_any (A : Option Addr) (c n : Nat) (l : List Int) (v : Int) (w : World) (hn : n = l.length) (hm : n ≤ maxLen) (hA : Ints w.heap.size w A l) :
    Calls Try.prog 32 #[.slice A n c, .int .i64 v] w fun e w' => e = .returned (.int .i64 (idxZ l v)) ∧ Below w.heap.size w w' := by
  unfold maxLen at hm
  have HN := Lib.hid hn; clear hn
  obtain ⟨r, hr⟩ : ∃ r, r = idxZ l v := ⟨_, rfl⟩
  rw [← hr]
  have HR := Lib.hid hr; clear hr
  go_enter Try.func32, Try.ntmps32
  go_wp2
  go_loopw [8] (fun i wr => ∃ k : Nat, k ≤ n ∧ i = .int .i64 k ∧ (∀ j, j < k → (l[j]?.getD 0 == v) = false) ∧ wr = w)
    (fun i _ => n - (intOf i).toNat)
  case atStart => exact ⟨0, by omega, rfl, fun j hj => absurd hj (by omega), rfl⟩
  case round =>
    obtain ⟨k, hk, rfl, hno, rfl⟩ := hrel
    have HNO := Lib.hid hno; clear hno
    by_cases hlt : k < n
    · obtain ⟨b, off, rfl, _, hcell⟩ := hA.at_ (k := k) (by have := HN.out; omega)
      have hki : (k : Int) < (n : Int) := by omega
      obtain ⟨x, hx⟩ : ∃ x, x = l[k]?.getD 0 := ⟨_, rfl⟩
      rw [← hx] at hcell
      have HX := Lib.hid hx; clear hx
      by_cases hv : v = x
      · have hq : r = k := by
          rw [HR.out]
          exact idx_at (by have := HN.out; omega) HNO.out (by rw [← HX.out, hv]; simp)
        subst hv hq
        go_wp2
        go_ret
        exact ⟨rfl, Below.refl _ _⟩
      · have hd : (v == x) = false := by simpa using hv
        go_wp2
        go_roundw
        case rel =>
          refine ⟨k + 1, by omega, by go_num, fun j hj => ?_, by first | rfl | trivial⟩
          rcases Nat.lt_or_ge j k with h | h
          · exact HNO.out j h
          · obtain rfl : j = k := by omega
            rw [← HX.out]
            simpa using fun e => hv e.symm
        case measure => simp [intOf]; omega
    · have hq : r = -1 := by
        rw [HR.out]
        exact idx_no (fun j hj => HNO.out j (by have := HN.out; omega))
      subst hq
      go_wp2
      go_ret
      exact ⟨rfl, Below.refl _ _⟩

theorem begun_new : newV 0 4 15 = (0, ⟨0, 4, 15, 0, 0, 0, 0⟩) := by kernel_rfl
theorem begun_own : ownV ⟨0, 4, 15, 1, 0, 0, 0⟩ = (0, 1, ⟨0, 4, 15, 1, 0, 1, 0⟩) := by kernel_rfl
theorem begun_good1 : goodV ⟨0, 4, 15, 1, 0, 1, 0⟩ 1 1 = (0, ⟨0, 4, 15, 1, 0, 2, 1⟩) := by kernel_rfl
theorem begun_good2 : goodV ⟨0, 4, 15, 1, 0, 2, 1⟩ 2 1 = (0, ⟨0, 4, 14, 2, 1, 0, 0⟩) := by kernel_rfl
theorem begun_in : inV ⟨0, 4, 14, 2, 1, 0, 0⟩ = false := by kernel_rfl

set_option maxRecDepth 8000 in
set_option maxHeartbeats 4000000 in
theorem begunV_any (w : World) : Calls Try.prog 16 #[] w fun e w' => e = .returned (.bool true) ∧ Below w.heap.size w w' := by
  have h1 := fun W => vnew_any 0 4 15 W
  have h2 := fun W => vown_any ⟨0, 4, 15, 1, 0, 0, 0⟩ W
  have h3 := fun W => vgood_any ⟨0, 4, 15, 1, 0, 1, 0⟩ 1 1 W
  have h4 := fun W => vgood_any ⟨0, 4, 15, 1, 0, 2, 1⟩ 2 1 W
  have h5 := fun W => vin_any ⟨0, 4, 14, 2, 1, 0, 0⟩ W
  rw [begun_new] at h1; rw [begun_own] at h2; rw [begun_good1] at h3; rw [begun_good2] at h4; rw [begun_in] at h5
  unfold ResV ResO MV.cells at *
  dsimp only at *
  have H1 := Lib.hid h1; have H2 := Lib.hid h2; have H3 := Lib.hid h3; have H4 := Lib.hid h4; have H5 := Lib.hid h5; clear h1 h2 h3 h4 h5
  have bc := Below.refl w.heap.size w
  go_enter Try.func16, Try.ntmps16
  go_wp2_with fail
  refine (H1.out _).mono ?_
  rintro e w1 ⟨rfl, hC⟩
  dsimp only
  replace bc := bc.trans (hC.mono bc.size); clear hC
  have zb_km := bc.size
  have km := Blk.new w1 23 #[.int .i64 0, .int .i64 4, .int .i64 15, .int .i64 1, .int .i64 0, .int .i64 0, .int .i64 0]
  have al := Below.al w1 (.cells #[.int .i64 0, .int .i64 4, .int .i64 15, .int .i64 1, .int .i64 0, .int .i64 0, .int .i64 0] 23)
  replace bc := bc.trans (al.mono bc.size); clear al
  go_wp2_with fail
  generalize w1.alloc (.cells #[.int .i64 0, .int .i64 4, .int .i64 15, .int .i64 1, .int .i64 0, .int .i64 0, .int .i64 0] 23) = u1 at *
  generalize w1.heap.size = g1 at *
  refine (H2.out _).mono ?_
  rintro e w2 ⟨rfl, hC⟩
  dsimp only
  replace km := km.on hC; replace bc := bc.trans (hC.mono bc.size); clear hC
  obtain ⟨⟨pkm_0, pkm_1, pkm_2, pkm_3, pkm_4, pkm_5, pkm_6⟩, pkm_0f, pkm_1f, pkm_2f, pkm_3f, pkm_4f, pkm_5f, pkm_6f⟩ := km.seven
  have hG := st7 w2 (g1) (.int .i64 0) (.int .i64 4) (.int .i64 15) (.int .i64 1) (.int .i64 0) (.int .i64 1) (.int .i64 0)
  replace bc := Below.off bc bc.size (by omega) hG; replace km := km.put7 (.int .i64 0) (.int .i64 4) (.int .i64 15) (.int .i64 1) (.int .i64 0) (.int .i64 1) (.int .i64 0); clear hG
  go_wp2_with fail
  clear pkm_0 pkm_1 pkm_2 pkm_3 pkm_4 pkm_5 pkm_6 pkm_0f pkm_1f pkm_2f pkm_3f pkm_4f pkm_5f pkm_6f
  generalize ((((((w2.setCell ⟨g1, 0, none⟩ (.int .i64 0)).setCell ⟨g1, 1, none⟩ (.int .i64 4)).setCell ⟨g1, 2, none⟩ (.int .i64 15)).setCell ⟨g1, 3, none⟩ (.int .i64 1)).setCell ⟨g1, 4, none⟩ (.int .i64 0)).setCell ⟨g1, 5, none⟩ (.int .i64 1)).setCell ⟨g1, 6, none⟩ (.int .i64 0) = u2 at *
  refine (H3.out _).mono ?_
  rintro e w3 ⟨rfl, hC⟩
  dsimp only
  replace km := km.on hC; replace bc := bc.trans (hC.mono bc.size); clear hC
  obtain ⟨⟨pkm_0, pkm_1, pkm_2, pkm_3, pkm_4, pkm_5, pkm_6⟩, pkm_0f, pkm_1f, pkm_2f, pkm_3f, pkm_4f, pkm_5f, pkm_6f⟩ := km.seven
  have hG := st7 w3 (g1) (.int .i64 0) (.int .i64 4) (.int .i64 15) (.int .i64 1) (.int .i64 0) (.int .i64 2) (.int .i64 1)
  replace bc := Below.off bc bc.size (by omega) hG; replace km := km.put7 (.int .i64 0) (.int .i64 4) (.int .i64 15) (.int .i64 1) (.int .i64 0) (.int .i64 2) (.int .i64 1); clear hG
  go_wp2_with fail
  clear pkm_0 pkm_1 pkm_2 pkm_3 pkm_4 pkm_5 pkm_6 pkm_0f pkm_1f pkm_2f pkm_3f pkm_4f pkm_5f pkm_6f
  generalize ((((((w3.setCell ⟨g1, 0, none⟩ (.int .i64 0)).setCell ⟨g1, 1, none⟩ (.int .i64 4)).setCell ⟨g1, 2, none⟩ (.int .i64 15)).setCell ⟨g1, 3, none⟩ (.int .i64 1)).setCell ⟨g1, 4, none⟩ (.int .i64 0)).setCell ⟨g1, 5, none⟩ (.int .i64 2)).setCell ⟨g1, 6, none⟩ (.int .i64 1) = u3 at *
  refine (H4.out _).mono ?_
  rintro e w4 ⟨rfl, hC⟩
  dsimp only
  replace km := km.on hC; replace bc := bc.trans (hC.mono bc.size); clear hC
  obtain ⟨⟨pkm_0, pkm_1, pkm_2, pkm_3, pkm_4, pkm_5, pkm_6⟩, pkm_0f, pkm_1f, pkm_2f, pkm_3f, pkm_4f, pkm_5f, pkm_6f⟩ := km.seven
  have hG := st7 w4 (g1) (.int .i64 0) (.int .i64 4) (.int .i64 14) (.int .i64 2) (.int .i64 1) (.int .i64 0) (.int .i64 0)
  replace bc := Below.off bc bc.size (by omega) hG; replace km := km.put7 (.int .i64 0) (.int .i64 4) (.int .i64 14) (.int .i64 2) (.int .i64 1) (.int .i64 0) (.int .i64 0); clear hG
  go_wp2_with fail
  clear pkm_0 pkm_1 pkm_2 pkm_3 pkm_4 pkm_5 pkm_6 pkm_0f pkm_1f pkm_2f pkm_3f pkm_4f pkm_5f pkm_6f
  generalize ((((((w4.setCell ⟨g1, 0, none⟩ (.int .i64 0)).setCell ⟨g1, 1, none⟩ (.int .i64 4)).setCell ⟨g1, 2, none⟩ (.int .i64 14)).setCell ⟨g1, 3, none⟩ (.int .i64 2)).setCell ⟨g1, 4, none⟩ (.int .i64 1)).setCell ⟨g1, 5, none⟩ (.int .i64 0)).setCell ⟨g1, 6, none⟩ (.int .i64 0) = u4 at *
  refine (H5.out _).mono ?_
  rintro e w5 ⟨rfl, hC⟩
  dsimp only
  replace km := km.on hC; replace bc := bc.trans (hC.mono bc.size); clear hC
  go_wp2
  go_ret
  exact ⟨rfl, bc⟩
end Go.Proofs.Ytffbhdllepjdeaa
