/-
  Contracts of dataCount and kindOf of package frame: how many bytes of Data there are in bits, and which Kind they tell. Conditions: that the bits can be read.
-/
import Derived.Test.YtcfbeelljhjnoaaDoorN2
import Derived.Test.YtcfbeelljhjnoaaDoorNA
import Derived.Test.YtcfbeelljhjnoaaDoorNQ
namespace Go.Proofs.YtcfbeelljhjnoaaDoor
open Go.RowKit

theorem sizeF_small (k d : Int) : 0 ≤ sizeF k d ∧ sizeF k d ≤ 200 := by
  unfold sizeF
  split
  · split
    · split <;> omega
    · split
      · omega
      · split
        · split <;> omega
        · split <;> omega
  · omega
theorem tdiv_small {x : Int} (h : -5000 ≤ x ∧ x ≤ 5000) : -5000 ≤ x.tdiv 8 ∧ x.tdiv 8 ≤ 5000 := by
  rcases Int.le_total 0 x with h0 | h0
  · rw [Int.tdiv_eq_ediv_of_nonneg h0]; omega
  · have h1 : x.tdiv 8 = -((-x).tdiv 8) := by rw [Int.neg_tdiv, Int.neg_neg]
    rw [h1, Int.tdiv_eq_ediv_of_nonneg (by omega)]; omega
set_option maxRecDepth 8000 in
set_option maxHeartbeats 2000000 in
theorem dataCount_any (N k : Int) (A : Option Addr) (n c : Nat) (w : World) (hN : 0 ≤ N ∧ N ≤ 4096) :
    Calls Tryd.prog 73 #[.agg #[.int .i64 N, .slice A n c], .int .i64 k] w fun e w' => e = .returned (.int .i64 ((N - sizeF k 0).tdiv 8)) ∧ Below w.heap.size w w' := by
  obtain ⟨kb, bc⟩ := bx1 w #[.int .i64 N, .slice A n c] 28
  have hz := sizeF_small k 0
  have hs := fun (W : World) => size_any k 0 W
  generalize sizeF k 0 = Z at *
  have hw1 : IntKind.i64.wrap (N - Z) = N - Z := IntWalk.i64_in _ (by omega)
  have ht := tdiv_small (x := N - Z) (by omega)
  have hw2 : IntKind.i64.wrap ((N - Z).tdiv 8) = (N - Z).tdiv 8 := IntWalk.i64_in _ (by omega)
  have HS := Lib.hid hs; clear hs ht hz hN
  go_enter Tryd.func73, Tryd.ntmps73
  go_wp2_with fail
  generalize w.alloc (.cells #[.int .i64 N, .slice A n c] 28) = u at *
  have hdr : Below u.heap.size u u.drew := (Below.refl _ _).drew
  replace kb := kb.on hdr
  replace bc := bc.trans (hdr.mono bc.size)
  clear hdr
  obtain ⟨p0, p1, -, -⟩ := kb.two
  go_region_law (go_simp; go_at_call 13; refine (HS.out _).mono ?_; rintro e w5 ⟨rfl, hC⟩; dsimp only; replace kb := kb.on hC; replace bc := bc.trans (hC.mono bc.size); clear hC; obtain ⟨p0, p1, -, -⟩ := kb.two)
  all_goals
    go_wp2
    go_ret
    exact ⟨rfl, bc⟩
theorem kindL_le (L : List Bool) : 1 ≤ kindL L ∧ kindL L ≤ 4 := by
  unfold kindL
  have h := numOf_lt (L.take 2)
  have h2 : 2 ^ (L.take 2).length ≤ 2 ^ 2 := Nat.pow_le_pow_right (by decide) (List.length_take_le _ _)
  omega
theorem long_iff (k n : Nat) (hk : 1 ≤ k ∧ k ≤ 4) (hn : 2 ≤ n) : ((n : Int) == sizeF k (((n : Int) - sizeF k 0).tdiv 8)) = longF k n := by
  rw [Bool.eq_iff_iff]
  rw [beq_iff_eq]
  unfold longF
  rw [decide_eq_true_eq]
  have hd : ∀ x : Int, x.tdiv 8 = if 0 ≤ x then x / 8 else -((-x) / 8) := fun x => by
    split
    · rw [Int.tdiv_eq_ediv_of_nonneg (by omega)]
    · have h1 : x.tdiv 8 = -((-x).tdiv 8) := by rw [Int.neg_tdiv, Int.neg_neg]
      rw [h1, Int.tdiv_eq_ediv_of_nonneg (by omega)]
  rcases (show k = 1 ∨ k = 2 ∨ k = 3 ∨ k = 4 by omega) with rfl | rfl | rfl | rfl
  · have h0 : sizeF ((1 : Nat) : Int) 0 = 40 := by decide
    rw [h0, hd]
    unfold sizeF
    repeat' split
    all_goals omega
  · have h0 : sizeF ((2 : Nat) : Int) 0 = 29 := by decide
    rw [h0, hd]
    unfold sizeF
    repeat' split
    all_goals omega
  · have h0 : sizeF ((3 : Nat) : Int) 0 = 54 := by decide
    rw [h0, hd]
    unfold sizeF
    repeat' split
    all_goals omega
  · have h0 : sizeF ((4 : Nat) : Int) 0 = 79 := by decide
    rw [h0, hd]
    unfold sizeF
    repeat' split
    all_goals omega
theorem long_short (k n : Nat) (hn : n < 2) : longF k n = false := by
  unfold longF; rw [decide_eq_false_iff_not]; omega
end Go.Proofs.YtcfbeelljhjnoaaDoor
