/-
  What the statements of package crc begin with: the sum of one bit, and of nothing; how many strings are few. Condition: that the table holds what the program's text lays.
-/
import Derived.Test.YtlmlbpnjkkfiaaaDoorC5
namespace Go.Proofs.YtlmlbpnjkkfiaaaDoor
open Go.RowKit

theorem one_bvs {w : World} {g : Nat} {x : BV} (h : Blk w g 32 #[.int .i64 x.N, .slice x.A x.n x.c]) : BVs w.heap.size w (some ⟨g, 0, none⟩) [x] := fun _ =>
  ⟨g, 0, rfl, h.lt, fun j z hj => by
    match j, hj with
    | 0, hj => simp at hj; subst hj; exact ⟨h.cell 0, h.cell 1⟩
    | j + 1, hj => simp at hj⟩
theorem one_sum (x : BV) (h : goodB x.N x.bs = true) : sumS [x] = (0, rem 0 (listOf x.N x.bs)) := by
  unfold sumS allGood cat
  simp [h, lst]
theorem begun_sum {bs : List UInt8} (h : IsBits [false, true] bs) (A : Option Addr) (n c : Nat) : sumS [⟨2, A, n, c, bs⟩] = (0, 6122955) := by
  have h1 := isBits_good h (by decide)
  have h2 := isBits_listOf h
  rw [one_sum _ h1]
  change (0, rem 0 (listOf ((2 : Nat) : Int) bs)) = _
  rw [show ((2 : Nat) : Int) = (([false, true] : List Bool).length : Nat) from rfl, h2]
  rfl

set_option maxHeartbeats 1000000 in
theorem begun_any (w : World) (hT : Tab w) : Calls Tryd.prog 9 #[] w fun e w' => e = .returned (.bool true) ∧ Below w.heap.size w w' := by
  have hpa := rparse_any ⟨#[48, 49]⟩ w (by decide)
  rw [show parseS (⟨#[48, 49]⟩ : ByteArray).data.toList = (0, [false, true]) from by decide] at hpa
  have HPA := Lib.hid hpa; have HT := Lib.hid hT; clear hpa hT
  go_enter Tryd.func9, Tryd.ntmps9
  go_wp2_with fail
  refine HPA.out.mono ?_
  rintro e w1 ⟨A1, n1, c1, bs1, rfl, hn1, his1, hl1, hA1, hB1, hF1⟩
  dsimp only at *
  have hb1 : Below w.heap.size w ((w1.alloc (.cells #[.int .i64 2, .slice A1 n1 c1] 32)).alloc (.cells #[.int .i64 2, .slice A1 n1 c1] 32)) := (hB1.alloc hB1.size _).alloc (by have := hB1.size; simp; omega) _
  have hk : Blk ((w1.alloc (.cells #[.int .i64 2, .slice A1 n1 c1] 32)).alloc (.cells #[.int .i64 2, .slice A1 n1 c1] 32)) (w1.heap.size + 1) 32 #[.int .i64 2, .slice A1 n1 c1] := by
    simpa using Blk.new (w1.alloc (.cells #[.int .i64 2, .slice A1 n1 c1] 32)) 32 #[.int .i64 2, .slice A1 n1 c1]
  have hbb : Below w1.heap.size w1 ((w1.alloc (.cells #[.int .i64 2, .slice A1 n1 c1] 32)).alloc (.cells #[.int .i64 2, .slice A1 n1 c1] 32)) := ((Below.refl _ _).alloc (Nat.le_refl _) _).alloc (by simp) _
  have hsm := bytes_small his1 hl1
  have hs := sum_any (some ⟨w1.heap.size + 1, 0, none⟩) 1 1 [⟨2, A1, n1, c1, bs1⟩] _ rfl (by decide) (one_bvs hk) (fun x hx => by
      simp at hx
      subst hx
      exact ⟨hn1, by rw [hn1]; exact hsm, (hA1.below hbb).mono hbb.size⟩) (HT.out.below hb1 (.inl (Nat.le_refl _)))
  rw [begun_sum his1] at hs
  have HS := Lib.hid hs
  have HN1 := Lib.hid hn1; clear hs hn1 hk hbb hsm
  go_wp2_with fail
  refine HS.out.mono ?_
  rintro e w2 ⟨rfl, hB2⟩
  dsimp only
  have hb2 := hb1.trans (hB2.mono (by have := hb1.size; simp at *; omega))
  have hs2 := sum_any none 0 0 [] w2 rfl (by decide) (fun h => absurd rfl h) (fun x hx => by cases hx) (HT.out.below hb2 (.inl (Nat.le_refl _)))
  have HS2 := Lib.hid hs2; clear hs2
  go_wp2_with fail
  refine HS2.out.mono ?_
  rintro e w3 ⟨rfl, hB3⟩
  dsimp only [sumS, allGood, cat]
  go_wp2
  go_ret
  exact ⟨rfl, hb2.trans (hB3.mono hb2.size)⟩

set_option maxHeartbeats 400000 in
theorem few_any (X : Option Addr) (xn xc : Nat) (w : World) (hxm : xn ≤ maxLen) : Calls Tryd.prog 10 #[.slice X xn xc] w fun e w' => e = .returned (.bool (decide (xn ≤ 20))) ∧ w = w' := by
  unfold maxLen at hxm
  have : decide (xn ≤ 20) = decide ((xn : Int) ≤ 20) := by rw [decide_eq_decide]; omega
  rw [this]
  clear this
  go_enter Tryd.func10, Tryd.ntmps10
  go_wp2
  go_ret
  exact ⟨rfl, rfl⟩
end Go.Proofs.YtlmlbpnjkkfiaaaDoor
