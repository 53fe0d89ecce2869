/-
  Seal of package crc, and the document's: both answer as the document says, for all bits. Conditions: that the bytes can be read, and (package crc) that the table holds what the program's text lays.
-/
import Derived.Test.YtlmlbpnjkkfiaaaDoorC4
namespace Go.Proofs.YtlmlbpnjkkfiaaaDoor
open Go.RowKit

theorem pair_bvs {w : World} {g : Nat} {x y : BV} (h : Blk w g 32 #[.int .i64 x.N, .slice x.A x.n x.c, .int .i64 y.N, .slice y.A y.n y.c]) : BVs w.heap.size w (some ⟨g, 0, none⟩) [x, y] := fun _ =>
  ⟨g, 0, rfl, h.lt, fun j z hj => by
    match j, hj with
    | 0, hj => simp at hj; subst hj; exact ⟨h.cell 0, h.cell 1⟩
    | 1, hj => simp at hj; subst hj; exact ⟨h.cell 2, h.cell 3⟩
    | j + 2, hj => simp at hj⟩
theorem pair_sum (x y : BV) : sumS [x, y] = if goodB x.N x.bs = true ∧ goodB y.N y.bs = true then (0, rem 0 (listOf x.N x.bs ++ listOf y.N y.bs)) else (10, 0) := by
  unfold sumS allGood cat
  by_cases h1 : goodB x.N x.bs = true <;> by_cases h2 : goodB y.N y.bs = true <;> simp [h1, h2, lst]
/-- Seal, by the document. -/
def sealS (N : Int) (bs : List UInt8) (M : Int) (us : List UInt8) : Int × List Bool :=
  if goodB M us = true ∧ goodB N bs = true then putS N bs (rem 0 (listOf M us ++ listOf N bs)) 24 else (10, [])
/-- Three boxes laid by a call, behind a callee that keeps all that was there. -/
theorem boxes3 {w w1 : World} {a0 a1 b0 b1 c0 c1 : Value} (hB : Below (((w.alloc (.cells #[a0, a1] 32)).alloc (.cells #[b0, b1] 32)).alloc (.cells #[c0, c1] 32)).heap.size (((w.alloc (.cells #[a0, a1] 32)).alloc (.cells #[b0, b1] 32)).alloc (.cells #[c0, c1] 32)) w1) :
    Blk w1 w.heap.size 32 #[a0, a1] ∧ Blk w1 (w.heap.size + 1) 32 #[b0, b1] ∧ Blk w1 (w.heap.size + 1 + 1) 32 #[c0, c1] ∧ w.heap.size + 3 ≤ w1.heap.size ∧ Below w.heap.size w w1 := by
  have h1 : Blk (((w.alloc (.cells #[a0, a1] 32)).alloc (.cells #[b0, b1] 32)).alloc (.cells #[c0, c1] 32)) w.heap.size 32 #[a0, a1] := ((Blk.new w 32 _).alloc _).alloc _
  have h2 : Blk (((w.alloc (.cells #[a0, a1] 32)).alloc (.cells #[b0, b1] 32)).alloc (.cells #[c0, c1] 32)) (w.heap.size + 1) 32 #[b0, b1] := by
    refine Blk.alloc ?_ _
    simpa using Blk.new (w.alloc (.cells #[a0, a1] 32)) 32 #[b0, b1]
  have h3 : Blk (((w.alloc (.cells #[a0, a1] 32)).alloc (.cells #[b0, b1] 32)).alloc (.cells #[c0, c1] 32)) (w.heap.size + 1 + 1) 32 #[c0, c1] := by
    simpa using Blk.new ((w.alloc (.cells #[a0, a1] 32)).alloc (.cells #[b0, b1] 32)) 32 #[c0, c1]
  exact ⟨h1.below hB h1.lt, h2.below hB h2.lt, h3.below hB h3.lt, by have := hB.size; simpa using this, ((((Below.refl _ _).alloc (Nat.le_refl _) _).alloc (by simp) _).alloc (by simp; omega) _).trans (hB.mono (by simp; omega))⟩

/-- What a callee answered, stored in the box of the result. -/
theorem res_stored {w w1 w2 : World} {R : Int × List Bool} {A : Option Addr} {n c g : Nat} {bs : List UInt8} (hn : n = bs.length) (his : IsBits R.2 bs) (hl : R.2.length ≤ 4096) (hA : Byt w2.heap.size w2 A bs) (hB1 : Below w.heap.size w w1) (hB2 : Below w1.heap.size w1 w2) (hF : Fresh w1.heap.size A bs) (hg : w.heap.size ≤ g) (hg1 : g < w1.heap.size) :
    Res w R (.returned (.tuple #[.agg #[.int .i64 (R.2.length : Nat), .slice A n c], .int .i64 R.1])) ((w2.setCell ⟨g, 0, none⟩ (.int .i64 (R.2.length : Nat))).setCell ⟨g, 1, none⟩ (.slice A n c)) := by
  have hBw := hB1.trans (hB2.mono hB1.size)
  refine ⟨A, n, c, bs, rfl, hn, his, hl, ?_, (hBw.setCell (p := ⟨g, 0, none⟩) hg _).setCell (p := ⟨g, 1, none⟩) hg _, fun a ha hb => Nat.le_trans hB1.size (hF a ha hb)⟩
  have h2 := (hA.set_low hF (p := ⟨g, 0, none⟩) hg1 (.int .i64 (R.2.length : Nat))).set_low hF (p := ⟨g, 1, none⟩) hg1 (.slice A n c)
  simpa using h2

set_option maxHeartbeats 1000000 in
theorem seal_any (N : Int) (A : Option Addr) (n c : Nat) (bs : List UInt8) (M : Int) (B : Option Addr) (m d : Nat) (us : List UInt8) (w : World) (hn : n = bs.length) (hm : n ≤ maxLen) (hA : Byt w.heap.size w A bs) (hn' : m = us.length) (hm' : m ≤ maxLen) (hB : Byt w.heap.size w B us) (hT : Tab w) :
    Calls Tryd.prog 13 #[.agg #[.int .i64 N, .slice A n c], .agg #[.int .i64 M, .slice B m d]] w (Res w (sealS N bs M us)) := by
  have hsum := fun (w1 : World) (g : Nat) (h : Below w.heap.size w w1) (hb : Blk w1 g 32 #[.int .i64 M, .slice B m d, .int .i64 N, .slice A n c]) =>
    sum_any (some ⟨g, 0, none⟩) 2 2 [⟨M, B, m, d, us⟩, ⟨N, A, n, c, bs⟩] w1 rfl (by decide) (pair_bvs hb) (fun x hx => by
      simp at hx
      rcases hx with rfl | rfl
      · exact ⟨hn', hm', (hB.below h).mono h.size⟩
      · exact ⟨hn, hm, (hA.below h).mono h.size⟩) (hT.below h (.inl (Nat.le_refl _)))
  have hput := fun (w1 : World) (v : Nat) (h : Below w.heap.size w w1) (hv : v < 2 ^ 24) => put_any N 24 v A n c bs w1 hn hm ((hA.below h).mono h.size) (by omega)
  have hsl := sumS_lt [⟨M, B, m, d, us⟩, ⟨N, A, n, c, bs⟩]
  have hps := pair_sum ⟨M, B, m, d, us⟩ ⟨N, A, n, c, bs⟩
  dsimp only at hps
  have HS := Lib.hid hsum; have HP := Lib.hid hput; clear hsum hput hA hB hT hn hn'
  unfold maxLen at hm hm'
  generalize sumS [⟨M, B, m, d, us⟩, ⟨N, A, n, c, bs⟩] = S at *
  obtain ⟨S1, S2⟩ := S
  dsimp only at *
  unfold sealS
  by_cases hgood : goodB M us = true ∧ goodB N bs = true
  · rw [if_pos hgood] at hps ⊢
    injection hps with e1 e2
    rw [← e2]
    subst e1
    clear e2
    go_enter Tryd.func13, Tryd.ntmps13
    go_wp2_with fail
    have b3 : Below w.heap.size w (((w.alloc (.cells #[.int .i64 N, .slice A n c] 32)).alloc (.cells #[.int .i64 M, .slice B m d] 32)).alloc (.cells #[.int .i64 0, .slice none 0 0] 32)) := (((Below.refl _ _).alloc (Nat.le_refl _) _).alloc (by simp) _).alloc (by simp; omega) _
    refine (HS.out _ _ (b3.alloc (by simp; omega) _) (by simpa using Blk.new (((w.alloc (.cells #[.int .i64 N, .slice A n c] 32)).alloc (.cells #[.int .i64 M, .slice B m d] 32)).alloc (.cells #[.int .i64 0, .slice none 0 0] 32)) 32 #[.int .i64 M, .slice B m d, .int .i64 N, .slice A n c])).mono ?_
    rintro e w1 ⟨rfl, hB1⟩
    dsimp only
    obtain ⟨k1, k2, k3, hs1, hBw1⟩ := boxes3 (((Below.refl _ _).alloc (Nat.le_refl _) _).trans (hB1.mono (by simp)))
    obtain ⟨c1, c2, f1, f2⟩ := k1.two
    obtain ⟨c3, c4, f3, f4⟩ := k3.two
    have hlt : w.heap.size + 1 + 1 < w1.heap.size := by omega
    clear b3
    have hpu := HP.out w1 S2 hBw1 hsl
    generalize putS N bs S2 24 = R at *
    have HPU := Lib.hid hpu; clear hpu
    go_wp2_with fail
    refine HPU.out.mono ?_
    rintro e w2 ⟨A3, n3, c5, bs3, rfl, hn3, his3, hl3, hA3, hB3, hF3⟩
    have HN3 := Lib.hid hn3; clear hn3
    have q3 := k3.below hB3 k3.lt
    obtain ⟨d1, d2, g1, g2⟩ := q3.two
    have hlt3 := q3.lt
    go_wp2
    exact bodyPost_ret (v := .tuple #[.agg #[.int .i64 R.2.length, .slice A3 n3 c5], .int .i64 R.1]) (by simp [results, Tryd.results13, go_sem, d1, d2]) rfl
      (res_stored HN3.out his3 hl3 hA3 hBw1 hB3 hF3 (by omega) (by omega))
  · rw [if_neg hgood] at hps ⊢
    injection hps with e1 e2
    subst e1; subst e2
    clear hgood
    go_enter Tryd.func13, Tryd.ntmps13
    go_wp2_with fail
    have b3 : Below w.heap.size w (((w.alloc (.cells #[.int .i64 N, .slice A n c] 32)).alloc (.cells #[.int .i64 M, .slice B m d] 32)).alloc (.cells #[.int .i64 0, .slice none 0 0] 32)) := (((Below.refl _ _).alloc (Nat.le_refl _) _).alloc (by simp) _).alloc (by simp; omega) _
    refine (HS.out _ _ (b3.alloc (by simp; omega) _) (by simpa using Blk.new (((w.alloc (.cells #[.int .i64 N, .slice A n c] 32)).alloc (.cells #[.int .i64 M, .slice B m d] 32)).alloc (.cells #[.int .i64 0, .slice none 0 0] 32)) 32 #[.int .i64 M, .slice B m d, .int .i64 N, .slice A n c])).mono ?_
    rintro e w1 ⟨rfl, hB1⟩
    dsimp only
    obtain ⟨k1, k2, k3, hs1, hBw1⟩ := boxes3 (((Below.refl _ _).alloc (Nat.le_refl _) _).trans (hB1.mono (by simp)))
    obtain ⟨c3, c4, f3, f4⟩ := k3.two
    have hlt : w.heap.size + 1 + 1 < w1.heap.size := by omega
    clear b3
    go_wp2
    exact bodyPost_ret (v := .tuple #[.agg #[.int .i64 0, .slice none 0 0], .int .i64 10]) (by simp [results, Tryd.results13, go_sem, c3, c4]) rfl
      (res_err 10 ((hBw1.setCell (p := ⟨w.heap.size + 1 + 1, 0, none⟩) (by simp; omega) _).setCell (p := ⟨w.heap.size + 1 + 1, 1, none⟩) (by simp; omega) _))

set_option maxHeartbeats 1000000 in
theorem rseal_any (N : Int) (A : Option Addr) (n c : Nat) (bs : List UInt8) (M : Int) (B : Option Addr) (m d : Nat) (us : List UInt8) (w : World) (hn : n = bs.length) (hm : n ≤ maxLen) (hA : Byt w.heap.size w A bs) (hn' : m = us.length) (hm' : m ≤ maxLen) (hB : Byt w.heap.size w B us) :
    Calls Tryd.prog 14 #[.agg #[.int .i64 N, .slice A n c], .agg #[.int .i64 M, .slice B m d]] w (Res w (sealS N bs M us)) := by
  have hsum := fun (w1 : World) (g : Nat) (h : Below w.heap.size w w1) (hb : Blk w1 g 32 #[.int .i64 M, .slice B m d, .int .i64 N, .slice A n c]) =>
    rsum_any (some ⟨g, 0, none⟩) 2 2 [⟨M, B, m, d, us⟩, ⟨N, A, n, c, bs⟩] w1 rfl (by decide) (pair_bvs hb) (fun x hx => by
      simp at hx
      rcases hx with rfl | rfl
      · exact ⟨hn', hm', (hB.below h).mono h.size⟩
      · exact ⟨hn, hm, (hA.below h).mono h.size⟩)
  have hput := fun (w1 : World) (v : Nat) (h : Below w.heap.size w w1) (hv : v < 2 ^ 24) => rput_any N 24 v A n c bs w1 hn hm ((hA.below h).mono h.size) (by omega)
  have hsl := sumS_lt [⟨M, B, m, d, us⟩, ⟨N, A, n, c, bs⟩]
  have hps := pair_sum ⟨M, B, m, d, us⟩ ⟨N, A, n, c, bs⟩
  dsimp only at hps
  have HS := Lib.hid hsum; have HP := Lib.hid hput; clear hsum hput hA hB hn hn'
  unfold maxLen at hm hm'
  generalize sumS [⟨M, B, m, d, us⟩, ⟨N, A, n, c, bs⟩] = S at *
  obtain ⟨S1, S2⟩ := S
  dsimp only at *
  unfold sealS
  by_cases hgood : goodB M us = true ∧ goodB N bs = true
  · rw [if_pos hgood] at hps ⊢
    injection hps with e1 e2
    rw [← e2]
    subst e1
    clear e2
    go_enter Tryd.func14, Tryd.ntmps14
    go_wp2_with fail
    have b3 : Below w.heap.size w (((w.alloc (.cells #[.int .i64 N, .slice A n c] 32)).alloc (.cells #[.int .i64 M, .slice B m d] 32)).alloc (.cells #[.int .i64 0, .slice none 0 0] 32)) := (((Below.refl _ _).alloc (Nat.le_refl _) _).alloc (by simp) _).alloc (by simp; omega) _
    refine (HS.out _ _ (b3.alloc (by simp; omega) _) (by simpa using Blk.new (((w.alloc (.cells #[.int .i64 N, .slice A n c] 32)).alloc (.cells #[.int .i64 M, .slice B m d] 32)).alloc (.cells #[.int .i64 0, .slice none 0 0] 32)) 32 #[.int .i64 M, .slice B m d, .int .i64 N, .slice A n c])).mono ?_
    rintro e w1 ⟨rfl, hB1⟩
    dsimp only
    obtain ⟨k1, k2, k3, hs1, hBw1⟩ := boxes3 (((Below.refl _ _).alloc (Nat.le_refl _) _).trans (hB1.mono (by simp)))
    obtain ⟨c1, c2, f1, f2⟩ := k1.two
    obtain ⟨c3, c4, f3, f4⟩ := k3.two
    have hlt : w.heap.size + 1 + 1 < w1.heap.size := by omega
    clear b3
    have hpu := HP.out w1 S2 hBw1 hsl
    generalize putS N bs S2 24 = R at *
    have HPU := Lib.hid hpu; clear hpu
    go_wp2_with fail
    refine HPU.out.mono ?_
    rintro e w2 ⟨A3, n3, c5, bs3, rfl, hn3, his3, hl3, hA3, hB3, hF3⟩
    have HN3 := Lib.hid hn3; clear hn3
    have q3 := k3.below hB3 k3.lt
    obtain ⟨d1, d2, g1, g2⟩ := q3.two
    have hlt3 := q3.lt
    go_wp2
    exact bodyPost_ret (v := .tuple #[.agg #[.int .i64 R.2.length, .slice A3 n3 c5], .int .i64 R.1]) (by simp [results, Tryd.results14, go_sem, d1, d2]) rfl
      (res_stored HN3.out his3 hl3 hA3 hBw1 hB3 hF3 (by omega) (by omega))
  · rw [if_neg hgood] at hps ⊢
    injection hps with e1 e2
    subst e1; subst e2
    clear hgood
    go_enter Tryd.func14, Tryd.ntmps14
    go_wp2_with fail
    have b3 : Below w.heap.size w (((w.alloc (.cells #[.int .i64 N, .slice A n c] 32)).alloc (.cells #[.int .i64 M, .slice B m d] 32)).alloc (.cells #[.int .i64 0, .slice none 0 0] 32)) := (((Below.refl _ _).alloc (Nat.le_refl _) _).alloc (by simp) _).alloc (by simp; omega) _
    refine (HS.out _ _ (b3.alloc (by simp; omega) _) (by simpa using Blk.new (((w.alloc (.cells #[.int .i64 N, .slice A n c] 32)).alloc (.cells #[.int .i64 M, .slice B m d] 32)).alloc (.cells #[.int .i64 0, .slice none 0 0] 32)) 32 #[.int .i64 M, .slice B m d, .int .i64 N, .slice A n c])).mono ?_
    rintro e w1 ⟨rfl, hB1⟩
    dsimp only
    obtain ⟨k1, k2, k3, hs1, hBw1⟩ := boxes3 (((Below.refl _ _).alloc (Nat.le_refl _) _).trans (hB1.mono (by simp)))
    obtain ⟨c3, c4, f3, f4⟩ := k3.two
    have hlt : w.heap.size + 1 + 1 < w1.heap.size := by omega
    clear b3
    go_wp2
    exact bodyPost_ret (v := .tuple #[.agg #[.int .i64 0, .slice none 0 0], .int .i64 10]) (by simp [results, Tryd.results14, go_sem, c3, c4]) rfl
      (res_err 10 ((hBw1.setCell (p := ⟨w.heap.size + 1 + 1, 0, none⟩) (by simp; omega) _).setCell (p := ⟨w.heap.size + 1 + 1, 1, none⟩) (by simp; omega) _))
end Go.Proofs.YtlmlbpnjkkfiaaaDoor
