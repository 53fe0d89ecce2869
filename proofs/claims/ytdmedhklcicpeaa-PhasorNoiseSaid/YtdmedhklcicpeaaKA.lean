/-
  Flip of package bits answers as the document says, for all bits and places. No condition but that the bytes and the places can be read.
  The document itself: Flip. No condition but that the bytes and the places can be read.
  Ones of package bits answers how many bits are 1, and 0 for bits that may not be. No condition but that the bytes can be read.
  Of of package bits, and how many bits are 1 by the document itself; which lists of truths are the same. No condition but that the lists and the bytes can be read.
-/
import Derived.Test.YtdmedhklcicpeaaH2
namespace Go.Proofs.Ytdmedhklcicpeaa
open Go.RowKit

/-- The slice at A holds the places zs, in a block below n₀ (nil or empty where there are none). -/
def Ints (n₀ : Nat) (W : World) (A : Option Addr) (zs : List Int) : Prop :=
  zs ≠ [] → ∃ b off, A = some ⟨b, off, none⟩ ∧ b < n₀ ∧ ∀ j, j < zs.length → W.cell? ⟨b, off + j, none⟩ = some (.int .i64 (zs[j]?.getD 0))
theorem Ints.below {n₀ : Nat} {W W' : World} {A : Option Addr} {zs : List Int} (h : Ints n₀ W A zs) (hb : Below n₀ W W') : Ints n₀ W' A zs := fun hn => by
  obtain ⟨b, off, e, hlt, hc⟩ := h hn
  exact ⟨b, off, e, hlt, fun j hj => (hb.cell (p := ⟨b, off + j, none⟩) hlt).trans (hc j hj)⟩
theorem Ints.mono {n₀ n₁ : Nat} {W : World} {A : Option Addr} {zs : List Int} (h : Ints n₀ W A zs) (hn : n₀ ≤ n₁) : Ints n₁ W A zs := fun hb => by
  obtain ⟨b, off, e, hlt, hc⟩ := h hb
  exact ⟨b, off, e, Nat.lt_of_lt_of_le hlt hn, hc⟩
theorem Ints.at_ {n₀ : Nat} {W : World} {A : Option Addr} {zs : List Int} (h : Ints n₀ W A zs) {k : Nat} (hk : k < zs.length) :
    ∃ b off, A = some ⟨b, off, none⟩ ∧ b < n₀ ∧ W.cell? ⟨b, off + k, none⟩ = some (.int .i64 (zs[k]?.getD 0)) := by
  obtain ⟨b, off, e, hlt, hc⟩ := h (by rintro rfl; simp at hk)
  exact ⟨b, off, e, hlt, hc k hk⟩

/-- One bit turned. -/
def flip1 (l : List Bool) (i : Int) : List Bool := l.set i.toNat (!(l[i.toNat]?.getD false))
def okAt (N : Int) (zs : List Int) : Bool := zs.all fun i => decide (0 ≤ i) && decide (i < N)
def flips (l : List Bool) (zs : List Int) : List Bool := zs.foldl flip1 l
/-- Flip, by the document. -/
def flipS (N : Int) (bs : List UInt8) (zs : List Int) : Int × List Bool :=
  if goodB N bs = true then if okAt N zs = true then (0, flips (listOf N bs) zs) else (2, []) else (10, [])
theorem flip1_length (l : List Bool) (i : Int) : (flip1 l i).length = l.length := by simp [flip1]
theorem flips_length (zs : List Int) : ∀ l : List Bool, (flips l zs).length = l.length := by
  induction zs with
  | nil => intro l; rfl
  | cons z zs ih => intro l; show (flips (flip1 l z) zs).length = _; rw [ih, flip1_length]
theorem int_at (zs : List Int) (k : Nat) (h : k < zs.length) : zs.take (k + 1) = zs.take k ++ [zs[k]?.getD 0] := by
  rw [List.take_add_one, List.getElem?_eq_getElem h]; rfl
theorem flips_snoc (l : List Bool) (zs : List Int) (z : Int) : flips l (zs ++ [z]) = flip1 (flips l zs) z := by simp [flips]
theorem ok_snoc (N : Int) (zs : List Int) (z : Int) : okAt N (zs ++ [z]) = (okAt N zs && (decide (0 ≤ z) && decide (z < N))) := by simp [okAt]
theorem ok_not (N : Int) (zs : List Int) (k : Nat) (h : k < zs.length) (hb : ¬ (0 ≤ zs[k]?.getD 0 ∧ zs[k]?.getD 0 < N)) : okAt N zs = false := by
  unfold okAt
  rw [List.all_eq_false]
  refine ⟨zs[k], List.getElem_mem h, ?_⟩
  rw [List.getElem?_eq_getElem h] at hb
  simpa using hb

/-- Bits under way: the row g, its box ob hold the truths t; all that was there stays. -/
structure RowRel (w : World) (g ob m : Nat) (t : List Bool) (bs : List UInt8) (wr : World) : Prop where
  is_ : IsBits t bs
  len : bs.length = m
  row : Blk wr g 5 (encB bs)
  box : Blk wr ob 24 #[.int .i64 (t.length : Int), .slice (some ⟨g, 0, none⟩) m m]
  low : Below w.heap.size w wr
  ge : w.heap.size ≤ g
  lt : g < ob
theorem RowRel.turned {w wr wr' : World} {g ob m : Nat} {t : List Bool} {bs : List UInt8} (h : RowRel w g ob m t bs wr) (i : Int) (hi : i.toNat < t.length) (hr : Blk wr' g 5 (encB (flipB bs i.toNat))) (hg : wr.grownBy wr' (some g)) :
    RowRel w g ob m (flip1 t i) (flipB bs i.toNat) wr' :=
  ⟨isBits_flip h.is_ hi, by rw [flipB_length]; exact h.len, hr, by rw [flip1_length]; exact h.box.grown hg (by have := h.lt; simp; omega), h.low.grown hg h.low.size (fun k e => by injection e with e; have := h.ge; omega), h.ge, h.lt⟩

end Go.Proofs.Ytdmedhklcicpeaa

namespace Go.Proofs.Ytdmedhklcicpeaa
open Go.RowKit

theorem flip_row {w : World} {base g cap zz n : Nat} {lk : List Bool} (h : w.ownsRow base 4 1 (.slice (some ⟨g, 0, none⟩) lk.length cap) n (lk.map Value.bool)) (hn : lk.length = n) (q : Nat) :
    ((w.drewN q).setCell ⟨g, zz, none⟩ (.bool (!(lk[zz]?.getD false)))).ownsRow base 4 1 (.slice (some ⟨g, 0, none⟩) lk.length cap) n ((flip1 lk zz).map Value.bool) ∧ w.grownBy ((w.drewN q).setCell ⟨g, zz, none⟩ (.bool (!(lk[zz]?.getD false)))) (some g) := by
  subst hn
  have hd : (w.drewN q).ownsRow base 4 1 (.slice (some ⟨g, 0, none⟩) lk.length cap) lk.length (lk.map Value.bool) := h
  obtain ⟨h1, h2⟩ := hd.stored zz (.bool (!(lk[zz]?.getD false)))
  refine ⟨?_, h2.os, h2.tape, h2.output, h2.size, h2.block⟩
  unfold flip1
  rw [Int.toNat_natCast, List.map_set]
  exact h1

end Go.Proofs.Ytdmedhklcicpeaa

namespace Go.Proofs.Ytdmedhklcicpeaa
open Go.RowKit Go.Shelf
attribute [local go_sem] Oper.semAt_some

/-- How many are 1. -/
def onesOf (l : List Bool) : Nat := l.countP (· == true)
theorem ones_snoc (pre : List (Nat × Bool)) (x : Nat × Bool) : onesOf ((pre ++ [x]).map (·.2)) = onesOf (pre.map (·.2)) + (if x.2 = true then 1 else 0) := by
  simp only [onesOf, List.map_append, List.countP_append, List.map_cons, List.map_nil, List.countP_singleton]
  cases x.2 <;> rfl
theorem ones_le (l : List Bool) : onesOf l ≤ l.length := List.countP_le_length

end Go.Proofs.Ytdmedhklcicpeaa

namespace Go.Proofs.Ytdmedhklcicpeaa
open Go.RowKit

set_option maxHeartbeats 1000000 in
theorem of_any (A : Option Addr) (n c : Nat) (l : List Bool) (w : World) (hn : n = l.length) (hm : n ≤ maxLen) (hA : Bools w.heap.size w A l) :
    Calls Try.prog 57 #[.slice A n c] w (Res w (ofS l)) := by
  have HA := Lib.hid hA; clear hA
  unfold maxLen at hm
  by_cases hlong : 4096 < n
  · have hr : ofS l = (3, []) := by simp [ofS, ← hn, hlong]
    rw [hr]; clear hr
    have HN := Lib.hid hn; clear hn
    go_enter Try.func57, Try.ntmps57
    go_wp2
    exact bodyPost_ret (v := .tuple #[.agg #[.int .i64 0, .slice none 0 0], .int .i64 3]) (by simp [results, Try.results57, go_sem]) rfl (res_err 3 ((Below.refl _ _).alloc (Nat.le_refl _) _))
  · have hr : ofS l = (0, l) := by simp [ofS, ← hn, hlong]
    rw [hr]; clear hr
    have HN := Lib.hid hn; clear hn
    have hd : decide ((4096 : Int) < (n : Int)) = false := by simp; omega
    go_enter Try.func57, Try.ntmps57
    go_wp2_with (go_at_call 75; refine (zeros_any _ _ (by omega) (by omega)).mono ?_; rintro e w1 ⟨g, m, hm, rfl, hg, hb, hB⟩; have HM := Lib.hid hm; clear hm; obtain ⟨k1, hs1, hBw⟩ := boxes1 hB; have hgl := hb.lt; have hgs : w.heap.size + 1 ≤ g := by simpa using hg)
    clear hd
    have hi0 : OutRel w g w1.heap.size m l 0 (List.replicate m 0) (w1.alloc (.cells #[.int .i64 n, .slice (some ⟨g, 0, none⟩) m m] 24)) := by
      have hz := isBits_zeros l.length
      have h2 := HM.out; have h3 := HN.out
      rw [Int.toNat_natCast] at h2
      refine ⟨by rw [paint_zero, h2, h3]; exact hz, by simp, hb.alloc _, ?_, hBw.alloc hBw.size _, by omega, hgl⟩
      rw [← h3]; exact Blk.new w1 24 _
    have hj0 := k1.alloc (.cells #[.int .i64 n, .slice (some ⟨g, 0, none⟩) m m] 24)
    clear hB hg hb k1
    generalize w1.heap.size = ob at *
    go_loopw [16] (fun i wr => ∃ (k : Nat) (bs' : List UInt8), k ≤ n ∧ i = .int .i64 k ∧ OutRel w g ob m l k bs' wr ∧ Blk wr w.heap.size 24 #[.int .i64 0, .slice none 0 0])
      (fun i _ => n - (intOf i).toNat)
    case atStart => exact ⟨0, _, by omega, rfl, hi0, hj0⟩
    case round =>
      obtain ⟨k, bs', hk, rfl, hO, q1⟩ := hrel
      clear hi0 hj0
      obtain ⟨c1, c2, f1, f2⟩ := q1.two
      obtain ⟨c5, c6, f5, f6⟩ := hO.box.two
      rw [← HN.out] at c5
      by_cases hlt : k < n
      · obtain ⟨b, off, rfl, hbl, hcell⟩ := (HA.out.below hO.low).at_ (k := k) (by have := HN.out; omega)
        by_cases hb : l[k]?.getD false = true
        · rw [hb] at hcell
          have HB := Lib.hid hb; clear hb
          have hcall := turn_any n k g m m bs' wr (by omega) (by omega) hO.len.symm (by
            have h1 := hO.len; have h2 := HM.out; omega) hO.row
          rw [Int.toNat_natCast] at hcall
          have HC := Lib.hid hcall; clear hcall
          go_wp2_with (go_at_call 66; refine HC.out.mono ?_; rintro e w3 ⟨rfl, hr3, hg3⟩)
          go_roundw
          case rel => exact ⟨k + 1, _, by omega, by go_num, hO.turned (by have := HN.out; omega) HB.out hr3 hg3, q1.grown hg3 (by simp; omega)⟩
          case measure => simp [intOf]; omega
        · rw [Bool.not_eq_true] at hb
          rw [hb] at hcell
          have HB := Lib.hid hb; clear hb
          go_wp2
          go_roundw
          case rel => exact ⟨k + 1, _, by omega, by go_num, hO.stayed (by have := HN.out; omega) HB.out, q1⟩
          case measure => simp [intOf]; omega
      · have hlw : w.heap.size < wr.heap.size := q1.lt
        go_wp2
        have hfin := hO.is_
        rw [show k = l.length by have := HN.out; omega, paint_full] at hfin
        have hrow : Blk ((wr.setCell ⟨w.heap.size, 0, none⟩ (.int .i64 n)).setCell ⟨w.heap.size, 1, none⟩ (.slice (some ⟨g, 0, none⟩) m m)) g 5 (encB bs') := (hO.row.far (p := ⟨w.heap.size, 0, none⟩) (by simp; omega) _).far (p := ⟨w.heap.size, 1, none⟩) (by simp; omega) _
        refine bodyPost_ret (v := .tuple #[.agg #[.int .i64 n, .slice (some ⟨g, 0, none⟩) m m], .int .i64 0]) (by simp [results, Try.results57, go_sem, c1, c2]) rfl
          ⟨some ⟨g, 0, none⟩, m, m, bs', by rw [HN.out], hO.len.symm, hfin, by have := HN.out; dsimp only; omega, byt_of_blk hrow, (hO.low.setCell (p := ⟨w.heap.size, 0, none⟩) (by simp) _).setCell (p := ⟨w.heap.size, 1, none⟩) (by simp) _, fun a ha _ => by injection ha with ha; subst ha; exact hO.ge⟩

theorem ones_take (l : List Bool) (k : Nat) (h : k < l.length) : onesOf (l.take (k + 1)) = onesOf (l.take k) + (if l[k]?.getD false = true then 1 else 0) := by
  rw [List.take_add_one, List.getElem?_eq_getElem h]
  simp only [onesOf, List.countP_append, Option.toList, List.countP_singleton, Option.getD_some]
  cases l[k] <;> rfl

end Go.Proofs.Ytdmedhklcicpeaa
