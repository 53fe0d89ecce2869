/-
  Of of package bits, and how many bits are 1 by the document itself; which lists of truths are the same. No condition but that the lists and the bytes can be read.
-/
import Derived.Test.YtdmedhklcicpeaaJ1
namespace Go.Proofs.Ytdmedhklcicpeaa
open Go.RowKit

set_option maxHeartbeats 1000000 in
theorem of_any (A : Option Addr) (n c : Nat) (l : List Bool) (w : World) (hn : n = l.length) (hm : n ≤ maxLen) (hA : Bools w.heap.size w A l) :
    Calls Try.prog 57 #[.slice A n c] w (Res w (ofS l)) := by
  have HA := Lib.hid hA; clear hA
  unfold maxLen at hm
  by_cases hlong : 4096 < n
  · have hr : ofS l = (3, []) := by simp [ofS, ← hn, hlong]
    rw [hr]; clear hr
    have HN := Lib.hid hn; clear hn
    go_enter Try.func57, Try.ntmps57
    go_wp2
    exact bodyPost_ret (v := .tuple #[.agg #[.int .i64 0, .slice none 0 0], .int .i64 3]) (by simp [results, Try.results57, go_sem]) rfl (res_err 3 ((Below.refl _ _).alloc (Nat.le_refl _) _))
  · have hr : ofS l = (0, l) := by simp [ofS, ← hn, hlong]
    rw [hr]; clear hr
    have HN := Lib.hid hn; clear hn
    have hd : decide ((4096 : Int) < (n : Int)) = false := by simp; omega
    go_enter Try.func57, Try.ntmps57
    go_wp2_with (go_at_call 75; refine (zeros_any _ _ (by omega) (by omega)).mono ?_; rintro e w1 ⟨g, m, hm, rfl, hg, hb, hB⟩; have HM := Lib.hid hm; clear hm; obtain ⟨k1, hs1, hBw⟩ := boxes1 hB; have hgl := hb.lt; have hgs : w.heap.size + 1 ≤ g := by simpa using hg)
    clear hd
    have hi0 : OutRel w g w1.heap.size m l 0 (List.replicate m 0) (w1.alloc (.cells #[.int .i64 n, .slice (some ⟨g, 0, none⟩) m m] 24)) := by
      have hz := isBits_zeros l.length
      have h2 := HM.out; have h3 := HN.out
      rw [Int.toNat_natCast] at h2
      refine ⟨by rw [paint_zero, h2, h3]; exact hz, by simp, hb.alloc _, ?_, hBw.alloc hBw.size _, by omega, hgl⟩
      rw [← h3]; exact Blk.new w1 24 _
    have hj0 := k1.alloc (.cells #[.int .i64 n, .slice (some ⟨g, 0, none⟩) m m] 24)
    clear hB hg hb k1
    generalize w1.heap.size = ob at *
    go_loopw [16] (fun i wr => ∃ (k : Nat) (bs' : List UInt8), k ≤ n ∧ i = .int .i64 k ∧ OutRel w g ob m l k bs' wr ∧ Blk wr w.heap.size 24 #[.int .i64 0, .slice none 0 0])
      (fun i _ => n - (intOf i).toNat)
    case atStart => exact ⟨0, _, by omega, rfl, hi0, hj0⟩
    case round =>
      obtain ⟨k, bs', hk, rfl, hO, q1⟩ := hrel
      clear hi0 hj0
      obtain ⟨c1, c2, f1, f2⟩ := q1.two
      obtain ⟨c5, c6, f5, f6⟩ := hO.box.two
      rw [← HN.out] at c5
      by_cases hlt : k < n
      · obtain ⟨b, off, rfl, hbl, hcell⟩ := (HA.out.below hO.low).at_ (k := k) (by have := HN.out; omega)
        by_cases hb : l[k]?.getD false = true
        · rw [hb] at hcell
          have HB := Lib.hid hb; clear hb
          have hcall := turn_any n k g m m bs' wr (by omega) (by omega) hO.len.symm (by
            have h1 := hO.len; have h2 := HM.out; omega) hO.row
          rw [Int.toNat_natCast] at hcall
          have HC := Lib.hid hcall; clear hcall
          go_wp2_with (go_at_call 66; refine HC.out.mono ?_; rintro e w3 ⟨rfl, hr3, hg3⟩)
          go_roundw
          case rel => exact ⟨k + 1, _, by omega, by go_num, hO.turned (by have := HN.out; omega) HB.out hr3 hg3, q1.grown hg3 (by simp; omega)⟩
          case measure => simp [intOf]; omega
        · rw [Bool.not_eq_true] at hb
          rw [hb] at hcell
          have HB := Lib.hid hb; clear hb
          go_wp2
          go_roundw
          case rel => exact ⟨k + 1, _, by omega, by go_num, hO.stayed (by have := HN.out; omega) HB.out, q1⟩
          case measure => simp [intOf]; omega
      · have hlw : w.heap.size < wr.heap.size := q1.lt
        go_wp2
        have hfin := hO.is_
        rw [show k = l.length by have := HN.out; omega, paint_full] at hfin
        have hrow : Blk ((wr.setCell ⟨w.heap.size, 0, none⟩ (.int .i64 n)).setCell ⟨w.heap.size, 1, none⟩ (.slice (some ⟨g, 0, none⟩) m m)) g 5 (encB bs') := (hO.row.far (p := ⟨w.heap.size, 0, none⟩) (by simp; omega) _).far (p := ⟨w.heap.size, 1, none⟩) (by simp; omega) _
        refine bodyPost_ret (v := .tuple #[.agg #[.int .i64 n, .slice (some ⟨g, 0, none⟩) m m], .int .i64 0]) (by simp [results, Try.results57, go_sem, c1, c2]) rfl
          ⟨some ⟨g, 0, none⟩, m, m, bs', by rw [HN.out], hO.len.symm, hfin, by have := HN.out; dsimp only; omega, byt_of_blk hrow, (hO.low.setCell (p := ⟨w.heap.size, 0, none⟩) (by simp) _).setCell (p := ⟨w.heap.size, 1, none⟩) (by simp) _, fun a ha _ => by injection ha with ha; subst ha; exact hO.ge⟩

theorem ones_take (l : List Bool) (k : Nat) (h : k < l.length) : onesOf (l.take (k + 1)) = onesOf (l.take k) + (if l[k]?.getD false = true then 1 else 0) := by
  rw [List.take_add_one, List.getElem?_eq_getElem h]
  simp only [onesOf, List.countP_append, Option.toList, List.countP_singleton, Option.getD_some]
  cases l[k] <;> rfl

end Go.Proofs.Ytdmedhklcicpeaa
