/-
  Of of package bits, and how many bits are 1 by the document itself; which lists of truths are the same. No condition but that the lists and the bytes can be read.
-/
import Derived.Test.YtkiijnhpegbpnaaJ1
namespace Go.Proofs.Ytkiijnhpegbpnaa
open Go.RowKit

set_option maxHeartbeats 1000000 in
theorem of_any (A : Option Addr) (n c : Nat) (l : List Bool) (w : World) (hn : n = l.length) (hm : n ≤ maxLen) (hA : Bools w.heap.size w A l) :
    Calls Try.prog 8 #[.slice A n c] w (Res w (ofS l)) := by
  have HA := Lib.hid hA; clear hA
  unfold maxLen at hm
  by_cases hlong : 4096 < n
  · have hr : ofS l = (3, []) := by simp [ofS, ← hn, hlong]
    rw [hr]; clear hr
    have HN := Lib.hid hn; clear hn
    go_enter Try.func8, Try.ntmps8
    go_wp2
    exact bodyPost_ret (v := .tuple #[.agg #[.int .i64 0, .slice none 0 0], .int .i64 3]) (by simp [results, Try.results8, go_sem]) rfl (res_err 3 ((Below.refl _ _).alloc (Nat.le_refl _) _))
  · have hr : ofS l = (0, l) := by simp [ofS, ← hn, hlong]
    rw [hr]; clear hr
    have HN := Lib.hid hn; clear hn
    have hd : decide ((4096 : Int) < (n : Int)) = false := by simp; omega
    go_enter Try.func8, Try.ntmps8
    go_wp2_with (go_at_call 37; refine (zeros_any _ _ (by omega) (by omega)).mono ?_; rintro e w1 ⟨g, m, hm, rfl, hg, hb, hB⟩; have HM := Lib.hid hm; clear hm; obtain ⟨k1, hs1, hBw⟩ := boxes1 hB; have hgl := hb.lt; have hgs : w.heap.size + 1 ≤ g := by simpa using hg)
    clear hd
    have hi0 : OutRel w g w1.heap.size m l 0 (List.replicate m 0) (w1.alloc (.cells #[.int .i64 n, .slice (some ⟨g, 0, none⟩) m m] 24)) := by
      have hz := isBits_zeros l.length
      have h2 := HM.out; have h3 := HN.out
      rw [Int.toNat_natCast] at h2
      refine ⟨by rw [paint_zero, h2, h3]; exact hz, by simp, hb.alloc _, ?_, hBw.alloc hBw.size _, by omega, hgl⟩
      rw [← h3]; exact Blk.new w1 24 _
    have hj0 := k1.alloc (.cells #[.int .i64 n, .slice (some ⟨g, 0, none⟩) m m] 24)
    clear hB hg hb k1
    generalize w1.heap.size = ob at *
    go_loopw [16] (fun i wr => ∃ (k : Nat) (bs' : List UInt8), k ≤ n ∧ i = .int .i64 k ∧ OutRel w g ob m l k bs' wr ∧ Blk wr w.heap.size 24 #[.int .i64 0, .slice none 0 0])
      (fun i _ => n - (intOf i).toNat)
    case atStart => exact ⟨0, _, by omega, rfl, hi0, hj0⟩
    case round =>
      obtain ⟨k, bs', hk, rfl, hO, q1⟩ := hrel
      clear hi0 hj0
      obtain ⟨c1, c2, f1, f2⟩ := q1.two
      obtain ⟨c5, c6, f5, f6⟩ := hO.box.two
      rw [← HN.out] at c5
      by_cases hlt : k < n
      · obtain ⟨b, off, rfl, hbl, hcell⟩ := (HA.out.below hO.low).at_ (k := k) (by have := HN.out; omega)
        by_cases hb : l[k]?.getD false = true
        · rw [hb] at hcell
          have HB := Lib.hid hb; clear hb
          have hcall := turn_any n k g m m bs' wr (by omega) (by omega) hO.len.symm (by
            have h1 := hO.len; have h2 := HM.out; omega) hO.row
          rw [Int.toNat_natCast] at hcall
          have HC := Lib.hid hcall; clear hcall
          go_wp2_with (go_at_call 38; refine HC.out.mono ?_; rintro e w3 ⟨rfl, hr3, hg3⟩)
          go_roundw
          case rel => exact ⟨k + 1, _, by omega, by go_num, hO.turned (by have := HN.out; omega) HB.out hr3 hg3, q1.grown hg3 (by simp; omega)⟩
          case measure => simp [intOf]; omega
        · rw [Bool.not_eq_true] at hb
          rw [hb] at hcell
          have HB := Lib.hid hb; clear hb
          go_wp2
          go_roundw
          case rel => exact ⟨k + 1, _, by omega, by go_num, hO.stayed (by have := HN.out; omega) HB.out, q1⟩
          case measure => simp [intOf]; omega
      · have hlw : w.heap.size < wr.heap.size := q1.lt
        go_wp2
        have hfin := hO.is_
        rw [show k = l.length by have := HN.out; omega, paint_full] at hfin
        have hrow : Blk ((wr.setCell ⟨w.heap.size, 0, none⟩ (.int .i64 n)).setCell ⟨w.heap.size, 1, none⟩ (.slice (some ⟨g, 0, none⟩) m m)) g 5 (encB bs') := (hO.row.far (p := ⟨w.heap.size, 0, none⟩) (by simp; omega) _).far (p := ⟨w.heap.size, 1, none⟩) (by simp; omega) _
        refine bodyPost_ret (v := .tuple #[.agg #[.int .i64 n, .slice (some ⟨g, 0, none⟩) m m], .int .i64 0]) (by simp [results, Try.results8, go_sem, c1, c2]) rfl
          ⟨some ⟨g, 0, none⟩, m, m, bs', by rw [HN.out], hO.len.symm, hfin, by have := HN.out; dsimp only; omega, byt_of_blk hrow, (hO.low.setCell (p := ⟨w.heap.size, 0, none⟩) (by simp) _).setCell (p := ⟨w.heap.size, 1, none⟩) (by simp) _, fun a ha _ => by injection ha with ha; subst ha; exact hO.ge⟩

theorem ones_take (l : List Bool) (k : Nat) (h : k < l.length) : onesOf (l.take (k + 1)) = onesOf (l.take k) + (if l[k]?.getD false = true then 1 else 0) := by
  rw [List.take_add_one, List.getElem?_eq_getElem h]
  simp only [onesOf, List.countP_append, Option.toList, List.countP_singleton, Option.getD_some]
  cases l[k] <;> rfl

set_option maxHeartbeats 1000000 in
theorem rones_any (N : Int) (A : Option Addr) (n c : Nat) (bs : List UInt8) (w : World) (hn : n = bs.length) (hm : n ≤ maxLen) (hA : Byt w.heap.size w A bs) :
    Calls Try.prog 18 #[.agg #[.int .i64 N, .slice A n c]] w fun e w' => e = .returned (.int .i64 (onesOf (lst N bs))) ∧ Below w.heap.size w w' := by
  have hli := fun w1 (h : Below w.heap.size w w1) => list_any N A n c bs w1 hn hm ((hA.below h).mono h.size)
  have hll := lst_length N bs
  generalize lst N bs = l at *
  have HLI := Lib.hid hli; clear hli hA hn
  unfold maxLen at hm
  go_enter Try.func18, Try.ntmps18
  go_wp2_with (go_at_call 10; refine (HLI.out _ ((Below.refl _ _).alloc (Nat.le_refl _) _)).mono ?_; rintro e w1 ⟨lv, rfl, hown, hB⟩; obtain ⟨LA, lc, rfl, hLA⟩ := bools_of_own hown; obtain ⟨k1, hs, hBw⟩ := boxes1 hB)
  clear hown hB k1
  go_loopw [3, 5] (fun x i wr => ∃ (k : Nat), k ≤ l.length ∧ i = .int .i64 k ∧ x = .int .i64 (onesOf (l.take k)) ∧ wr = w1)
    (fun _ i _ => l.length - (intOf i).toNat)
  case atStart => exact ⟨0, by omega, rfl, rfl, rfl⟩
  case round =>
    obtain ⟨k, hk, rfl, rfl, rfl⟩ := hrel
    by_cases hlt : k < l.length
    · obtain ⟨b, off, rfl, hbl, hcell⟩ := hLA.at_ (k := k) hlt
      have hts := ones_take l k hlt
      have hle := ones_le (l.take k)
      have hle2 : (l.take k).length ≤ k := List.length_take_le _ _
      generalize onesOf (l.take k) = x at *
      by_cases hb : l[k]?.getD false = true
      · rw [hb] at hcell hts
        have HTS := Lib.hid hts; clear hts hb
        go_wp2
        go_roundw
        case rel => exact ⟨k + 1, by omega, by go_num, by rw [HTS.out]; rfl, by first | rfl | trivial⟩
        case measure => simp [intOf]; omega
      · rw [Bool.not_eq_true] at hb
        rw [hb] at hcell hts
        have HTS := Lib.hid hts; clear hts hb
        go_wp2
        go_roundw
        case rel => exact ⟨k + 1, by omega, by go_num, by rw [HTS.out]; rfl, by first | rfl | trivial⟩
        case measure => simp [intOf]; omega
    · go_wp2
      go_ret
      exact ⟨by rw [show l.take k = l from List.take_of_length_le (by omega)]; rfl, hBw⟩

set_option maxHeartbeats 1000000 in
/-- slices.Equal, of two lists of truths that are the same. -/
theorem bsame_yes (A A' : Option Addr) (c c' n : Nat) (l : List Bool) (w : World) (hn : n = l.length) (hm : n ≤ maxLen) (hA : Bools w.heap.size w A l) (hA' : Bools w.heap.size w A' l) :
    Calls Try.prog 19 #[.slice A n c, .slice A' n c'] w fun e w' => e = .returned (.bool true) ∧ Below w.heap.size w w' := by
  unfold maxLen at hm
  have HN := Lib.hid hn; clear hn
  go_enter Try.func19, Try.ntmps19
  go_wp2
  go_loopw [13] (fun i wr => ∃ (k q : Nat), k ≤ n ∧ i = .int .i64 k ∧ wr = w.drewN q)
    (fun i _ => n - (intOf i).toNat)
  case atStart => exact ⟨0, 0, by omega, rfl, rfl⟩
  case round =>
    obtain ⟨k, q, hk, rfl, rfl⟩ := hrel
    by_cases hlt : k < n
    · obtain ⟨b, off, rfl, _, hcell⟩ := hA.at_ (k := k) (by have := HN.out; omega)
      obtain ⟨b', off', rfl, _, hcell'⟩ := hA'.at_ (k := k) (by have := HN.out; omega)
      have hki : (k : Int) < (n : Int) := by omega
      generalize l[k]?.getD false = x at *
      cases x
      all_goals
        go_wp2
        go_quiet (fail)
        go_wp2
        go_roundw
        case rel => exact ⟨k + 1, _, by omega, by go_num, rfl⟩
        case measure => simp [intOf]; omega
    · go_wp2
      go_ret
      exact ⟨rfl, below_drewN (Below.refl _ _) _⟩
end Go.Proofs.Ytkiijnhpegbpnaa
