/-
  behind of package crc: the remainder behind bits that may be. Conditions: a remainder of 24 bits, bits that may be and can be read, and that the table holds what the program's text lays.
-/
import Derived.Test.YtlmlbpnjkkfiaaaDoorC1
namespace Go.Proofs.YtlmlbpnjkkfiaaaDoor
open Go.RowKit

theorem get_four {N : Int} {bs : List UInt8} (hg : goodB N bs = true) (k w : Nat) (hw : w ≤ 64) (h : ((k + w : Nat) : Int) ≤ N) : getS N bs (k : Nat) (w : Nat) = (0, numOf (((listOf N bs).drop k).take w)) := by
  unfold getS
  rw [if_pos hg, if_pos (by omega)]
  simp
theorem take_one (l : List Bool) (j : Nat) (h : j < l.length) : (l.drop j).take 1 = [l[j]?.getD false] := by
  rw [List.drop_eq_getElem_cons h, List.getElem?_eq_getElem h]; rfl
theorem rem_more (r : Nat) (l : List Bool) (k w : Nat) : rem r (l.take (k + w)) = rem (rem r (l.take k)) ((l.drop k).take w) := by
  unfold rem
  rw [← crcOver_append, List.take_add]

set_option maxHeartbeats 1000000 in
theorem behind_any (s : Nat) (N : Int) (A : Option Addr) (n c : Nat) (bs : List UInt8) (w : World) (hs : s < 2 ^ 24) (hgood : goodB N bs = true) (hn : n = bs.length) (hm : n ≤ maxLen) (hA : Byt w.heap.size w A bs) (hT : Tab w) :
    Calls Tryd.prog 26 #[.int .u32 s, .agg #[.int .i64 N, .slice A n c]] w fun e w' => e = .returned (.int .u32 (rem s (listOf N bs) : Nat)) ∧ Below w.heap.size w w' := by
  obtain ⟨hg0, hg1, hg2, hg3⟩ := (good_iff N bs).1 hgood
  clear hg3 hg2
  obtain ⟨M, rfl⟩ := Int.eq_ofNat_of_zero_le hg0
  have hget := fun (w1 : World) (h : Below w.heap.size w w1) (k v : Nat) (hv : v ≤ 64) (hk : k + v ≤ M) => by
    have := get_any (M : Int) (k : Nat) (v : Nat) A n c bs w1 hn hm ((hA.below h).mono h.size)
    rw [get_four hgood k v hv (by omega)] at this
    exact this
  have hll : (listOf (M : Int) bs).length = M := by rw [listOf_length]; omega
  generalize listOf (M : Int) bs = l at *
  have HG := Lib.hid hget; have HT := Lib.hid hT; have HLL := Lib.hid hll
  clear hget hA hT hn hll hgood
  go_enter Tryd.func26, Tryd.ntmps26
  go_wp2
  have k1 : Blk (w.alloc (.cells #[.int .i64 M, .slice A n c] 32)) w.heap.size 32 #[.int .i64 M, .slice A n c] := Blk.new w _ _
  have b1 : Below w.heap.size w (w.alloc (.cells #[.int .i64 M, .slice A n c] 32)) := (Below.refl _ _).alloc (Nat.le_refl _) _
  go_loopw [0, 6] (fun sv i wr => ∃ k : Nat, k % 4 = 0 ∧ k ≤ M ∧ i = .int .i64 (k : Nat) ∧ sv = .int .u32 (rem s (l.take k) : Nat) ∧ Blk wr w.heap.size 32 #[.int .i64 M, .slice A n c] ∧ Below w.heap.size w wr)
    (fun _ i _ => M - (intOf i).toNat)
  case atStart => exact ⟨0, rfl, by omega, rfl, by simp [crcOver_nil], k1, b1⟩
  case round =>
    obtain ⟨k, hk4, hk, rfl, rfl, q1, hBr⟩ := hrel
    obtain ⟨c1, c2, f1, f2⟩ := q1.two
    have hx := rem_lt (l.take k) s hs
    clear k1 b1
    by_cases hlt : k + 4 ≤ M
    · have hd : decide (((k : Nat) : Int) < (M : Int) - (M : Int) % 4) = true := by simp; omega
      have hg := HG.out wr hBr k 4 (by omega) hlt
      have hmore := rem_more s l k 4
      have hf : numOf ((l.drop k).take 4) < 16 := by
        have h1 := numOf_lt ((l.drop k).take 4)
        have h2 : ((l.drop k).take 4).length = 4 := by have := HLL.out; simp; omega
        rw [h2] at h1; omega
      have hnb : numBits (numOf ((l.drop k).take 4)) 4 = (l.drop k).take 4 := by
        have h1 := numBits_numOf ((l.drop k).take 4)
        have h2 : ((l.drop k).take 4).length = 4 := by have := HLL.out; simp; omega
        rw [h2] at h1; exact h1
      rw [← hnb] at hmore
      clear hnb
      generalize rem s (l.take k) = x at *
      generalize numOf ((l.drop k).take 4) = f at *
      have hfour := fun (w1 : World) (h : Below wr.heap.size wr w1) => behindFour_any x f w1 hx hf ((HT.out.below hBr (.inl (Nat.le_refl _))).below h (.inl (Nat.le_refl _)))
      have HF := Lib.hid hfour; have HM := Lib.hid hmore; have HGG := Lib.hid hg
      clear hfour hmore hg
      go_wp2_with (first
        | (go_at_call 31; refine HGG.out.mono ?_; rintro e w3 ⟨rfl, hb3⟩; dsimp only)
        | (go_at_call 39; refine (HF.out _ hb3).mono ?_; rintro e w4 ⟨rfl, rfl⟩))
      go_roundw
      case rel => exact ⟨k + 4, by omega, by omega, by go_num, by rw [HM.out], q1.below hb3 q1.lt, hBr.trans (hb3.mono hBr.size)⟩
      case measure => simp [intOf]; omega
    · have hd : decide (((k : Nat) : Int) < (M : Int) - (M : Int) % 4) = false := by simp; omega
      go_wp2
      go_loopw [0, 9] (fun sv i wr => ∃ j : Nat, j ≤ M ∧ i = .int .i64 (j : Nat) ∧ sv = .int .u32 (rem s (l.take j) : Nat) ∧ Blk wr w.heap.size 32 #[.int .i64 M, .slice A n c] ∧ Below w.heap.size w wr)
        (fun _ i _ => M - (intOf i).toNat)
      case atStart => exact ⟨k, by omega, by congr 1; omega, rfl, q1, hBr⟩
      case round =>
        clear c1 c2 f1 f2 q1 hBr hx hd
        obtain ⟨j, hj, rfl, rfl, q1, hBr⟩ := hrel
        obtain ⟨c1, c2, f1, f2⟩ := q1.two
        have hx := rem_lt (l.take j) s hs
        by_cases hlt : j < M
        · have hg := HG.out wr hBr j 1 (by omega) hlt
          have hmore := rem_more s l j 1
          have h2 := take_one l j (by have := HLL.out; omega)
          rw [h2] at hg hmore
          generalize l[j]?.getD false = b at *
          have h3 : numOf [b] = b.toNat := by cases b <;> rfl
          have h4 : rem (rem s (l.take j)) [b] = crc1 6122955 (rem s (l.take j)) b := rfl
          rw [h3] at hg
          rw [h4] at hmore
          clear h2 h3 h4
          generalize rem s (l.take j) = x at *
          have hfour := fun (w1 : World) => behindBit_any x b w1 hx
          have hbn := bool_nat b
          have HF := Lib.hid hfour; have HM := Lib.hid hmore; have HGG := Lib.hid hg
          clear hfour hmore hg
          generalize b.toNat = bn at *
          generalize crc1 6122955 x b = y at *
          go_wp2_with (first
            | (go_at_call 31; refine HGG.out.mono ?_; rintro e w3 ⟨rfl, hb3⟩; dsimp only)
            | (go_at_call 40; refine (HF.out _).mono ?_; rintro e w4 ⟨rfl, rfl⟩))
          go_roundw
          case rel => exact ⟨j + 1, by omega, by go_num, by rw [HM.out], q1.below hb3 q1.lt, hBr.trans (hb3.mono hBr.size)⟩
          case measure => simp [intOf]; omega
        · have hfin : l.take j = l := List.take_of_length_le (by have := HLL.out; omega)
          rw [hfin] at *
          go_wp2
          go_ret
          exact ⟨rfl, hBr⟩
end Go.Proofs.YtlmlbpnjkkfiaaaDoor
