/-
  The document itself: Check and List. No condition but that the bytes can be read.
  The document itself: Of. No condition but that the truths can be read.
  Which bits are the same: the document itself, Same of package bits, and Equal of package bytes. No condition but that the bytes can be read.
  The document itself: Put. No condition but that the bytes can be read.
  The document itself: Get. No condition but that the bytes can be read.
  Parse of package bits and of the document itself answer as the document says, for every text. No condition.
  The document itself: Parse and Text, for every text and all bits. No condition but that the bytes can be read.
  A region whose order Go leaves open, walked once, where each operation yields one value in all worlds that keep what was there. No condition.
  Slice of package bits answers as the document says, for all bits and places. No condition but that the bytes can be read.
  The document itself: Slice. No condition but that the bytes can be read.
  Flip of package bits answers as the document says, for all bits and places. No condition but that the bytes and the places can be read.
  The document itself: Flip. No condition but that the bytes and the places can be read.
-/
import Derived.Test.YtcfbeelljhjnoaaDoorQF
namespace Go.Proofs.YtcfbeelljhjnoaaDoor
open Go.RowKit

theorem shr_test (x j : Nat) : (((x : Int) / 2 ^ j).tmod 2 == 1) = x.testBit j := by
  have e : ((x : Int) / 2 ^ j) = ((x / 2 ^ j : Nat) : Int) := by norm_cast
  rw [e, Nat.testBit_eq_decide_div_mod_eq, Int.tmod_eq_emod_of_nonneg (Int.natCast_nonneg _)]
  rcases Nat.mod_two_eq_zero_or_one (x / 2 ^ j) with h | h
  · have h' : ((x / 2 ^ j : Nat) : Int) % 2 = 0 := by omega
    rw [h, h']; rfl
  · have h' : ((x / 2 ^ j : Nat) : Int) % 2 = 1 := by omega
    rw [h, h']; rfl

set_option maxRecDepth 4000 in
set_option maxHeartbeats 400000 in
theorem rbit_at (i : Int) (b off n c : Nat) (x : UInt8) (w : World) (h0 : 0 ≤ i) (h1 : i ≤ 8192) (hi : i / 8 < n) (hc : w.cell? ⟨b, off + (i / 8).toNat, none⟩ = some (.int .u8 x.toNat)) :
    Calls Tryd.prog 77 #[.slice (some ⟨b, off, none⟩) n c, .int .i64 i] w fun e w' => e = .returned (.bool (x.toNat.testBit (7 - i.toNat % 8))) ∧ w = w' := by
  have hx := x.toNat_lt
  have hi0 : 0 ≤ i / 8 := by omega
  go_enter Tryd.func77, Tryd.ntmps77
  go_wp2
  go_ret
  exact ⟨ret_bool (by rw [shr_test, show (7 - i % 8).toNat = 7 - i.toNat % 8 by omega]), rfl⟩

theorem rbit_any (i : Int) (A : Option Addr) (n c : Nat) (bs : List UInt8) (w : World) (h0 : 0 ≤ i) (h1 : i ≤ 8192) (hn : n = bs.length) (hi : i < 8 * (bs.length : Int)) (hA : Byt w.heap.size w A bs) :
    Calls Tryd.prog 77 #[.slice A n c, .int .i64 i] w fun e w' => e = .returned (.bool (bitAt bs i.toNat)) ∧ w = w' := by
  obtain ⟨b, off, rfl, hlt, hc⟩ := hA.at_ (k := (i / 8).toNat) (by omega)
  have e : (i / 8).toNat = i.toNat / 8 := by omega
  unfold bitAt
  rw [← e]
  exact rbit_at i b off n c _ w h0 h1 (by omega) hc

set_option maxRecDepth 4000 in
set_option maxHeartbeats 1000000 in
theorem rcheck_any (N : Int) (A : Option Addr) (n c : Nat) (bs : List UInt8) (w : World) (hn : n = bs.length) (hm : n ≤ maxLen) (hA : Byt w.heap.size w A bs) :
    Calls Tryd.prog 49 #[.agg #[.int .i64 N, .slice A n c]] w fun e w' => e = .returned (.int .i64 (chk N bs)) ∧ Below w.heap.size w w' := by
  unfold maxLen at hm
  by_cases hN0 : N < 0
  · have hr := chk_no (N := N) (bs := bs) (by rw [Bool.eq_false_iff, Ne, good_iff]; omega)
    have hd : decide (N < 0) = true := by simpa using hN0
    rw [hr]; clear hr
    have HH := Lib.hid hn; clear hn
    go_enter Tryd.func49, Tryd.ntmps49
    go_wp2
    go_ret
    exact ⟨rfl, (Below.refl _ _).alloc (Nat.le_refl _) _⟩
  have hd0 : decide (N < 0) = false := by simpa using hN0
  by_cases hN1 : 4096 < N
  · have hr := chk_no (N := N) (bs := bs) (by rw [Bool.eq_false_iff, Ne, good_iff]; omega)
    have hd : decide (4096 < N) = true := by simpa using hN1
    rw [hr]; clear hr
    have HH := Lib.hid hn; clear hn
    go_enter Tryd.func49, Tryd.ntmps49
    go_wp2
    go_ret
    exact ⟨rfl, (Below.refl _ _).alloc (Nat.le_refl _) _⟩
  have hd1 : decide (4096 < N) = false := by simpa using hN1
  have hN0' : 0 ≤ N := by omega
  have hN1' : N ≤ 4096 := by omega
  clear hN0 hN1
  by_cases hl : (n : Int) = (N + 7) / 8
  · have hlb : ((n : Int) != (N + 7) / 8) = false := by simpa using hl
    have HL := Lib.hid hl
    have hl8 : 8 * (n : Int) ≤ N + 7 := by omega
    have hl9 : N ≤ 8 * (n : Int) := by omega
    clear hl
    have HH := Lib.hid hn; clear hn
    go_enter Tryd.func49, Tryd.ntmps49
    go_wp2
    go_loopw [3] (fun i wr => ∃ k : Nat, N ≤ k ∧ (k : Int) ≤ 8 * n ∧ i = .int .i64 k ∧ (∀ j : Nat, N ≤ j → j < k → bitAt bs j = false) ∧ wr = w.alloc (.cells #[.int .i64 N, .slice A n c] 28))
      (fun i _ => 8 * n - (intOf i).toNat)
    case atStart =>
      exact ⟨N.toNat, by omega, by omega, by rw [Int.toNat_of_nonneg hN0'], fun j h1 h2 => by omega, rfl⟩
    case round =>
      obtain ⟨k, hk0, hk1, rfl, hall, rfl⟩ := hrel
      have HALL := Lib.hid hall; clear hall
      have hB : Below w.heap.size w (w.alloc (.cells #[.int .i64 N, .slice A n c] 28)) := (Below.refl _ _).alloc (Nat.le_refl _) _
      by_cases hlt : (k : Int) < 8 * n
      · have hone := rbit_any k A n c bs (w.alloc (.cells #[.int .i64 N, .slice A n c] 28)) (by omega) (by omega) HH.out (by have := HH.out; omega) ((hA.below hB).mono hB.size)
        rw [Int.toNat_natCast] at hone
        by_cases hbit : bitAt bs k = true
        · rw [hbit] at hone
          have HO := Lib.hid hone; clear hone
          have hr := chk_no (N := N) (bs := bs) (by
            rw [Bool.eq_false_iff, Ne, good_iff]
            rintro ⟨_, _, _, h⟩
            rw [h k hk0] at hbit
            cases hbit)
          have HR := Lib.hid hr; clear hr hbit
          go_wp2_with (go_at_call 77; refine HO.out.mono ?_; rintro e w' ⟨rfl, rfl⟩)
          go_ret
          exact ⟨by rw [HR.out]; rfl, hB⟩
        · rw [Bool.not_eq_true] at hbit
          rw [hbit] at hone
          have HO := Lib.hid hone; clear hone
          have HBIT := Lib.hid hbit; clear hbit
          go_wp2_with (go_at_call 77; refine HO.out.mono ?_; rintro e w' ⟨rfl, rfl⟩)
          go_roundw
          case rel =>
            refine ⟨k + 1, by omega, by omega, by go_num, fun j h1 h2 => ?_, by first | rfl | trivial⟩
            rcases Nat.lt_or_ge j k with h | h
            · exact HALL.out j h1 h
            · obtain rfl : j = k := by omega
              exact HBIT.out
          case measure => simp [intOf]; omega
      · have hr := chk_yes (N := N) (bs := bs) (by
          rw [good_iff]
          refine ⟨hN0', hN1', by rw [← HH.out]; exact HL.out, fun j hj => ?_⟩
          rcases Nat.lt_or_ge j k with h | h
          · exact HALL.out j hj h
          · exact bitAt_beyond bs j (by have := HH.out; omega))
        have HR := Lib.hid hr; clear hr
        go_wp2
        go_ret
        exact ⟨by rw [HR.out]; rfl, hB⟩
  · have hlb : ((n : Int) != (N + 7) / 8) = true := by simpa using hl
    have hr := chk_no (N := N) (bs := bs) (by rw [Bool.eq_false_iff, Ne, good_iff]; omega)
    rw [hr]; clear hr hl
    have HH := Lib.hid hn; clear hn
    go_enter Tryd.func49, Tryd.ntmps49
    go_wp2
    go_ret
    exact ⟨rfl, (Below.refl _ _).alloc (Nat.le_refl _) _⟩

theorem Tryd.info4 : (Tryd.prog.info? 4).map (fun i => (i.zero, i.size, i.bytes)) = some (some (.bool false), 1, 1) := by kernel_rfl
/-- What the document's List answers. -/
def Truths (w : World) (l : List Bool) (e : Ending) (w' : World) : Prop := ∃ v, e = .returned v ∧ w'.ownsRow w.heap.size 4 1 v l.length (l.map Value.bool) ∧ Below w.heap.size w w'

theorem own_mono {w : World} {b b' : Nat} {e : TypeId} {size : Nat} {v : Value} {n : Nat} {xs : List Value} (h : w.ownsRow b e size v n xs) (hb : b' ≤ b) : w.ownsRow b' e size v n xs := by
  refine ⟨h.1, ?_⟩
  rcases h.2 with h2 | ⟨g, cap, cur, hv, hg, r⟩
  · exact .inl h2
  · exact .inr ⟨g, cap, cur, hv, Nat.le_trans hb hg, r⟩
theorem own_grown_low {w w' : World} {b : Nat} {e : TypeId} {size : Nat} {v : Value} {n : Nat} {xs : List Value} {o : Obj} (h : w.ownsRow b e size v n xs) (hg : (w.alloc o).grownBy w' v.ownBlock) (q : Nat) (hq : q < b) (hq2 : q < w.heap.size) : w'.heap[q]? = w.heap[q]? := by
  refine (hg.block q (by simp; omega) (fun e => ?_)).trans (Below.heap_alloc w o q hq2)
  have := (h.lt q e.symm).1
  omega
theorem own_below {w w' a : World} {b B : Nat} {e : TypeId} {size : Nat} {v : Value} {n : Nat} {xs : List Value} {o : Obj} (h : w.ownsRow b e size v n xs) (hg : (w.alloc o).grownBy w' v.ownBlock) (hB : Below B a w) (h1 : B ≤ b) (h2 : B ≤ w.heap.size) : Below B a w' :=
  (hB.alloc h2 o).grown hg (by simp; omega) (fun k ek => Nat.le_trans h1 (h.lt k ek).1)

theorem take_snoc_map (l : List Bool) (k : Nat) (h : k < l.length) : (l.take (k + 1)).map Value.bool = (l.take k).map Value.bool ++ [.bool (l[k]?.getD false)] := by
  rw [List.take_add_one, List.map_append, List.getElem?_eq_getElem h]; rfl

set_option maxRecDepth 4000 in
set_option maxHeartbeats 1000000 in
theorem list_any (N : Int) (A : Option Addr) (n c : Nat) (bs : List UInt8) (w : World) (hn : n = bs.length) (hm : n ≤ maxLen) (hA : Byt w.heap.size w A bs) :
    Calls Tryd.prog 67 #[.agg #[.int .i64 N, .slice A n c]] w (Truths w (lst N bs)) := by
  have hck := fun w1 (h : Below w.heap.size w w1) => rcheck_any N A n c bs w1 hn hm ((hA.below h).mono h.size)
  by_cases hgood : goodB N bs = true
  · obtain ⟨hg0, hg1, hg2, hg3⟩ := (good_iff N bs).1 hgood
    rw [chk_yes hgood] at hck
    have hls : lst N bs = listOf N bs := by simp [lst, hgood]
    rw [hls]
    have hib := good_isBits hgood
    have hgl := good_length hgood
    generalize listOf N bs = l at *
    obtain ⟨i0, hi, hz0, hz1, hz2⟩ := info_parts Tryd.info4
    have HCK := Lib.hid hck; have HL := Lib.hid hg2; have HIB := Lib.hid hib; have HGL := Lib.hid hgl; have HA := Lib.hid hA; have HN := Lib.hid hn
    clear hck hg2 hg3 hgood hA hn hls hib hgl
    unfold maxLen at hm
    go_enter Tryd.func67, Tryd.ntmps67
    go_wp2_with (go_at_call 49; refine (HCK.out _ ((Below.refl _ _).alloc (Nat.le_refl _) _)).mono ?_; rintro e w1 ⟨rfl, hB⟩; obtain ⟨k1, hs, hBw⟩ := boxes1 hB; obtain ⟨c1, c2, f1, f2⟩ := k1.two)
    go_loopw [3, 4] (fun v i wr => ∃ k : Nat, (k : Int) ≤ N ∧ i = .int .i64 k ∧ wr.ownsRow (w.heap.size + 1) 4 1 v k ((l.take k).map Value.bool) ∧ Blk wr w.heap.size 28 #[.int .i64 N, .slice A n c] ∧ Below w.heap.size w wr)
      (fun _ i _ => N.toNat - (intOf i).toNat)
    case atStart => exact ⟨0, by omega, rfl, World.ownsRow_nil _ _ _ _, k1, hBw⟩
    case round =>
      obtain ⟨k, hk, rfl, hrow, q1, hBr⟩ := hrel
      obtain ⟨c3, c4, f3, f4⟩ := q1.two
      clear c1 c2 f1 f2 k1 hB
      by_cases hlt : (k : Int) < N
      · have hone := fun w1 (h : Below w.heap.size w w1) => rbit_any k A n c bs w1 (by omega) (by omega) HN.out (by have := HL.out; omega) ((HA.out.below h).mono h.size)
        simp only [Int.toNat_natCast, HIB.out.2] at hone
        have hts := take_snoc_map l k (by have := HGL.out; omega)
        obtain ⟨bk, hbk⟩ : ∃ bk, bk = l[k]?.getD false := ⟨_, rfl⟩
        rw [← hbk] at hone hts
        have HO := Lib.hid hone; have HT := Lib.hid hts; clear hone hts hbk
        generalize hq : (l.take k).map Value.bool = ql at *
        clear hq
        go_wp2_with (first
          | (go_at_call 77; refine (HO.out _ hBr).mono ?_; rintro e w' ⟨rfl, rfl⟩)
          | (at_builtin; refine wpList_append_own _ rfl _ _ 96 rfl (w.heap.size + 1) 4 i0 (.bool false) 1 1 Tryd.underlying96 hi hz0 hz1 hz2 rfl (by decide) u3 _ _ rfl (hrow.alloc _) ⟨wr.heap.size, 0, none⟩ 1 1 [.bool bk] rfl rfl (cell_one_new _ _ _) (by simp [Value.oneCell']) (by unfold maxLen; omega) (by omega) (by have := q1.lt; simp; omega) ?_; intro v' w2 hown' hgrow _; have hq1 := own_grown_low hrow hgrow w.heap.size (by omega) q1.lt))
        go_roundw
        case rel => exact ⟨k + 1, by omega, by go_num, by rw [HT.out]; exact hown', hq1.trans q1, own_below hrow hgrow hBr (by omega) hBr.size⟩
        case measure => simp [intOf]; omega
      · obtain rfl : k = l.length := by have := HGL.out; omega
        rw [List.take_length] at hrow
        go_wp2
        go_ret
        exact ⟨_, rfl, own_mono hrow (by omega), hBr⟩
  · have hls : lst N bs = [] := by simp [lst, hgood]
    rw [chk_no (by simpa using hgood)] at hck
    rw [hls]
    have HCK := Lib.hid hck
    clear hck hgood hA hn hls
    unfold maxLen at hm
    go_enter Tryd.func67, Tryd.ntmps67
    go_wp2_with (go_at_call 49; refine (HCK.out _ ((Below.refl _ _).alloc (Nat.le_refl _) _)).mono ?_; rintro e w1 ⟨rfl, hB⟩; obtain ⟨k1, hs, hBw⟩ := boxes1 hB; obtain ⟨c1, c2, f1, f2⟩ := k1.two)
    go_ret
    exact ⟨_, rfl, World.ownsRow_nil _ _ _ _, hBw⟩
end Go.Proofs.YtcfbeelljhjnoaaDoor

namespace Go.Proofs.YtcfbeelljhjnoaaDoor
open Go.RowKit

/-- The slice at A holds the truths l, in a block below n₀ (nil or empty where there are none). -/
def Bools (n₀ : Nat) (W : World) (A : Option Addr) (l : List Bool) : Prop :=
  l ≠ [] → ∃ b off, A = some ⟨b, off, none⟩ ∧ b < n₀ ∧ ∀ j, j < l.length → W.cell? ⟨b, off + j, none⟩ = some (.bool (l[j]?.getD false))
theorem Bools.below {n₀ : Nat} {W W' : World} {A : Option Addr} {l : List Bool} (h : Bools n₀ W A l) (hb : Below n₀ W W') : Bools n₀ W' A l := fun hn => by
  obtain ⟨b, off, e, hlt, hc⟩ := h hn
  exact ⟨b, off, e, hlt, fun j hj => (hb.cell (p := ⟨b, off + j, none⟩) hlt).trans (hc j hj)⟩
theorem Bools.mono {n₀ n₁ : Nat} {W : World} {A : Option Addr} {l : List Bool} (h : Bools n₀ W A l) (hn : n₀ ≤ n₁) : Bools n₁ W A l := fun hb => by
  obtain ⟨b, off, e, hlt, hc⟩ := h hb
  exact ⟨b, off, e, Nat.lt_of_lt_of_le hlt hn, hc⟩
theorem Bools.at_ {n₀ : Nat} {W : World} {A : Option Addr} {l : List Bool} (h : Bools n₀ W A l) {k : Nat} (hk : k < l.length) :
    ∃ b off, A = some ⟨b, off, none⟩ ∧ b < n₀ ∧ W.cell? ⟨b, off + k, none⟩ = some (.bool (l[k]?.getD false)) := by
  obtain ⟨b, off, e, hlt, hc⟩ := h (by rintro rfl; simp at hk)
  exact ⟨b, off, e, hlt, hc k hk⟩
theorem bools_of_own {w : World} {base : Nat} {v : Value} {k : Nat} {l : List Bool} (h : w.ownsRow base 4 1 v k (l.map Value.bool)) : ∃ A c, v = .slice A l.length c ∧ Bools w.heap.size w A l := by
  have hk : l.length = k := by have := h.1; simpa using this
  rcases h.2 with ⟨rfl, h0⟩ | ⟨g, cap, cur, rfl, _, hh, _⟩
  · exact ⟨none, 0, by rw [hk, h0], fun hne => absurd (List.eq_nil_of_length_eq_zero (hk.trans h0)) hne⟩
  · refine ⟨some ⟨g, 0, none⟩, cap, by rw [hk], fun _ => ⟨g, 0, rfl, (Array.getElem?_eq_some_iff.1 hh).1, fun j hj => ?_⟩⟩
    have := h.cells (g := g) rfl j (.bool (l[j]?.getD false)) (by simp [hj])
    rwa [addr_add] at this

theorem or_mask (x : UInt8) (k : Nat) (hk : k ≤ 7) (h : x.toNat.testBit k = false) : bits .or .u8 (x.toNat : Int) (2 ^ k) = ((x ^^^ UInt8.ofNat (2 ^ k)).toNat : Int) := by
  have hm : 2 ^ k < 2 ^ 8 := Nat.pow_lt_pow_right (by omega) (by omega)
  have hx := x.toNat_lt
  have e2 : (2 : Int) ^ k = ((2 ^ k : Nat) : Int) := by norm_cast
  rw [e2, u8_or_nat _ _ hx hm, UInt8.toNat_xor, UInt8.toNat_ofNat', Nat.mod_eq_of_lt hm]
  congr 1
  apply Nat.eq_of_testBit_eq
  intro i
  rw [Nat.testBit_or, Nat.testBit_xor, Nat.testBit_two_pow]
  by_cases e : k = i
  · subst e; simp [h]
  · simp [e]

theorem pow256 (j : Nat) (h : j ≤ 7) : (2 : Int) ^ j % 256 = 2 ^ j := by
  have hlt : 2 ^ j < 2 ^ 8 := Nat.pow_lt_pow_right (by omega) (by omega)
  have e : (2 : Int) ^ j = ((2 ^ j : Nat) : Int) := by norm_cast
  rw [e]; generalize 2 ^ j = q at hlt; omega
theorem or_row {w wr : World} {g ob m k : Nat} {l : List Bool} {bs : List UInt8} (h : OutRel w g ob m l k bs wr) :
    Blk (wr.setCell ⟨g, k / 8, none⟩ (.int .u8 (bits .or .u8 ((bs[k / 8]?.getD 0).toNat : Int) (2 ^ (7 - k % 8) % 256)))) g 5 (encB (flipB bs k)) := by
  have hb : bitAt bs k = false := by rw [h.is_.2, paint_get]; simp
  rw [pow256 _ (by omega), or_mask _ _ (by omega) hb]
  have := h.row.set_ (k / 8) (.int .u8 ((bs[k / 8]?.getD 0 ^^^ UInt8.ofNat (2 ^ (7 - k % 8))).toNat : Int))
  rw [encB_set] at this
  exact this

/-- Of, by the document. -/
def ofS (l : List Bool) : Int × List Bool := if 4096 < l.length then (3, []) else (0, l)

set_option maxRecDepth 4000 in
set_option maxHeartbeats 1000000 in
theorem rof_any (A : Option Addr) (n c : Nat) (l : List Bool) (w : World) (hn : n = l.length) (hm : n ≤ maxLen) (hA : Bools w.heap.size w A l) :
    Calls Tryd.prog 68 #[.slice A n c] w (Res w (ofS l)) := by
  have HA := Lib.hid hA; clear hA
  unfold maxLen at hm
  by_cases hlong : 4096 < n
  · have hr : ofS l = (3, []) := by simp [ofS, ← hn, hlong]
    rw [hr]; clear hr
    have HN := Lib.hid hn; clear hn
    go_enter Tryd.func68, Tryd.ntmps68
    go_wp2
    exact bodyPost_ret (v := .tuple #[.agg #[.int .i64 0, .slice none 0 0], .int .i64 3]) (by simp [results, Tryd.results68, go_sem]) rfl (res_err 3 ((Below.refl _ _).alloc (Nat.le_refl _) _))
  · have hr : ofS l = (0, l) := by simp [ofS, ← hn, hlong]
    rw [hr]; clear hr
    have HN := Lib.hid hn; clear hn
    obtain ⟨m, hm2⟩ : ∃ m : Nat, m = (n + 7) / 8 := ⟨_, rfl⟩
    have hm3 : ((n : Int) + 7) / 8 = (m : Int) := by omega
    have HM := Lib.hid hm2; clear hm2
    have hmk := run_make_bytes m (by have := HM.out; omega)
    have hd : decide ((4096 : Int) < (n : Int)) = false := by simp; omega
    go_enter Tryd.func68, Tryd.ntmps68
    go_wp2
    clear hmk hm3 hd
    have hi0 : OutRel w (w.heap.size + 1) (w.heap.size + 1 + 1) m l 0 (List.replicate m 0) (((w.alloc (.cells #[.int .i64 0, .slice none 0 0] 28)).alloc (.cells (encB (List.replicate m 0)) 5)).alloc (.cells #[.int .i64 n, .slice (some ⟨w.heap.size + 1, 0, none⟩) m m] 28)) := by
      have hz := isBits_zeros l.length
      have h2 := HM.out; have h3 := HN.out
      refine ⟨by rw [paint_zero, h2, h3]; exact hz, by simp, ?_, ?_, (((Below.refl _ _).alloc (Nat.le_refl _) _).alloc (by simp) _).alloc (by simp; omega) _, by omega, by omega⟩
      · refine Blk.alloc ?_ _
        simpa using Blk.new (w.alloc (.cells #[.int .i64 0, .slice none 0 0] 28)) 5 (encB (List.replicate m 0))
      · rw [← h3]
        simpa using Blk.new ((w.alloc (.cells #[.int .i64 0, .slice none 0 0] 28)).alloc (.cells (encB (List.replicate m 0)) 5)) 28 #[.int .i64 n, .slice (some ⟨w.heap.size + 1, 0, none⟩) m m]
    have hj0 : Blk (((w.alloc (.cells #[.int .i64 0, .slice none 0 0] 28)).alloc (.cells (encB (List.replicate m 0)) 5)).alloc (.cells #[.int .i64 n, .slice (some ⟨w.heap.size + 1, 0, none⟩) m m] 28)) w.heap.size 28 #[.int .i64 0, .slice none 0 0] := ((Blk.new w 28 _).alloc _).alloc _
    go_loopw [5] (fun i wr => ∃ (k : Nat) (bs' : List UInt8), k ≤ n ∧ i = .int .i64 k ∧ OutRel w (w.heap.size + 1) (w.heap.size + 1 + 1) m l k bs' wr ∧ Blk wr w.heap.size 28 #[.int .i64 0, .slice none 0 0])
      (fun i _ => n - (intOf i).toNat)
    case atStart => exact ⟨0, _, by omega, rfl, hi0, hj0⟩
    case round =>
      obtain ⟨k, bs', hk, rfl, hO, q1⟩ := hrel
      clear hi0 hj0
      obtain ⟨c1, c2, f1, f2⟩ := q1.two
      obtain ⟨c5, c6, f5, f6⟩ := hO.box.two
      rw [← HN.out] at c5
      by_cases hlt : k < n
      · obtain ⟨b, off, rfl, hbl, hcell⟩ := (HA.out.below hO.low).at_ (k := k) (by have := HN.out; omega)
        have hlen : bs'.length = m := hO.len
        have hkm : k / 8 < m := by have := HM.out; omega
        have hrc := hO.row.cell (k / 8)
        rw [encB_get bs' _ (by omega)] at hrc
        have hrf := hO.row.frozen (k / 8)
        have HLEN := Lib.hid hlen; clear hlen
        by_cases hb : l[k]?.getD false = true
        · rw [hb] at hcell
          have HB := Lib.hid hb; clear hb
          have hrow2 := or_row hO
          have HR := Lib.hid hrow2; clear hrow2
          go_wp2
          go_roundw
          case rel =>
            have hg := only_setCell (World.grownBy.refl wr (some (w.heap.size + 1))) (p := ⟨w.heap.size + 1, k / 8, none⟩) (.inl rfl) (.int .u8 (bits .or .u8 ((bs'[k / 8]?.getD 0).toNat : Int) (2 ^ (7 - k % 8) % 256)))
            exact ⟨k + 1, _, by omega, by go_num, hO.turned (by have := HN.out; omega) HB.out HR.out hg, q1.grown hg (by simp)⟩
          case measure => simp [intOf]; omega
        · rw [Bool.not_eq_true] at hb
          rw [hb] at hcell
          have HB := Lib.hid hb; clear hb
          go_wp2
          go_roundw
          case rel => exact ⟨k + 1, _, by omega, by go_num, hO.stayed (by have := HN.out; omega) HB.out, q1⟩
          case measure => simp [intOf]; omega
      · have hlw : w.heap.size < wr.heap.size := q1.lt
        go_wp2
        have hfin := hO.is_
        rw [show k = l.length by have := HN.out; omega, paint_full] at hfin
        have hrow : Blk ((wr.setCell ⟨w.heap.size, 0, none⟩ (.int .i64 n)).setCell ⟨w.heap.size, 1, none⟩ (.slice (some ⟨w.heap.size + 1, 0, none⟩) m m)) (w.heap.size + 1) 5 (encB bs') := (hO.row.far (p := ⟨w.heap.size, 0, none⟩) (by simp) _).far (p := ⟨w.heap.size, 1, none⟩) (by simp) _
        refine bodyPost_ret (v := .tuple #[.agg #[.int .i64 n, .slice (some ⟨w.heap.size + 1, 0, none⟩) m m], .int .i64 0]) (by simp [results, Tryd.results68, go_sem, c1, c2]) rfl
          ⟨some ⟨w.heap.size + 1, 0, none⟩, m, m, bs', by rw [HN.out], hO.len.symm, hfin, by have := HN.out; dsimp only; omega, byt_of_blk hrow, (hO.low.setCell (p := ⟨w.heap.size, 0, none⟩) (by simp) _).setCell (p := ⟨w.heap.size, 1, none⟩) (by simp) _, fun a ha _ => by injection ha with ha; subst ha; exact hO.ge⟩
end Go.Proofs.YtcfbeelljhjnoaaDoor

namespace Go.Proofs.YtcfbeelljhjnoaaDoor
open Go.RowKit

/-- Whether bits are the same. -/
def sameB (N : Int) (bs : List UInt8) (N' : Int) (bs' : List UInt8) : Bool := decide (N = N') && decide (bs = bs')
theorem sameB_self (N : Int) (bs : List UInt8) : sameB N bs N bs = true := by simp [sameB]
theorem str_list (l : List UInt8) : (⟨l.toArray⟩ : ByteArray).toList = l := by rw [ByteArray.toList_eq]
theorem str_eq (l r : List UInt8) : ((⟨l.toArray⟩ : ByteArray).toList == (⟨r.toArray⟩ : ByteArray).toList) = decide (l = r) := by
  rw [str_list, str_list, Bool.eq_iff_iff]
  simp

set_option maxRecDepth 4000 in
set_option maxHeartbeats 1000000 in
theorem rsame_any (N N' : Int) (A A' : Option Addr) (n n' c c' : Nat) (bs bs' : List UInt8) (w : World) (hn : n = bs.length) (hn' : n' = bs'.length) (hA : Byt w.heap.size w A bs) (hA' : Byt w.heap.size w A' bs') :
    Calls Tryd.prog 15 #[.agg #[.int .i64 N, .slice A n c], .agg #[.int .i64 N', .slice A' n' c']] w fun e w' => e = .returned (.bool (sameB N bs N' bs')) ∧ Below w.heap.size w w' := by
  have hB : Below w.heap.size w ((w.alloc (.cells #[.int .i64 N, .slice A n c] 28)).alloc (.cells #[.int .i64 N', .slice A' n' c'] 28)) := ((Below.refl _ _).alloc (Nat.le_refl _) _).alloc (by simp) _
  have hs1 : (convert 24 9 (.slice A n c)).run Tryd.prog ((w.alloc (.cells #[.int .i64 N, .slice A n c] 28)).alloc (.cells #[.int .i64 N', .slice A' n' c'] 28)) = _ := run_string_bytes hn (hA.below hB)
  have hs2 : (convert 24 9 (.slice A' n' c')).run Tryd.prog ((w.alloc (.cells #[.int .i64 N, .slice A n c] 28)).alloc (.cells #[.int .i64 N', .slice A' n' c'] 28)) = _ := run_string_bytes hn' (hA'.below hB)
  clear hA hA' hn hn'
  by_cases hN : N = N'
  · subst hN
    have hr : sameB N bs N bs' = ((⟨bs.toArray⟩ : ByteArray).toList == (⟨bs'.toArray⟩ : ByteArray).toList) := by rw [str_eq]; simp [sameB]
    rw [hr]; clear hr
    generalize (⟨bs.toArray⟩ : ByteArray) = s1 at *
    generalize (⟨bs'.toArray⟩ : ByteArray) = s2 at *
    go_enter Tryd.func15, Tryd.ntmps15
    go_wp2
    go_ret
    exact ⟨rfl, hB⟩
  · have hr : sameB N bs N' bs' = false := by simp [sameB, hN]
    rw [hr]; clear hr hs1 hs2
    have hb : (N == N') = false := by simpa using hN
    clear hN
    go_enter Tryd.func15, Tryd.ntmps15
    go_wp2
    go_ret
    exact ⟨rfl, hB⟩

set_option maxRecDepth 4000 in
set_option maxHeartbeats 1000000 in
theorem bequal_any (A A' : Option Addr) (n n' c c' : Nat) (bs bs' : List UInt8) (w : World) (hn : n = bs.length) (hn' : n' = bs'.length) (hA : Byt w.heap.size w A bs) (hA' : Byt w.heap.size w A' bs') :
    Calls Tryd.prog 42 #[.slice A n c, .slice A' n' c'] w fun e w' => e = .returned (.bool (decide (bs = bs'))) ∧ w = w' := by
  have hs1 : (convert 24 9 (.slice A n c)).run Tryd.prog w = _ := run_string_bytes hn hA
  have hs2 : (convert 24 9 (.slice A' n' c')).run Tryd.prog w = _ := run_string_bytes hn' hA'
  clear hA hA' hn hn'
  rw [← str_eq]
  generalize (⟨bs.toArray⟩ : ByteArray) = s1 at *
  generalize (⟨bs'.toArray⟩ : ByteArray) = s2 at *
  go_enter Tryd.func42, Tryd.ntmps42
  go_wp2
  go_ret
  exact ⟨rfl, rfl⟩

end Go.Proofs.YtcfbeelljhjnoaaDoor

namespace Go.Proofs.YtcfbeelljhjnoaaDoor
open Go.RowKit

theorem numBits_take (v W k : Nat) (h : k < W) : (numBits v W).take (k + 1) = (numBits v W).take k ++ [v.testBit (W - 1 - k)] := by
  rw [List.take_add_one, List.getElem?_eq_getElem (by simp [numBits, h])]
  simp [numBits]

set_option maxRecDepth 4000 in
set_option maxHeartbeats 1000000 in
theorem rput_any (N width : Int) (v : Nat) (A : Option Addr) (n c : Nat) (bs : List UInt8) (w : World) (hn : n = bs.length) (hm : n ≤ maxLen) (hA : Byt w.heap.size w A bs) (hv : v < 2 ^ 64) :
    Calls Tryd.prog 65 #[.agg #[.int .i64 N, .slice A n c], .int .u64 v, .int .i64 width] w (Res w (putS N bs v width)) := by
  have hck := fun w1 (h : Below w.heap.size w w1) => rcheck_any N A n c bs w1 hn hm ((hA.below h).mono h.size)
  have hli := fun w1 (h : Below w.heap.size w w1) => list_any N A n c bs w1 hn hm ((hA.below h).mono h.size)
  have HCK := Lib.hid hck; have HLI := Lib.hid hli; clear hck hli hA hn
  unfold maxLen at hm
  by_cases hgood : goodB N bs = true
  · obtain ⟨hg0, hg1, hg2, hg3⟩ := (good_iff N bs).1 hgood
    have hk := chk_yes hgood
    have HK := Lib.hid hk; clear hk hg3
    have HG2 := Lib.hid hg2; clear hg2
    by_cases hwid : 0 ≤ width ∧ width ≤ 64
    · obtain ⟨hw0, hw1⟩ := hwid
      obtain ⟨wd, rfl⟩ := Int.eq_ofNat_of_zero_le hw0
      have hwd : wd ≤ 64 := by omega
      have hd1 : decide ((wd : Int) < 0) = false := by simp
      have hd2 : decide ((64 : Int) < (wd : Int)) = false := by simp; omega
      by_cases hsh : v / 2 ^ wd = 0
      · have hshb : ((v : Int) / 2 ^ wd != 0) = false := by
          have : ((v : Int) / 2 ^ wd) = ((v / 2 ^ wd : Nat) : Int) := by norm_cast
          rw [this, hsh]; rfl
        have hr : putS N bs v wd = ofS (lst N bs ++ numBits v wd) := by
          have h1 := good_length hgood
          have h2 : lst N bs = listOf N bs := by simp [lst, hgood]
          unfold putS ofS
          rw [if_pos hgood, Int.toNat_natCast, if_pos ⟨⟨hw0, hw1⟩, hsh⟩, List.length_append, numBits_length, h2]
          by_cases hq : 4096 - N < (wd : Int)
          · rw [if_pos hq, if_pos (by omega)]
          · rw [if_neg hq, if_neg (by omega)]
        have hll := lst_length N bs
        rw [hr]; clear hr hgood
        generalize lst N bs = l at *
        have HSH := Lib.hid hsh; clear hsh
        obtain ⟨i0, hi, hz0, hz1, hz2⟩ := info_parts Tryd.info4
        go_enter Tryd.func65, Tryd.ntmps65
        go_wp2_with (first
            | (go_at_call 49; refine (HCK.out _ (((Below.refl _ _).alloc (Nat.le_refl _) _).alloc (by simp) _)).mono ?_; rintro e w1 ⟨rfl, hB⟩; rw [HK.out]; obtain ⟨k1, k2, hs, hBw⟩ := boxes2 hB; obtain ⟨c1, c2, f1, f2⟩ := k2.two; obtain ⟨c3, c4, f3, f4⟩ := k1.two; have hl1 : w.heap.size + 1 < w1.heap.size := by omega)
            | (go_at_call 67; refine (HLI.out _ hBw).mono ?_; rintro e w2 ⟨lv, rfl, hown, hB2⟩))
        all_goals
          have j1 := k1.below hB2 k1.lt
          have j2 := k2.below hB2 k2.lt
          have hBw2 := hBw.trans (hB2.mono hBw.size)
          have hs2 := hB2.size
          clear c1 c2 c3 c4 f1 f2 f3 f4 k1 k2 hB hd1 hd2 hshb hB2
          go_loopw [8, 9] (fun lv i wr => ∃ k : Nat, k ≤ wd ∧ i = .int .i64 ((wd : Int) - 1 - k) ∧ wr.ownsRow w1.heap.size 4 1 lv (l.length + k) ((l ++ (numBits v wd).take k).map Value.bool) ∧ Blk wr w.heap.size 28 #[.int .i64 N, .slice A n c] ∧ Blk wr (w.heap.size + 1) 28 #[.int .i64 0, .slice none 0 0] ∧ Below w.heap.size w wr ∧ w1.heap.size ≤ wr.heap.size)
            (fun _ i _ => (intOf i + 1).toNat)
          case atStart => exact ⟨0, by omega, by simp, by simpa using hown, j1, j2, hBw2, hs2⟩
          case round =>
            obtain ⟨k, hk, rfl, hrow, q1, q2, hBr, hsr⟩ := hrel
            by_cases hlt : k < wd
            · have hbt := shr_test v (wd - 1 - k)
              have hnt := numBits_take v wd k hlt
              obtain ⟨bk, hbk⟩ : ∃ bk, bk = v.testBit (wd - 1 - k) := ⟨_, rfl⟩
              rw [← hbk] at hbt hnt
              have hx : (wd : Int) - 1 - k = ((wd - 1 - k : Nat) : Int) := by omega
              rw [hx]
              obtain ⟨j, hj⟩ : ∃ j : Nat, j = wd - 1 - k := ⟨_, rfl⟩
              rw [← hj] at hbt ⊢
              have hjl : j < 64 := by omega
              have HJ := Lib.hid hj; have HNT := Lib.hid hnt; have HX := Lib.hid hx
              clear hj hnt hbk hx
              go_wp2_with (at_builtin; refine wpList_append_own _ rfl _ _ 96 rfl w1.heap.size 4 i0 (.bool false) 1 1 Tryd.underlying96 hi hz0 hz1 hz2 rfl (by decide) u8 _ _ rfl (hrow.alloc _) ⟨wr.heap.size, 0, none⟩ 1 1 [.bool bk] rfl rfl (cell_one_new _ _ _) (by simp [Value.oneCell']) (by unfold maxLen; omega) (by omega) (by simp; omega) ?_; intro v' w2 hown' hgrow _; have hq1 := own_grown_low hrow hgrow w.heap.size (by omega) q1.lt; have hq2 := own_grown_low hrow hgrow (w.heap.size + 1) (by omega) q2.lt; have hgs := hgrow.size)
              go_roundw
              case rel =>
                refine ⟨k + 1, by omega, ?_, ?_, hq1.trans q1, hq2.trans q2, own_below hrow hgrow hBr (by omega) hBr.size, by simp at hgs; omega⟩
                · have := HJ.out; congr 1; omega
                · rw [HNT.out, ← List.append_assoc, List.map_append (l₂ := [bk])]; exact hown'
              case measure => have := HJ.out; simp [intOf]
            · have hneg : (wd : Int) - 1 - k < 0 := by omega
              have hall : (numBits v wd).take k = numBits v wd := List.take_of_length_le (by rw [numBits_length]; omega)
              rw [hall] at hrow
              obtain ⟨LA, lc, rfl, hLA⟩ := bools_of_own hrow
              have hof := rof_any LA _ lc _ wr rfl (by rw [List.length_append, numBits_length]; unfold maxLen; omega) hLA
              have HOF := Lib.hid hof; clear hof hLA hall
              generalize (l ++ numBits v wd).length = LL at *
              generalize ofS (l ++ numBits v wd) = R at *
              obtain ⟨c3, c4, f3, f4⟩ := q2.two
              go_wp2_with (go_at_call 68; refine HOF.out.mono ?_; rintro e w3 ⟨A3, n3, c5, bs3, rfl, hn3, his3, hl3, hA3, hB3, hF3⟩; have HN3 := Lib.hid hn3; clear hn3; have q3 := q2.below hB3 q2.lt; obtain ⟨d1, d2, g1, g2⟩ := q3.two)
              have hBf := (hBr.trans (hB3.mono hBr.size))
              refine bodyPost_ret (v := .tuple #[.agg #[.int .i64 R.2.length, .slice A3 n3 c5], .int .i64 R.1]) (by simp [results, Tryd.results65, go_sem, d1, d2]) rfl
                ⟨A3, n3, c5, bs3, rfl, HN3.out, his3, hl3, ?_, (hBf.setCell (p := ⟨w.heap.size + 1, 0, none⟩) (by simp) _).setCell (p := ⟨w.heap.size + 1, 1, none⟩) (by simp) _, fun a ha hb => Nat.le_trans hBr.size (hF3 a ha hb)⟩
              have h1 := q2.lt
              have h2 := (hA3.set_low hF3 (p := ⟨w.heap.size + 1, 0, none⟩) h1 (.int .i64 R.2.length)).set_low hF3 (p := ⟨w.heap.size + 1, 1, none⟩) h1 (.slice A3 n3 c5)
              simpa using h2
      · have hr : putS N bs v wd = (2, []) := by
          unfold putS
          rw [if_pos hgood, Int.toNat_natCast, if_neg (fun h => hsh h.2)]
        have hw3 : wd < 64 := by
          rcases Nat.lt_or_ge wd 64 with h | h
          · exact h
          · obtain rfl : wd = 64 := by omega
            exact absurd (Nat.div_eq_of_lt hv) hsh
        have hshb : ((v : Int) / 2 ^ wd != 0) = true := by
          have : ((v : Int) / 2 ^ wd) = ((v / 2 ^ wd : Nat) : Int) := by norm_cast
          rw [this]; rw [bne_iff_ne]; exact_mod_cast hsh
        rw [hr]; clear hr hgood hsh
        go_enter Tryd.func65, Tryd.ntmps65
        go_wp2_with (first
            | (go_at_call 49; refine (HCK.out _ (((Below.refl _ _).alloc (Nat.le_refl _) _).alloc (by simp) _)).mono ?_; rintro e w1 ⟨rfl, hB⟩; rw [HK.out]; obtain ⟨k1, k2, hs, hBw⟩ := boxes2 hB; obtain ⟨c1, c2, f1, f2⟩ := k2.two; obtain ⟨c3, c4, f3, f4⟩ := k1.two; have hl1 : w.heap.size + 1 < w1.heap.size := by omega)
            | fail)
        refine bodyPost_ret (v := .tuple #[.agg #[.int .i64 0, .slice none 0 0], .int .i64 2]) (by simp [results, Tryd.results65, go_sem, c1, c2]) rfl
          (res_err 2 ((hBw.setCell (p := ⟨w.heap.size + 1, 0, none⟩) (by simp) _).setCell (p := ⟨w.heap.size + 1, 1, none⟩) (by simp) _))
    · have hr : putS N bs v width = (2, []) := by
        unfold putS
        rw [if_pos hgood, if_neg (fun h => hwid h.1)]
      rw [hr]; clear hr hgood
      by_cases hw0 : width < 0
      · have hd1 : decide (width < 0) = true := by simpa using hw0
        clear hwid
        go_enter Tryd.func65, Tryd.ntmps65
        go_wp2_with (first
            | (go_at_call 49; refine (HCK.out _ (((Below.refl _ _).alloc (Nat.le_refl _) _).alloc (by simp) _)).mono ?_; rintro e w1 ⟨rfl, hB⟩; rw [HK.out]; obtain ⟨k1, k2, hs, hBw⟩ := boxes2 hB; obtain ⟨c1, c2, f1, f2⟩ := k2.two; obtain ⟨c3, c4, f3, f4⟩ := k1.two; have hl1 : w.heap.size + 1 < w1.heap.size := by omega)
            | fail)
        refine bodyPost_ret (v := .tuple #[.agg #[.int .i64 0, .slice none 0 0], .int .i64 2]) (by simp [results, Tryd.results65, go_sem, c1, c2]) rfl
          (res_err 2 ((hBw.setCell (p := ⟨w.heap.size + 1, 0, none⟩) (by simp) _).setCell (p := ⟨w.heap.size + 1, 1, none⟩) (by simp) _))
      · have hd1 : decide (width < 0) = false := by simpa using hw0
        have hd2 : decide ((64 : Int) < width) = true := by simp; omega
        clear hwid
        go_enter Tryd.func65, Tryd.ntmps65
        go_wp2_with (first
            | (go_at_call 49; refine (HCK.out _ (((Below.refl _ _).alloc (Nat.le_refl _) _).alloc (by simp) _)).mono ?_; rintro e w1 ⟨rfl, hB⟩; rw [HK.out]; obtain ⟨k1, k2, hs, hBw⟩ := boxes2 hB; obtain ⟨c1, c2, f1, f2⟩ := k2.two; obtain ⟨c3, c4, f3, f4⟩ := k1.two; have hl1 : w.heap.size + 1 < w1.heap.size := by omega)
            | fail)
        refine bodyPost_ret (v := .tuple #[.agg #[.int .i64 0, .slice none 0 0], .int .i64 2]) (by simp [results, Tryd.results65, go_sem, c1, c2]) rfl
          (res_err 2 ((hBw.setCell (p := ⟨w.heap.size + 1, 0, none⟩) (by simp) _).setCell (p := ⟨w.heap.size + 1, 1, none⟩) (by simp) _))
  · have hr : putS N bs v width = (10, []) := by simp [putS, hgood]
    have hk := chk_no (N := N) (bs := bs) (by simpa using hgood)
    rw [hr]; clear hr hgood
    have HK := Lib.hid hk; clear hk
    go_enter Tryd.func65, Tryd.ntmps65
    go_wp2_with (first
            | (go_at_call 49; refine (HCK.out _ (((Below.refl _ _).alloc (Nat.le_refl _) _).alloc (by simp) _)).mono ?_; rintro e w1 ⟨rfl, hB⟩; rw [HK.out]; obtain ⟨k1, k2, hs, hBw⟩ := boxes2 hB; obtain ⟨c1, c2, f1, f2⟩ := k2.two; obtain ⟨c3, c4, f3, f4⟩ := k1.two; have hl1 : w.heap.size + 1 < w1.heap.size := by omega)
            | fail)
    refine bodyPost_ret (v := .tuple #[.agg #[.int .i64 0, .slice none 0 0], .int .i64 10]) (by simp [results, Tryd.results65, go_sem, c1, c2]) rfl
          (res_err 10 ((hBw.setCell (p := ⟨w.heap.size + 1, 0, none⟩) (by simp) _).setCell (p := ⟨w.heap.size + 1, 1, none⟩) (by simp) _))
end Go.Proofs.YtcfbeelljhjnoaaDoor

namespace Go.Proofs.YtcfbeelljhjnoaaDoor
open Go.RowKit

theorem u64_more (x : Nat) (h : 2 * x < 2 ^ 64) : IntKind.u64.wrap (((2 * x : Nat) : Int) + 1) = ((2 * x + 1 : Nat) : Int) := by
  rw [IntKind.wrap_u64]; omega

set_option maxRecDepth 4000 in
set_option maxHeartbeats 1000000 in
theorem rget_any (N at_ width : Int) (A : Option Addr) (n c : Nat) (bs : List UInt8) (w : World) (hn : n = bs.length) (hm : n ≤ maxLen) (hA : Byt w.heap.size w A bs) :
    Calls Tryd.prog 78 #[.agg #[.int .i64 N, .slice A n c], .int .i64 at_, .int .i64 width] w (Num w (getS N bs at_ width)) := by
  have HA := Lib.hid hA
  have HN := Lib.hid hn; clear hn
  have hck := fun w1 (h : Below w.heap.size w w1) => rcheck_any N A n c bs w1 HN.out hm ((hA.below h).mono h.size)
  have HCK := Lib.hid hck; clear hck hA
  unfold maxLen at hm
  by_cases hgood : goodB N bs = true
  · obtain ⟨hg0, hg1, hg2, hg3⟩ := (good_iff N bs).1 hgood
    clear hg3
    have hk := chk_yes hgood
    have HK := Lib.hid hk; clear hk
    by_cases hbad : (0 ≤ width ∧ width ≤ 64) ∧ 0 ≤ at_ ∧ at_ ≤ N - width
    · obtain ⟨⟨hw0, hw1⟩, ha0, ha1⟩ := hbad
      have hr : getS N bs at_ width = (0, numOf (((listOf N bs).drop at_.toNat).take width.toNat)) := by simp [getS, hgood, hw0, hw1, ha0, ha1]
      rw [hr]; clear hr
      have hib := good_isBits hgood
      have hll : (listOf N bs).length = N.toNat := listOf_length N bs
      generalize hl : listOf N bs = l at *
      have HG2 := Lib.hid hg2; clear hg2
      have HIB := Lib.hid hib; clear hib
      have HLL := Lib.hid hll; clear hll hl hgood
      have hd1 : decide (width < 0) = false := by simpa using hw0
      have hd2 : decide ((64 : Int) < width) = false := by simpa using hw1
      have hd3 : decide (at_ < 0) = false := by simpa using ha0
      have hd4 : decide (N < at_) = false := by simp; omega
      have hd5 : decide (N - at_ < width) = false := by simp; omega
      obtain ⟨at', rfl⟩ := Int.eq_ofNat_of_zero_le ha0
      obtain ⟨wd, rfl⟩ := Int.eq_ofNat_of_zero_le hw0
      simp only [Int.toNat_natCast] at *
      go_enter Tryd.func78, Tryd.ntmps78
      go_wp2_with (go_at_call 49; refine (HCK.out _ ((Below.refl _ _).alloc (Nat.le_refl _) _)).mono ?_; rintro e w1 ⟨rfl, hB⟩; rw [HK.out]; obtain ⟨k1, hs, hBw⟩ := boxes1 hB; obtain ⟨c1, c2, f1, f2⟩ := k1.two)
      go_loopw [8, 9] (fun v i wr => ∃ k : Nat, k ≤ wd ∧ i = .int .i64 ((at' + k : Nat) : Int) ∧ v = .int .u64 (numOf ((l.drop at').take k)) ∧ wr = w1)
        (fun _ i _ => at' + wd - (intOf i).toNat)
      case atStart => exact ⟨0, by omega, by simp, rfl, rfl⟩
      case round =>
        obtain ⟨k, hk, rfl, rfl, rfl⟩ := hrel
        by_cases hlt : k < wd
        · have hsm := num_small (l.drop at') k (by omega)
          have hts := take_snoc_get l at' k (by have := HLL.out; omega)
          have hone := rbit_any (at' + k : Nat) A n c bs wr (by omega) (by omega) HN.out (by have := HG2.out; omega) ((HA.out.below hBw).mono hBw.size)
          rw [Int.toNat_natCast, HIB.out.2] at hone
          have hnx : numOf ((l.drop at').take (k + 1)) = 2 * numOf ((l.drop at').take k) + (l[at' + k]?.getD false).toNat := by rw [hts, numOf_snoc]
          generalize numOf ((l.drop at').take k) = x at *
          have hwx := u64_twice x hsm
          have hor := u64_more x hsm
          obtain ⟨y, hy⟩ : ∃ y, y = 2 * x := ⟨_, rfl⟩
          rw [← hy] at hwx hor hnx
          obtain ⟨z, hz⟩ : ∃ z, z = y + 1 := ⟨_, rfl⟩
          rw [← hz] at hor
          clear hts hsm
          have HY := Lib.hid hy; clear hy
          have HZ := Lib.hid hz; clear hz
          obtain ⟨p, hp⟩ : ∃ p, p = at' + k := ⟨_, rfl⟩
          rw [← hp] at hone hnx ⊢
          have hp2 : p < at' + wd := by omega
          have hp3 : p ≤ 8192 := by omega
          have HP := Lib.hid hp; clear hp
          by_cases hb : l[p]?.getD false = true
          · rw [hb] at hone hnx
            have HO := Lib.hid hone; have HX := Lib.hid hnx; clear hone hnx hb
            go_wp2_with (go_at_call 77; refine HO.out.mono ?_; rintro e w3 ⟨rfl, rfl⟩)
            go_roundw
            case rel => exact ⟨k + 1, by omega, by rw [HP.out]; go_num, by rw [HX.out, HZ.out]; rfl, by first | rfl | trivial⟩
            case measure => have := HP.out; simp [intOf]; omega
          · rw [Bool.not_eq_true] at hb
            rw [hb] at hone hnx
            have HO := Lib.hid hone; have HX := Lib.hid hnx; clear hone hnx hb
            go_wp2_with (go_at_call 77; refine HO.out.mono ?_; rintro e w3 ⟨rfl, rfl⟩)
            go_roundw
            case rel => exact ⟨k + 1, by omega, by rw [HP.out]; go_num, by rw [HX.out]; rfl, by first | rfl | trivial⟩
            case measure => have := HP.out; simp [intOf]; omega
        · obtain rfl : k = wd := by omega
          go_wp2
          go_ret2
          exact ⟨rfl, hBw⟩
    · have hr : getS N bs at_ width = (2, 0) := by
        unfold getS
        rw [if_pos hgood, if_neg hbad]
      rw [hr]; clear hr hgood
      have HG2 := Lib.hid hg2; clear hg2
      have HBAD := Lib.hid hbad; clear hbad
      go_enter Tryd.func78, Tryd.ntmps78
      go_wp2_with (go_at_call 49; refine (HCK.out _ ((Below.refl _ _).alloc (Nat.le_refl _) _)).mono ?_; rintro e w1 ⟨rfl, hB⟩; rw [HK.out]; obtain ⟨k1, hs, hBw⟩ := boxes1 hB; obtain ⟨c1, c2, f1, f2⟩ := k1.two)
      all_goals first
        | (go_ret2; exact ⟨rfl, hBw⟩)
        | (have hq := HBAD.out; exfalso; omega)
  · have hr : getS N bs at_ width = (10, 0) := by simp [getS, hgood]
    have hk := chk_no (N := N) (bs := bs) (by simpa using hgood)
    rw [hr]; clear hr hgood
    have HK := Lib.hid hk; clear hk
    go_enter Tryd.func78, Tryd.ntmps78
    go_wp2_with (go_at_call 49; refine (HCK.out _ ((Below.refl _ _).alloc (Nat.le_refl _) _)).mono ?_; rintro e w1 ⟨rfl, hB⟩; rw [HK.out]; obtain ⟨k1, hs, hBw⟩ := boxes1 hB; obtain ⟨c1, c2, f1, f2⟩ := k1.two)
    go_ret2
    exact ⟨rfl, hBw⟩
end Go.Proofs.YtcfbeelljhjnoaaDoor

namespace Go.Proofs.YtcfbeelljhjnoaaDoor
open Go.RowKit

/-- Is a byte a digit? -/
def isDig (x : UInt8) : Bool := x == 48 || x == 49
/-- Parse, by the document. -/
def parseS (s : List UInt8) : Int × List Bool := if 4096 < s.length then (3, []) else if s.all isDig = true then (0, s.map (· == 49)) else (11, [])

theorem bytes_length (s : ByteArray) : s.data.toList.length = s.size := Array.length_toList
theorem byte_at (s : ByteArray) (k : Nat) (h : k < s.size) : s.data.toList[k]? = some s[k] := by
  rw [List.getElem?_eq_getElem (by rw [bytes_length]; exact h)]
  rfl
theorem take_all (s : ByteArray) (k : Nat) (h : k < s.size) : (s.data.toList.take (k + 1)).all isDig = ((s.data.toList.take k).all isDig && isDig s[k]) := by
  rw [List.take_add_one, byte_at s k h, List.all_append]
  simp
theorem digit_at (s : ByteArray) (k : Nat) (h : k < s.size) : (s.data.toList.map (· == 49))[k]?.getD false = (s[k] == 49) := by
  rw [List.getElem?_map, byte_at s k h]
  rfl
theorem is48 (x : UInt8) : ((x.toNat : Int) == 48) = (x == 48) := by
  rw [Bool.eq_iff_iff, beq_iff_eq, beq_iff_eq, ← UInt8.toNat_inj]
  have : (48 : UInt8).toNat = 48 := rfl
  omega
theorem is49 (x : UInt8) : ((x.toNat : Int) == 49) = (x == 49) := by
  rw [Bool.eq_iff_iff, beq_iff_eq, beq_iff_eq, ← UInt8.toNat_inj]
  have : (49 : UInt8).toNat = 49 := rfl
  omega
theorem not_all (s : ByteArray) (k : Nat) (h : k < s.size) (hd : isDig s[k] = false) : s.data.toList.all isDig = false := by
  rw [List.all_eq_false]
  exact ⟨s[k], List.mem_of_getElem? (byte_at s k h), by rw [hd]; decide⟩

end Go.Proofs.YtcfbeelljhjnoaaDoor

namespace Go.Proofs.YtcfbeelljhjnoaaDoor
open Go.RowKit

theorem take_snoc_dig (s : ByteArray) (k : Nat) (h : k < s.size) : ((s.data.toList.take (k + 1)).map (· == 49)).map Value.bool = ((s.data.toList.take k).map (· == 49)).map Value.bool ++ [.bool (s[k] == 49)] := by
  rw [List.take_add_one, byte_at s k h]; simp

theorem take_snoc_text (l : List Bool) (k : Nat) (h : k < l.length) : ((l.take (k + 1)).map dig).map (fun x => Value.int .u8 (x.toNat : Int)) = ((l.take k).map dig).map (fun x => Value.int .u8 (x.toNat : Int)) ++ [.int .u8 ((dig (l[k]?.getD false)).toNat : Int)] := by
  rw [List.take_add_one, List.getElem?_eq_getElem h, List.map_append, List.map_append]; rfl

set_option maxRecDepth 4000 in
set_option maxHeartbeats 1000000 in
theorem rtext_any (N : Int) (A : Option Addr) (n c : Nat) (bs : List UInt8) (w : World) (hn : n = bs.length) (hm : n ≤ maxLen) (hA : Byt w.heap.size w A bs) :
    Calls Tryd.prog 38 #[.agg #[.int .i64 N, .slice A n c]] w fun e w' => e = .returned (.string (textOf (lst N bs))) ∧ Below w.heap.size w w' := by
  have hli := fun w1 (h : Below w.heap.size w w1) => list_any N A n c bs w1 hn hm ((hA.below h).mono h.size)
  have hll := lst_length N bs
  generalize lst N bs = l at *
  have HLI := Lib.hid hli; clear hli hA hn
  unfold maxLen at hm
  obtain ⟨i0, hi, hz0, hz1, hz2⟩ := info_parts Tryd.info5
  go_enter Tryd.func38, Tryd.ntmps38
  go_wp2_with (go_at_call 67; refine (HLI.out _ ((Below.refl _ _).alloc (Nat.le_refl _) _)).mono ?_; rintro e w1 ⟨lv, rfl, hown, hB⟩; obtain ⟨LA, lc, rfl, hLA⟩ := bools_of_own hown; obtain ⟨k1, hs, hBw⟩ := boxes1 hB)
  clear hown hB k1
  go_loopw [3, 5] (fun sv i wr => ∃ (k : Nat), k ≤ l.length ∧ i = .int .i64 k ∧ wr.ownsRow w1.heap.size 5 1 sv k (((l.take k).map dig).map (fun x => Value.int .u8 (x.toNat : Int))) ∧ Below w1.heap.size w1 wr)
    (fun _ i _ => l.length - (intOf i).toNat)
  case atStart => exact ⟨0, by omega, rfl, World.ownsRow_nil _ _ _ _, Below.refl _ _⟩
  case round =>
    obtain ⟨k, hk, rfl, hrow, hBr⟩ := hrel
    have hBs := hBr.size
    by_cases hlt : k < l.length
    · obtain ⟨b, off, rfl, hbl, hcell⟩ := (hLA.below hBr).at_ (k := k) hlt
      have hts := take_snoc_text l k hlt
      generalize hq : ((l.take k).map dig).map (fun x => Value.int .u8 (x.toNat : Int)) = ql at *
      clear hq
      by_cases hb : l[k]?.getD false = true
      · rw [hb] at hcell hts
        have HTS := Lib.hid hts; clear hts hb
        go_wp2_with (at_builtin; refine wpList_append_own _ rfl _ _ 24 rfl w1.heap.size 5 i0 (.int .u8 0) 1 1 Tryd.underlying24 hi hz0 hz1 hz2 rfl (by decide) u3 _ _ rfl (hrow.alloc _) ⟨wr.heap.size, 0, none⟩ 1 1 [.int .u8 49] rfl rfl (cell_one_new _ _ _) (by simp [Value.oneCell']) (by unfold maxLen; omega) (by omega) (by simp; omega) ?_; intro v' w2 hown' hgrow _)
        go_roundw
        case rel => exact ⟨k + 1, by omega, by go_num, by rw [HTS.out]; exact hown', own_below hrow hgrow hBr (Nat.le_refl _) hBr.size⟩
        case measure => simp [intOf]; omega
      · rw [Bool.not_eq_true] at hb
        rw [hb] at hcell hts
        have HTS := Lib.hid hts; clear hts hb
        go_wp2_with (at_builtin; refine wpList_append_own _ rfl _ _ 24 rfl w1.heap.size 5 i0 (.int .u8 0) 1 1 Tryd.underlying24 hi hz0 hz1 hz2 rfl (by decide) u3 _ _ rfl (hrow.alloc _) ⟨wr.heap.size, 0, none⟩ 1 1 [.int .u8 48] rfl rfl (cell_one_new _ _ _) (by simp [Value.oneCell']) (by unfold maxLen; omega) (by omega) (by simp; omega) ?_; intro v' w2 hown' hgrow _)
        go_roundw
        case rel => exact ⟨k + 1, by omega, by go_num, by rw [HTS.out]; exact hown', own_below hrow hgrow hBr (Nat.le_refl _) hBr.size⟩
        case measure => simp [intOf]; omega
    · rw [List.take_of_length_le (by omega)] at hrow
      obtain ⟨A2, c2, rfl, hA2⟩ := byt_of_own hrow
      have hst : (convert 24 9 (.slice A2 l.length c2)).run Tryd.prog wr = .ok (.string (textOf l)) wr := run_string_bytes (by simp) hA2
      clear hrow hA2 hLA
      go_wp2
      go_ret
      exact ⟨rfl, hBw.trans (hBr.mono hBw.size)⟩
end Go.Proofs.YtcfbeelljhjnoaaDoor

namespace Go.Proofs.YtcfbeelljhjnoaaDoor
open Go.RowKit

/-- A world that keeps all that lay in w0. -/
structure NearW (w0 : World) where
  W : World
  h : Below w0.heap.size w0 W
instance (w0 : World) : Nonempty (NearW w0) := ⟨⟨w0, Below.refl _ _⟩⟩
theorem wp_region_near {P : Program} {id : Nat} {Q : Exit → Act → World → Prop} {a : Act} {w : World} {l : List Oper} (hm : P.follows .mixedOrders = true) (hB : Region.lexB .any l.toArray = true)
    (h : wpQuiet P l.toArray (fun w' => ∃ n : NearW w, w' = n.W) (fun a' => ∀ w', (∃ n : NearW w, w' = n.W) → Q .normal a' w') l a) : (Code.region id l.toArray true).wp P Q a w :=
  wp_region_quiet (C := fun w' => ∃ n : NearW w, w' = n.W) hm hB ⟨⟨_, (Below.refl _ w).drew⟩, rfl⟩ (by simpa using h)
theorem near_call {P : Program} {f : FuncId} {args : Array Value} {w0 : World} {n : NearW w0} {v : Value} (h : Calls P f args n.W fun e w' => e = .returned v ∧ Below n.W.heap.size n.W w') :
    Calls P f args n.W fun e w'' => e = .returned v ∧ ∃ m : NearW w0, w'' = m.W :=
  h.mono fun _ w' ⟨he, hb⟩ => ⟨he, ⟨w', n.h.trans (hb.mono n.h.size)⟩, rfl⟩
theorem near_byt {w0 : World} {A : Option Addr} {bs : List UInt8} (h : Byt w0.heap.size w0 A bs) (n : NearW w0) : Byt n.W.heap.size n.W A bs := (h.below n.h).mono n.h.size
theorem near_two {w0 : World} {g : Nat} {t : TypeId} {a b : Value} (h : Blk w0 g t #[a, b]) : (∀ n : NearW w0, n.W.cell? ⟨g, 0, none⟩ = some a) ∧ (∀ n : NearW w0, n.W.cell? ⟨g, 1, none⟩ = some b) :=
  ⟨fun n => (h.below n.h h.lt).two.1, fun n => (h.below n.h h.lt).two.2.1⟩
end Go.Proofs.YtcfbeelljhjnoaaDoor

namespace Go.Proofs.YtcfbeelljhjnoaaDoor
open Go.RowKit

/-- Slice, by the document. -/
def sliceS (N : Int) (bs : List UInt8) (fr to : Int) : Int × List Bool :=
  if goodB N bs = true then
    if 0 ≤ fr ∧ fr ≤ to ∧ to ≤ N then (0, ((listOf N bs).drop fr.toNat).take (to.toNat - fr.toNat)) else (2, [])
  else (10, [])

theorem part_length (l : List Bool) (f t : Nat) (h : t ≤ l.length) : ((l.drop f).take (t - f)).length = t - f := by simp; omega
theorem part_get (l : List Bool) (f t k : Nat) (hk : k < t - f) : ((l.drop f).take (t - f))[k]?.getD false = l[f + k]?.getD false := by
  rw [List.getElem?_take_of_lt hk, List.getElem?_drop]

set_option maxRecDepth 4000 in
set_option maxHeartbeats 1000000 in
theorem slice_any (N fr to : Int) (A : Option Addr) (n c : Nat) (bs : List UInt8) (w : World) (hn : n = bs.length) (hm : n ≤ maxLen) (hA : Byt w.heap.size w A bs) :
    Calls Tryd.prog 46 #[.agg #[.int .i64 N, .slice A n c], .int .i64 fr, .int .i64 to] w (Res w (sliceS N bs fr to)) := by
  have HA := Lib.hid hA
  have HN := Lib.hid hn; clear hn
  have hck := fun w1 (h : Below w.heap.size w w1) => check_any N A n c bs w1 HN.out hm ((hA.below h).mono h.size)
  have HCK := Lib.hid hck; clear hck hA
  unfold maxLen at hm
  by_cases hgood : goodB N bs = true
  · obtain ⟨hg0, hg1, hg2, hg3⟩ := (good_iff N bs).1 hgood
    clear hg3
    have hk := chk_yes hgood
    have HK := Lib.hid hk; clear hk
    have HG2 := Lib.hid hg2; clear hg2
    by_cases hbad : 0 ≤ fr ∧ fr ≤ to ∧ to ≤ N
    · obtain ⟨hb0, hb1, hb2⟩ := hbad
      have hr : sliceS N bs fr to = (0, ((listOf N bs).drop fr.toNat).take (to.toNat - fr.toNat)) := by simp [sliceS, hgood, hb0, hb1, hb2]
      rw [hr]; clear hr
      have hib := good_isBits hgood
      have hll : (listOf N bs).length = N.toNat := listOf_length N bs
      generalize hl : listOf N bs = l at *
      have HIB := Lib.hid hib; clear hib
      have HLL := Lib.hid hll; clear hll hl hgood
      have hd1 : decide (fr < 0) = false := by simpa using hb0
      have hd2 : decide (to < fr) = false := by simpa using hb1
      have hd3 : decide (N < to) = false := by simpa using hb2
      obtain ⟨f, rfl⟩ := Int.eq_ofNat_of_zero_le hb0
      obtain ⟨t, rfl⟩ := Int.eq_ofNat_of_zero_le (Int.le_trans hb0 hb1)
      simp only [Int.toNat_natCast] at *
      have hft : f ≤ t := by omega
      have htl := part_length l f t (by have := HLL.out; omega)
      have hpg := part_get l f t
      generalize (l.drop f).take (t - f) = q at *
      have HTL := Lib.hid htl; have HPG := Lib.hid hpg; clear htl hpg
      go_enter Tryd.func46, Tryd.ntmps46
      go_wp2_with (first
        | (go_at_call 43; refine (HCK.out _ (((Below.refl _ _).alloc (Nat.le_refl _) _).alloc (by simp) _)).mono ?_; rintro e w1 ⟨rfl, hB⟩; rw [HK.out]; obtain ⟨k1, k2, hs, hBw⟩ := boxes2 hB; obtain ⟨c1, c2, f1, f2⟩ := k2.two; obtain ⟨c3, c4, f3, f4⟩ := k1.two; have hl1 : w.heap.size + 1 < w1.heap.size := by omega)
        | (go_at_call 61; refine (zeros_any _ _ (by omega) (by omega)).mono ?_
           rintro e w2 ⟨g, m, hmm, rfl, hgg, hgb, hgB⟩
           have HM := Lib.hid hmm; clear hmm
           have hgl := hgb.lt
           have j1 := k1.below hgB (by omega)
           have j2 := k2.below hgB (by omega)
           have hBw2 := hBw.trans (hgB.mono hBw.size)
           clear c1 c2 c3 c4 f1 f2 f3 f4 k1 k2 hl1))
      have hi0 : OutRel w g w2.heap.size m q 0 (List.replicate m 0) (w2.alloc (.cells #[.int .i64 (t - f : Int), .slice (some ⟨g, 0, none⟩) m m] 28)) := by
        have hz := isBits_zeros q.length
        have h2 := HM.out; have h3 := HTL.out
        refine ⟨by rw [paint_zero, show m = (q.length + 7) / 8 by omega]; exact hz, by simp, hgb.alloc _, ?_, hBw2.alloc hBw2.size _, by omega, hgl⟩
        have e : ((q.length : Nat) : Int) = (t : Int) - f := by omega
        rw [e]; exact Blk.new w2 28 _
      have hlt2 : w.heap.size + 2 ≤ w2.heap.size := by omega
      have hgg2 : w.heap.size + 2 ≤ g := by omega
      have j1' := j1.alloc (.cells #[.int .i64 (t - f : Int), .slice (some ⟨g, 0, none⟩) m m] 28)
      have j2' := j2.alloc (.cells #[.int .i64 (t - f : Int), .slice (some ⟨g, 0, none⟩) m m] 28)
      clear hd1 hd2 hd3 hgb hB hgB j1 j2
      generalize w2.heap.size = ob at *
      go_loopw [34] (fun i wr => ∃ (k : Nat) (bs' : List UInt8), k ≤ t - f ∧ i = .int .i64 k ∧ OutRel w g ob m q k bs' wr ∧
          Blk wr w.heap.size 28 #[.int .i64 N, .slice A n c] ∧ Blk wr (w.heap.size + 1) 28 #[.int .i64 0, .slice none 0 0])
        (fun i _ => t - f - (intOf i).toNat)
      case atStart => exact ⟨0, _, by omega, rfl, hi0, j1', j2'⟩
      case round =>
        obtain ⟨k, bs', hk, rfl, hO, q1, q2⟩ := hrel
        clear hi0 j1' j2'
        obtain ⟨c1, c2, f1, f2⟩ := q1.two
        obtain ⟨c3, c4, f3, f4⟩ := q2.two
        obtain ⟨c5, c6, f5, f6⟩ := hO.box.two
        have hN2 : ((q.length : Nat) : Int) = (t : Int) - f := by have := HTL.out; omega
        rw [hN2] at c5
        have HN2 := Lib.hid hN2; clear hN2
        have hqt := hO.low
        by_cases hlt : k < t - f
        · have hli : (k : Int) < (t : Int) - f := by omega
          have hone := isOne_any N ((f : Int) + k) A n c bs wr (by omega) (by omega) HN.out (by have := HG2.out; omega) ((HA.out.below hO.low).mono hO.low.size)
          have hgt := HPG.out k hlt
          rw [show ((f : Int) + k).toNat = f + k by omega, HIB.out.2, ← hgt] at hone
          by_cases hb : q[k]?.getD false = true
          · rw [hb] at hone
            have HB := Lib.hid hb; have HO := Lib.hid hone; clear hone hb hgt
            have hturn := fun w3 (h3 : Below wr.heap.size wr w3) => turn_any ((t : Int) - f) k g m m bs' w3 (by omega) (by omega) hO.len.symm (by
              have h1 := hO.len; have h2 := HM.out; omega) (hO.row.below h3 hO.row.lt)
            simp only [Int.toNat_natCast] at hturn
            have HT := Lib.hid hturn; clear hturn
            go_wp2_with (first
              | (go_at_call 72; refine HO.out.mono ?_; rintro e w3 ⟨rfl, hb3⟩
                 have r1 := q1.below hb3 q1.lt
                 have r2 := q2.below hb3 q2.lt
                 have r3 := hO.box.below hb3 hO.box.lt
                 obtain ⟨e5, e6, g5, g6⟩ := r3.two
                 rw [HN2.out] at e5)
              | (go_at_call 63; refine (HT.out _ hb3).mono ?_; rintro e w4 ⟨rfl, hr4, hg4⟩))
            go_roundw
            case rel =>
              have hO3 : OutRel w g ob m q k bs' w3 := ⟨hO.is_, hO.len, hO.row.below hb3 hO.row.lt, r3, hO.low.trans (hb3.mono hO.low.size), hO.ge, hO.lt⟩
              exact ⟨k + 1, _, by omega, by go_num, hO3.turned (by have := HTL.out; omega) HB.out hr4 hg4, r1.grown hg4 (by simp; omega), r2.grown hg4 (by simp; omega)⟩
            case measure => simp [intOf]; omega
          · rw [Bool.not_eq_true] at hb
            rw [hb] at hone
            have HB := Lib.hid hb; have HO := Lib.hid hone; clear hone hb hgt
            go_wp2_with (go_at_call 72; refine HO.out.mono ?_; rintro e w3 ⟨rfl, hb3⟩)
            go_roundw
            case rel =>
              have hO3 : OutRel w g ob m q k bs' w3 := ⟨hO.is_, hO.len, hO.row.below hb3 hO.row.lt, hO.box.below hb3 hO.box.lt, hO.low.trans (hb3.mono hO.low.size), hO.ge, hO.lt⟩
              exact ⟨k + 1, _, by omega, by go_num, hO3.stayed (by have := HTL.out; omega) HB.out, q1.below hb3 q1.lt, q2.below hb3 q2.lt⟩
            case measure => simp [intOf]; omega
        · have hlw : w.heap.size < wr.heap.size := q1.lt
          have hli : ¬ (k : Int) < (t : Int) - f := by omega
          go_wp2
          have hfin := hO.is_
          rw [show k = q.length by have := HTL.out; omega, paint_full] at hfin
          have hrow : Blk ((wr.setCell ⟨w.heap.size + 1, 0, none⟩ (.int .i64 ((t : Int) - f))).setCell ⟨w.heap.size + 1, 1, none⟩ (.slice (some ⟨g, 0, none⟩) m m)) g 5 (encB bs') := (hO.row.far (p := ⟨w.heap.size + 1, 0, none⟩) (by simp; omega) _).far (p := ⟨w.heap.size + 1, 1, none⟩) (by simp; omega) _
          refine bodyPost_ret (v := .tuple #[.agg #[.int .i64 ((t : Int) - f), .slice (some ⟨g, 0, none⟩) m m], .int .i64 0]) (by simp [results, Tryd.results46, go_sem, c3, c4]) rfl
            ⟨some ⟨g, 0, none⟩, m, m, bs', by rw [HN2.out], hO.len.symm, hfin, by have := HN2.out; dsimp only; omega, byt_of_blk hrow, (hO.low.setCell (p := ⟨w.heap.size + 1, 0, none⟩) (by simp) _).setCell (p := ⟨w.heap.size + 1, 1, none⟩) (by simp) _, fun a ha _ => by injection ha with ha; subst ha; exact hO.ge⟩
    · have hr : sliceS N bs fr to = (2, []) := by unfold sliceS; rw [if_pos hgood, if_neg hbad]
      rw [hr]; clear hr hgood
      have HBAD := Lib.hid hbad; clear hbad
      go_enter Tryd.func46, Tryd.ntmps46
      go_wp2_with (first
        | (go_at_call 43; refine (HCK.out _ (((Below.refl _ _).alloc (Nat.le_refl _) _).alloc (by simp) _)).mono ?_; rintro e w1 ⟨rfl, hB⟩; rw [HK.out]; obtain ⟨k1, k2, hs, hBw⟩ := boxes2 hB; obtain ⟨c1, c2, f1, f2⟩ := k2.two; obtain ⟨c3, c4, f3, f4⟩ := k1.two; have hl1 : w.heap.size + 1 < w1.heap.size := by omega)
        | (go_at_call 61; exfalso; have := HBAD.out; omega))
      all_goals first
        | (have := HBAD.out; exfalso; omega)
        | (refine bodyPost_ret (v := .tuple #[.agg #[.int .i64 0, .slice none 0 0], .int .i64 2]) (by simp [results, Tryd.results46, go_sem, c1, c2]) rfl
             (res_err 2 ((hBw.setCell (p := ⟨w.heap.size + 1, 0, none⟩) (by simp) _).setCell (p := ⟨w.heap.size + 1, 1, none⟩) (by simp) _)))
  · have hr : sliceS N bs fr to = (10, []) := by simp [sliceS, hgood]
    have hk := chk_no (N := N) (bs := bs) (by simpa using hgood)
    rw [hr]; clear hr hgood
    have HK := Lib.hid hk; clear hk
    go_enter Tryd.func46, Tryd.ntmps46
    go_wp2_with (go_at_call 43; refine (HCK.out _ (((Below.refl _ _).alloc (Nat.le_refl _) _).alloc (by simp) _)).mono ?_; rintro e w1 ⟨rfl, hB⟩; rw [HK.out]; obtain ⟨k1, k2, hs, hBw⟩ := boxes2 hB; obtain ⟨c1, c2, f1, f2⟩ := k2.two; obtain ⟨c3, c4, f3, f4⟩ := k1.two; have hl1 : w.heap.size + 1 < w1.heap.size := by omega)
    refine bodyPost_ret (v := .tuple #[.agg #[.int .i64 0, .slice none 0 0], .int .i64 10]) (by simp [results, Tryd.results46, go_sem, c1, c2]) rfl
      (res_err 10 ((hBw.setCell (p := ⟨w.heap.size + 1, 0, none⟩) (by simp) _).setCell (p := ⟨w.heap.size + 1, 1, none⟩) (by simp) _))
end Go.Proofs.YtcfbeelljhjnoaaDoor

namespace Go.Proofs.YtcfbeelljhjnoaaDoor
open Go.RowKit

/-- Truths in a row of the call's own: nil, or a block. -/
theorem own_bools {w : World} {base : Nat} {v : Value} {k : Nat} {l : List Bool} (h : w.ownsRow base 4 1 v k (l.map Value.bool)) :
    (v = .slice none 0 0 ∧ l = []) ∨ ∃ g cap, v = .slice (some ⟨g, 0, none⟩) l.length cap ∧ base ≤ g ∧ g < w.heap.size ∧ l.length ≤ cap ∧ cap ≤ maxLen ∧ (∀ j, j < l.length → w.cell? ⟨g, j, none⟩ = some (.bool (l[j]?.getD false))) ∧ ∀ j, w.frozen? ⟨g, j, none⟩ = false := by
  have hk : l.length = k := by have := h.1; simpa using this
  rcases h.2 with ⟨rfl, h0⟩ | ⟨g, cap, cur, rfl, hb, hh, h1, h2, _⟩
  · exact .inl ⟨rfl, List.eq_nil_of_length_eq_zero (hk.trans h0)⟩
  · refine .inr ⟨g, cap, by rw [hk], hb, (Array.getElem?_eq_some_iff.1 hh).1, by omega, h2, fun j hj => ?_, fun j => by simp [World.frozen?, hh]⟩
    have := h.cells (g := g) rfl j (.bool (l[j]?.getD false)) (by simp [hj])
    rwa [addr_add, Nat.zero_add] at this

set_option maxRecDepth 4000 in
set_option maxHeartbeats 1000000 in
theorem rslice_any (N fr to : Int) (A : Option Addr) (n c : Nat) (bs : List UInt8) (w : World) (hn : n = bs.length) (hm : n ≤ maxLen) (hA : Byt w.heap.size w A bs) :
    Calls Tryd.prog 79 #[.agg #[.int .i64 N, .slice A n c], .int .i64 fr, .int .i64 to] w (Res w (sliceS N bs fr to)) := by
  have hck := fun w1 (h : Below w.heap.size w w1) => rcheck_any N A n c bs w1 hn hm ((hA.below h).mono h.size)
  have hli := fun w1 (h : Below w.heap.size w w1) => list_any N A n c bs w1 hn hm ((hA.below h).mono h.size)
  have HCK := Lib.hid hck; have HLI := Lib.hid hli; clear hck hli hA hn
  unfold maxLen at hm
  by_cases hgood : goodB N bs = true
  · obtain ⟨hg0, hg1, hg2, hg3⟩ := (good_iff N bs).1 hgood
    clear hg3 hg2
    have hk := chk_yes hgood
    have HK := Lib.hid hk; clear hk
    by_cases hbad : 0 ≤ fr ∧ fr ≤ to ∧ to ≤ N
    · obtain ⟨hb0, hb1, hb2⟩ := hbad
      have hgl := good_length hgood
      have hr : sliceS N bs fr to = ofS (((lst N bs).drop fr.toNat).take (to.toNat - fr.toNat)) := by
        have h2 : lst N bs = listOf N bs := by simp [lst, hgood]
        unfold ofS
        rw [h2, part_length _ _ _ (by omega), if_neg (by omega)]
        simp [sliceS, hgood, hb0, hb1, hb2]
      have h2 : (lst N bs).length = N.toNat := by simp [lst, hgood, listOf_length]
      rw [hr]; clear hr hgood hgl
      generalize lst N bs = l at *
      have HLL := Lib.hid h2; clear h2
      have hd1 : decide (fr < 0) = false := by simpa using hb0
      have hd2 : decide (to < fr) = false := by simpa using hb1
      have hd3 : decide (N < to) = false := by simpa using hb2
      obtain ⟨f, rfl⟩ := Int.eq_ofNat_of_zero_le hb0
      obtain ⟨t, rfl⟩ := Int.eq_ofNat_of_zero_le (Int.le_trans hb0 hb1)
      simp only [Int.toNat_natCast] at *
      have hft : f ≤ t := by omega
      have htl := part_length l f t (by have := HLL.out; omega)
      have hpg := part_get l f t
      generalize hq : (l.drop f).take (t - f) = q at *
      have HTL := Lib.hid htl; have HPG := Lib.hid hpg; have HQ := Lib.hid hq; clear htl hpg hq
      go_enter Tryd.func79, Tryd.ntmps79
      go_wp2_with (first
        | (go_at_call 49; refine (HCK.out _ (((Below.refl _ _).alloc (Nat.le_refl _) _).alloc (by simp) _)).mono ?_; rintro e w1 ⟨rfl, hB⟩; rw [HK.out]; obtain ⟨k1, k2, hs, hBw⟩ := boxes2 hB; obtain ⟨c1, c2, f1, f2⟩ := k2.two; obtain ⟨c3, c4, f3, f4⟩ := k1.two; have hl1 : w.heap.size + 1 < w1.heap.size := by omega))
      refine (HLI.out _ hBw).mono ?_
      rintro e w2 ⟨lv, rfl, hown, hB2⟩
      have j2 := k2.below hB2 k2.lt
      have hBw2 := hBw.trans (hB2.mono hBw.size)
      clear c1 c2 c3 c4 f1 f2 f3 f4 k1 k2 hB
      obtain ⟨c1, c2, f1, f2⟩ := j2.two
      have hof : ∀ (X : Option Addr) (Y : Nat), Bools w2.heap.size w2 X q → Calls Tryd.prog 68 #[.slice X (t - f) Y] w2 (Res w2 (ofS q)) := fun X Y hX => rof_any X (t - f) Y q w2 HTL.out.symm (by unfold maxLen; omega) hX
      generalize ofS q = R at *
      have HOF := Lib.hid hof; clear hof
      rcases own_bools hown with ⟨rfl, hl0⟩ | ⟨g, cap, rfl, hgb, hgl, hlc, hcm, hcell, hfr⟩
      · have ht0 : t = 0 := by have := HLL.out; subst hl0; simp at this; omega
        subst ht0
        obtain rfl : f = 0 := by omega
        clear hl0 hown
        go_wp2_with fail
        refine (HOF.out none 0 (fun hne => absurd (List.eq_nil_of_length_eq_zero HTL.out) hne)).mono ?_
        rintro e w3 ⟨A3, n3, c5, bs3, rfl, hn3, his3, hl3, hA3, hB3, hF3⟩
        have HN3 := Lib.hid hn3; clear hn3
        have q3 := j2.below hB3 j2.lt
        obtain ⟨d1, d2, g1, g2⟩ := q3.two
        go_wp2
        have hBf := (hBw2.trans (hB3.mono hBw2.size))
        refine bodyPost_ret (v := .tuple #[.agg #[.int .i64 R.2.length, .slice A3 n3 c5], .int .i64 R.1]) (by simp [results, Tryd.results79, go_sem, d1, d2]) rfl
          ⟨A3, n3, c5, bs3, rfl, HN3.out, his3, hl3, ?_, (hBf.setCell (p := ⟨w.heap.size + 1, 0, none⟩) (by simp) _).setCell (p := ⟨w.heap.size + 1, 1, none⟩) (by simp) _, fun a ha hb => Nat.le_trans hBw2.size (hF3 a ha hb)⟩
        have h1 := j2.lt
        have h2 := (hA3.set_low hF3 (p := ⟨w.heap.size + 1, 0, none⟩) h1 (.int .i64 R.2.length)).set_low hF3 (p := ⟨w.heap.size + 1, 1, none⟩) h1 (.slice A3 n3 c5)
        simpa using h2
      · have htc : t ≤ cap := by have := HLL.out; omega
        have hfc : f ≤ cap := by omega
        have HCELL := Lib.hid hcell
        clear hcell hfr hown hlc
        unfold maxLen at hcm
        by_cases hcf : cap = f
        · have hbo : Bools w2.heap.size w2 (some ⟨g, 0, none⟩) q := fun hne => by
            have := HTL.out
            exact absurd (List.eq_nil_of_length_eq_zero (by omega)) hne
          have HBO := Lib.hid hbo; clear hbo
          go_wp2_with fail
          refine (HOF.out (some ⟨g, 0, none⟩) 0 HBO.out).mono ?_
          rintro e w3 ⟨A3, n3, c5, bs3, rfl, hn3, his3, hl3, hA3, hB3, hF3⟩
          have HN3 := Lib.hid hn3; clear hn3
          have q3 := j2.below hB3 j2.lt
          obtain ⟨d1, d2, g1, g2⟩ := q3.two
          go_wp2
          have hBf := (hBw2.trans (hB3.mono hBw2.size))
          refine bodyPost_ret (v := .tuple #[.agg #[.int .i64 R.2.length, .slice A3 n3 c5], .int .i64 R.1]) (by simp [results, Tryd.results79, go_sem, d1, d2]) rfl
            ⟨A3, n3, c5, bs3, rfl, HN3.out, his3, hl3, ?_, (hBf.setCell (p := ⟨w.heap.size + 1, 0, none⟩) (by simp) _).setCell (p := ⟨w.heap.size + 1, 1, none⟩) (by simp) _, fun a ha hb => Nat.le_trans hBw2.size (hF3 a ha hb)⟩
          have h1 := j2.lt
          have h2 := (hA3.set_low hF3 (p := ⟨w.heap.size + 1, 0, none⟩) h1 (.int .i64 R.2.length)).set_low hF3 (p := ⟨w.heap.size + 1, 1, none⟩) h1 (.slice A3 n3 c5)
          simpa using h2
        · have hbo : Bools w2.heap.size w2 (some ⟨g, f, none⟩) q := fun _ => ⟨g, f, rfl, hgl, fun j hj => by
            have h1 := HTL.out
            rw [HPG.out j (by omega)]
            exact HCELL.out (f + j) (by have := HLL.out; omega)⟩
          have HBO := Lib.hid hbo; clear hbo
          go_wp2_with fail
          refine (HOF.out (some ⟨g, f, none⟩) (cap - f) HBO.out).mono ?_
          rintro e w3 ⟨A3, n3, c5, bs3, rfl, hn3, his3, hl3, hA3, hB3, hF3⟩
          have HN3 := Lib.hid hn3; clear hn3
          have q3 := j2.below hB3 j2.lt
          obtain ⟨d1, d2, g1, g2⟩ := q3.two
          go_wp2
          have hBf := (hBw2.trans (hB3.mono hBw2.size))
          refine bodyPost_ret (v := .tuple #[.agg #[.int .i64 R.2.length, .slice A3 n3 c5], .int .i64 R.1]) (by simp [results, Tryd.results79, go_sem, d1, d2]) rfl
            ⟨A3, n3, c5, bs3, rfl, HN3.out, his3, hl3, ?_, (hBf.setCell (p := ⟨w.heap.size + 1, 0, none⟩) (by simp) _).setCell (p := ⟨w.heap.size + 1, 1, none⟩) (by simp) _, fun a ha hb => Nat.le_trans hBw2.size (hF3 a ha hb)⟩
          have h1 := j2.lt
          have h2 := (hA3.set_low hF3 (p := ⟨w.heap.size + 1, 0, none⟩) h1 (.int .i64 R.2.length)).set_low hF3 (p := ⟨w.heap.size + 1, 1, none⟩) h1 (.slice A3 n3 c5)
          simpa using h2
    · have hr : sliceS N bs fr to = (2, []) := by unfold sliceS; rw [if_pos hgood, if_neg hbad]
      rw [hr]; clear hr hgood
      have HBAD := Lib.hid hbad; clear hbad
      go_enter Tryd.func79, Tryd.ntmps79
      go_wp2_with (first
        | (go_at_call 49; refine (HCK.out _ (((Below.refl _ _).alloc (Nat.le_refl _) _).alloc (by simp) _)).mono ?_; rintro e w1 ⟨rfl, hB⟩; rw [HK.out]; obtain ⟨k1, k2, hs, hBw⟩ := boxes2 hB; obtain ⟨c1, c2, f1, f2⟩ := k2.two; obtain ⟨c3, c4, f3, f4⟩ := k1.two; have hl1 : w.heap.size + 1 < w1.heap.size := by omega)
        | (go_at_call 67; exfalso; have := HBAD.out; omega))
      all_goals first
        | (have := HBAD.out; exfalso; omega)
        | (refine bodyPost_ret (v := .tuple #[.agg #[.int .i64 0, .slice none 0 0], .int .i64 2]) (by simp [results, Tryd.results79, go_sem, c1, c2]) rfl
             (res_err 2 ((hBw.setCell (p := ⟨w.heap.size + 1, 0, none⟩) (by simp) _).setCell (p := ⟨w.heap.size + 1, 1, none⟩) (by simp) _)))
  · have hr : sliceS N bs fr to = (10, []) := by simp [sliceS, hgood]
    have hk := chk_no (N := N) (bs := bs) (by simpa using hgood)
    rw [hr]; clear hr hgood
    have HK := Lib.hid hk; clear hk
    go_enter Tryd.func79, Tryd.ntmps79
    go_wp2_with (go_at_call 49; refine (HCK.out _ (((Below.refl _ _).alloc (Nat.le_refl _) _).alloc (by simp) _)).mono ?_; rintro e w1 ⟨rfl, hB⟩; rw [HK.out]; obtain ⟨k1, k2, hs, hBw⟩ := boxes2 hB; obtain ⟨c1, c2, f1, f2⟩ := k2.two; obtain ⟨c3, c4, f3, f4⟩ := k1.two; have hl1 : w.heap.size + 1 < w1.heap.size := by omega)
    refine bodyPost_ret (v := .tuple #[.agg #[.int .i64 0, .slice none 0 0], .int .i64 10]) (by simp [results, Tryd.results79, go_sem, c1, c2]) rfl
      (res_err 10 ((hBw.setCell (p := ⟨w.heap.size + 1, 0, none⟩) (by simp) _).setCell (p := ⟨w.heap.size + 1, 1, none⟩) (by simp) _))
end Go.Proofs.YtcfbeelljhjnoaaDoor

namespace Go.Proofs.YtcfbeelljhjnoaaDoor
open Go.RowKit

/-- The slice at A holds the places zs, in a block below n₀ (nil or empty where there are none). -/
def Ints (n₀ : Nat) (W : World) (A : Option Addr) (zs : List Int) : Prop :=
  zs ≠ [] → ∃ b off, A = some ⟨b, off, none⟩ ∧ b < n₀ ∧ ∀ j, j < zs.length → W.cell? ⟨b, off + j, none⟩ = some (.int .i64 (zs[j]?.getD 0))
theorem Ints.below {n₀ : Nat} {W W' : World} {A : Option Addr} {zs : List Int} (h : Ints n₀ W A zs) (hb : Below n₀ W W') : Ints n₀ W' A zs := fun hn => by
  obtain ⟨b, off, e, hlt, hc⟩ := h hn
  exact ⟨b, off, e, hlt, fun j hj => (hb.cell (p := ⟨b, off + j, none⟩) hlt).trans (hc j hj)⟩
theorem Ints.mono {n₀ n₁ : Nat} {W : World} {A : Option Addr} {zs : List Int} (h : Ints n₀ W A zs) (hn : n₀ ≤ n₁) : Ints n₁ W A zs := fun hb => by
  obtain ⟨b, off, e, hlt, hc⟩ := h hb
  exact ⟨b, off, e, Nat.lt_of_lt_of_le hlt hn, hc⟩
theorem Ints.at_ {n₀ : Nat} {W : World} {A : Option Addr} {zs : List Int} (h : Ints n₀ W A zs) {k : Nat} (hk : k < zs.length) :
    ∃ b off, A = some ⟨b, off, none⟩ ∧ b < n₀ ∧ W.cell? ⟨b, off + k, none⟩ = some (.int .i64 (zs[k]?.getD 0)) := by
  obtain ⟨b, off, e, hlt, hc⟩ := h (by rintro rfl; simp at hk)
  exact ⟨b, off, e, hlt, hc k hk⟩

/-- One bit turned. -/
def flip1 (l : List Bool) (i : Int) : List Bool := l.set i.toNat (!(l[i.toNat]?.getD false))
def okAt (N : Int) (zs : List Int) : Bool := zs.all fun i => decide (0 ≤ i) && decide (i < N)
def flips (l : List Bool) (zs : List Int) : List Bool := zs.foldl flip1 l
/-- Flip, by the document. -/
def flipS (N : Int) (bs : List UInt8) (zs : List Int) : Int × List Bool :=
  if goodB N bs = true then if okAt N zs = true then (0, flips (listOf N bs) zs) else (2, []) else (10, [])
theorem flip1_length (l : List Bool) (i : Int) : (flip1 l i).length = l.length := by simp [flip1]
theorem flips_length (zs : List Int) : ∀ l : List Bool, (flips l zs).length = l.length := by
  induction zs with
  | nil => intro l; rfl
  | cons z zs ih => intro l; show (flips (flip1 l z) zs).length = _; rw [ih, flip1_length]
theorem int_at (zs : List Int) (k : Nat) (h : k < zs.length) : zs.take (k + 1) = zs.take k ++ [zs[k]?.getD 0] := by
  rw [List.take_add_one, List.getElem?_eq_getElem h]; rfl
theorem flips_snoc (l : List Bool) (zs : List Int) (z : Int) : flips l (zs ++ [z]) = flip1 (flips l zs) z := by simp [flips]
theorem ok_snoc (N : Int) (zs : List Int) (z : Int) : okAt N (zs ++ [z]) = (okAt N zs && (decide (0 ≤ z) && decide (z < N))) := by simp [okAt]
theorem ok_not (N : Int) (zs : List Int) (k : Nat) (h : k < zs.length) (hb : ¬ (0 ≤ zs[k]?.getD 0 ∧ zs[k]?.getD 0 < N)) : okAt N zs = false := by
  unfold okAt
  rw [List.all_eq_false]
  refine ⟨zs[k], List.getElem_mem h, ?_⟩
  rw [List.getElem?_eq_getElem h] at hb
  simpa using hb

/-- Bits under way: the row g, its box ob hold the truths t; all that was there stays. -/
structure RowRel (w : World) (g ob m : Nat) (t : List Bool) (bs : List UInt8) (wr : World) : Prop where
  is_ : IsBits t bs
  len : bs.length = m
  row : Blk wr g 5 (encB bs)
  box : Blk wr ob 28 #[.int .i64 (t.length : Int), .slice (some ⟨g, 0, none⟩) m m]
  low : Below w.heap.size w wr
  ge : w.heap.size ≤ g
  lt : g < ob
theorem RowRel.turned {w wr wr' : World} {g ob m : Nat} {t : List Bool} {bs : List UInt8} (h : RowRel w g ob m t bs wr) (i : Int) (hi : i.toNat < t.length) (hr : Blk wr' g 5 (encB (flipB bs i.toNat))) (hg : wr.grownBy wr' (some g)) :
    RowRel w g ob m (flip1 t i) (flipB bs i.toNat) wr' :=
  ⟨isBits_flip h.is_ hi, by rw [flipB_length]; exact h.len, hr, by rw [flip1_length]; exact h.box.grown hg (by have := h.lt; simp; omega), h.low.grown hg h.low.size (fun k e => by injection e with e; have := h.ge; omega), h.ge, h.lt⟩

end Go.Proofs.YtcfbeelljhjnoaaDoor

namespace Go.Proofs.YtcfbeelljhjnoaaDoor
open Go.RowKit

theorem flip_row {w : World} {base g cap zz n : Nat} {lk : List Bool} (h : w.ownsRow base 4 1 (.slice (some ⟨g, 0, none⟩) lk.length cap) n (lk.map Value.bool)) (hn : lk.length = n) (q : Nat) :
    ((w.drewN q).setCell ⟨g, zz, none⟩ (.bool (!(lk[zz]?.getD false)))).ownsRow base 4 1 (.slice (some ⟨g, 0, none⟩) lk.length cap) n ((flip1 lk zz).map Value.bool) ∧ w.grownBy ((w.drewN q).setCell ⟨g, zz, none⟩ (.bool (!(lk[zz]?.getD false)))) (some g) := by
  subst hn
  have hd : (w.drewN q).ownsRow base 4 1 (.slice (some ⟨g, 0, none⟩) lk.length cap) lk.length (lk.map Value.bool) := h
  obtain ⟨h1, h2⟩ := hd.stored zz (.bool (!(lk[zz]?.getD false)))
  refine ⟨?_, h2.os, h2.tape, h2.output, h2.size, h2.block⟩
  unfold flip1
  rw [Int.toNat_natCast, List.map_set]
  exact h1

set_option maxRecDepth 4000 in
set_option maxHeartbeats 1000000 in
theorem rflip_any (N : Int) (A Z : Option Addr) (n c zn zc : Nat) (bs : List UInt8) (zs : List Int) (w : World) (hn : n = bs.length) (hm : n ≤ maxLen) (hA : Byt w.heap.size w A bs) (hzn : zn = zs.length) (hzm : zn ≤ maxLen) (hZ : Ints w.heap.size w Z zs) :
    Calls Tryd.prog 57 #[.agg #[.int .i64 N, .slice A n c], .slice Z zn zc] w (Res w (flipS N bs zs)) := by
  have hck := fun w1 (h : Below w.heap.size w w1) => rcheck_any N A n c bs w1 hn hm ((hA.below h).mono h.size)
  have hli := fun w1 (h : Below w.heap.size w w1) => list_any N A n c bs w1 hn hm ((hA.below h).mono h.size)
  by_cases hgood : goodB N bs = true
  · obtain ⟨hg0, hg1, hg2, hg3⟩ := (good_iff N bs).1 hgood
    rw [chk_yes hgood] at hck
    have hgl := good_length hgood
    have hls : lst N bs = listOf N bs := by simp [lst, hgood]
    rw [hls] at hli
    have hr : flipS N bs zs = (if okAt N zs = true then (0, flips (listOf N bs) zs) else (2, [])) := by unfold flipS; rw [if_pos hgood]
    rw [hr]; clear hr hgood hls
    generalize listOf N bs = l at *
    obtain ⟨R, hR⟩ : ∃ R, R = (if okAt N zs = true then ((0 : Int), flips l zs) else (2, [])) := ⟨_, rfl⟩
    rw [← hR]
    have HRR := Lib.hid hR; clear hR
    have HCK := Lib.hid hck; have HLI := Lib.hid hli; have HGL := Lib.hid hgl; have HZ := Lib.hid hZ; have HZN := Lib.hid hzn
    clear hck hli hg2 hg3 hA hn hgl hZ hzn
    unfold maxLen at hm hzm
    go_enter Tryd.func57, Tryd.ntmps57
    go_wp2_with (first
      | (go_at_call 49; refine (HCK.out _ (((Below.refl _ _).alloc (Nat.le_refl _) _).alloc (by simp) _)).mono ?_; rintro e w1 ⟨rfl, hB⟩; obtain ⟨k1, k2, hs, hBw⟩ := boxes2 hB; obtain ⟨c1, c2, f1, f2⟩ := k2.two; obtain ⟨c3, c4, f3, f4⟩ := k1.two; have hl1 : w.heap.size + 1 < w1.heap.size := by omega)
      | (go_at_call 67; refine (HLI.out _ hBw).mono ?_; rintro e w2 ⟨lv, rfl, hown, hB2⟩))
    have j1 := k1.below hB2 k1.lt
    have j2 := k2.below hB2 k2.lt
    have hBw2 := hBw.trans (hB2.mono hBw.size)
    clear c1 c2 c3 c4 f1 f2 f3 f4 k1 k2 hB hB2
    go_loopw [7] (fun i wr => ∃ (k : Nat), k ≤ zn ∧ i = .int .i64 k ∧ okAt N (zs.take k) = true ∧ wr.ownsRow w1.heap.size 4 1 lv l.length ((flips l (zs.take k)).map Value.bool) ∧
        Blk wr w.heap.size 28 #[.int .i64 N, .slice A n c] ∧ Blk wr (w.heap.size + 1) 28 #[.int .i64 0, .slice none 0 0] ∧ Below w.heap.size w wr)
      (fun i _ => zn - (intOf i).toNat)
    case atStart => exact ⟨0, by omega, rfl, rfl, hown, j1, j2, hBw2⟩
    case round =>
      obtain ⟨k, hk, rfl, hok, hrow, q1, q2, hBr⟩ := hrel
      clear j1 j2 hown
      have HOK := Lib.hid hok; clear hok
      obtain ⟨c1, c2, f1, f2⟩ := q1.two
      obtain ⟨c3, c4, f3, f4⟩ := q2.two
      have hfl := flips_length (zs.take k) l
      by_cases hlt : k < zn
      · obtain ⟨zb, zo, rfl, hzl, hzc⟩ := (HZ.out.below hBr).at_ (k := k) (by have := HZN.out; omega)
        have hta := int_at zs k (by have := HZN.out; omega)
        have hnot := ok_not N zs k (by have := HZN.out; omega)
        generalize zs[k]?.getD 0 = z at *
        have hki : (k : Int) < (zn : Int) := by omega
        have hk0 : (0 : Int) ≤ (k : Int) := by omega
        by_cases hz : 0 ≤ z ∧ z < N
        · obtain ⟨hz0, hz1⟩ := hz
          have hd1 : decide (z < 0) = false := by simpa using hz0
          have hd2 : decide (N ≤ z) = false := by simpa using hz1
          have hok2 : okAt N (zs.take (k + 1)) = true := by rw [hta, ok_snoc, HOK.out]; simp [hz0, hz1]
          have hfl2 : flips l (zs.take (k + 1)) = flip1 (flips l (zs.take k)) z := by rw [hta, flips_snoc]
          generalize flips l (zs.take k) = lk at *
          have HOK2 := Lib.hid hok2; have HFL := Lib.hid hfl2; have HFF := Lib.hid hfl
          clear hok2 hfl2 hta hnot hfl
          rcases own_bools hrow with ⟨rfl, hl0⟩ | ⟨g, cap, rfl, hgb, hgl, hlc, hcm, hcell, hfr⟩
          · have h1 := HFF.out; have h2 := HGL.out; subst hl0; simp at h1; omega
          · obtain ⟨zz, rfl⟩ := Int.eq_ofNat_of_zero_le hz0
            have hcz := hcell zz (by have := HFF.out; have := HGL.out; omega)
            have hfz := hfr zz
            have hzl2 : (zz : Int) < (lk.length : Int) := by have := HFF.out; have := HGL.out; omega
            generalize hbz : lk[zz]?.getD false = bz at *
            have HBZ := Lib.hid hbz
            clear hcell hfr hbz
            go_wp2
            go_quiet (fail)
            go_wp2
            refine wp_region_still_tail 14 (by kernel_rfl) (by kernel_rfl) ?_
            simp only [List.take_succ_cons, List.take_zero, List.drop_succ_cons, List.drop_zero]
            change wpStill _ _ ((wr.drewN nq).drew) (fun a' => wpList _ _ _ _ a' ((wr.drewN nq).drew)) _ _
            repeat still_step
            refine wpStill_nil ?_
            go_wp2
            go_roundw
            case rel =>
              have hst := flip_row (zz := zz) hrow HFF.out (nq + 1)
              rw [HBZ.out] at hst
              exact ⟨k + 1, by omega, by go_num, HOK2.out, by rw [HFL.out]; exact hst.1, q1.grown hst.2 (by simp; omega), q2.grown hst.2 (by simp; omega), hBr.grown hst.2 hBr.size (fun j e => by injection e with e; have := hBw.size; omega)⟩
            case measure => simp [intOf]; omega
        · have hr : okAt N zs = false := hnot hz
          have hzz : z < 0 ∨ N ≤ z := by omega
          clear hnot hz hta
          have HR := Lib.hid hr; have HFF := Lib.hid hfl; clear hr hfl
          rcases hzz with hz0 | hz0
          · have hd1 : decide (z < 0) = true := by simpa using hz0
            go_wp2
            go_quiet (fail)
            go_wp2
            rw [HRR.out, HR.out, if_neg (by decide)]
            refine bodyPost_ret (v := .tuple #[.agg #[.int .i64 0, .slice none 0 0], .int .i64 2]) (by simp [results, Tryd.results57, go_sem, c3, c4]) rfl
              (res_err 2 (((below_drewN hBr _).setCell (p := ⟨w.heap.size + 1, 0, none⟩) (by simp) _).setCell (p := ⟨w.heap.size + 1, 1, none⟩) (by simp) _))
          · have hd1 : decide (z < 0) = false := by simp; omega
            have hd2 : decide (N ≤ z) = true := by simpa using hz0
            go_wp2
            go_quiet (fail)
            go_wp2
            rw [HRR.out, HR.out, if_neg (by decide)]
            refine bodyPost_ret (v := .tuple #[.agg #[.int .i64 0, .slice none 0 0], .int .i64 2]) (by simp [results, Tryd.results57, go_sem, c3, c4]) rfl
              (res_err 2 (((below_drewN hBr _).setCell (p := ⟨w.heap.size + 1, 0, none⟩) (by simp) _).setCell (p := ⟨w.heap.size + 1, 1, none⟩) (by simp) _))
      · have htk : zs.take k = zs := List.take_of_length_le (by have := HZN.out; omega)
        have hr := HOK.out
        rw [htk] at hr hrow hfl
        have hro : R = ofS (flips l zs) := by
          rw [HRR.out, hr]; unfold ofS; rw [if_pos rfl, hfl, if_neg (by have := HGL.out; omega)]
        obtain ⟨LA, lc, rfl, hLA⟩ := bools_of_own hrow
        have hof := rof_any LA _ lc _ wr rfl (by rw [hfl]; have := HGL.out; unfold maxLen; omega) hLA
        rw [← hro] at hof
        have HOF := Lib.hid hof
        clear hof hLA htk hr hro hfl HRR hrow
        generalize (flips l zs).length = LL at *
        go_wp2_with (go_at_call 68; refine HOF.out.mono ?_; rintro e w3 ⟨A3, n3, c5, bs3, rfl, hn3, his3, hl3, hA3, hB3, hF3⟩; have HN3 := Lib.hid hn3; clear hn3; have q3 := q2.below hB3 q2.lt; obtain ⟨d1, d2, g1, g2⟩ := q3.two)
        have hBf := (hBr.trans (hB3.mono hBr.size))
        refine bodyPost_ret (v := .tuple #[.agg #[.int .i64 R.2.length, .slice A3 n3 c5], .int .i64 R.1]) (by simp [results, Tryd.results57, go_sem, d1, d2]) rfl
          ⟨A3, n3, c5, bs3, rfl, HN3.out, his3, hl3, ?_, (hBf.setCell (p := ⟨w.heap.size + 1, 0, none⟩) (by simp) _).setCell (p := ⟨w.heap.size + 1, 1, none⟩) (by simp) _, fun a ha hb => Nat.le_trans hBr.size (hF3 a ha hb)⟩
        have h1 := q2.lt
        have h2 := (hA3.set_low hF3 (p := ⟨w.heap.size + 1, 0, none⟩) h1 (.int .i64 R.2.length)).set_low hF3 (p := ⟨w.heap.size + 1, 1, none⟩) h1 (.slice A3 n3 c5)
        simpa using h2
  · have hr : flipS N bs zs = (10, []) := by simp [flipS, hgood]
    rw [chk_no (by simpa using hgood)] at hck
    rw [hr]
    have HCK := Lib.hid hck
    clear hck hgood hA hn hr hZ hzn hli
    unfold maxLen at hm hzm
    go_enter Tryd.func57, Tryd.ntmps57
    go_wp2_with (go_at_call 49; refine (HCK.out _ (((Below.refl _ _).alloc (Nat.le_refl _) _).alloc (by simp) _)).mono ?_; rintro e w1 ⟨rfl, hB⟩; obtain ⟨k1, k2, hs, hBw⟩ := boxes2 hB; obtain ⟨c1, c2, f1, f2⟩ := k2.two; obtain ⟨c3, c4, f3, f4⟩ := k1.two; have hl1 : w.heap.size + 1 < w1.heap.size := by omega)
    refine bodyPost_ret (v := .tuple #[.agg #[.int .i64 0, .slice none 0 0], .int .i64 10]) (by simp [results, Tryd.results57, go_sem, c1, c2]) rfl
      (res_err 10 ((hBw.setCell (p := ⟨w.heap.size + 1, 0, none⟩) (by simp) _).setCell (p := ⟨w.heap.size + 1, 1, none⟩) (by simp) _))
end Go.Proofs.YtcfbeelljhjnoaaDoor
