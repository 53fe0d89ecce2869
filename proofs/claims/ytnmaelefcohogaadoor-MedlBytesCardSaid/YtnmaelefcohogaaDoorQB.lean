/-
  The document itself: Check and List. No condition but that the bytes can be read.
  The document itself: Of. No condition but that the truths can be read.
  Which bits are the same: the document itself, Same of package bits, and Equal of package bytes. No condition but that the bytes can be read.
  The document itself: Put. No condition but that the bytes can be read.
  The document itself: Get. No condition but that the bytes can be read.
  Parse of package bits and of the document itself answer as the document says, for every text. No condition.
  The document itself: Parse and Text, for every text and all bits. No condition but that the bytes can be read.
  A region whose order Go leaves open, walked once, where each operation yields one value in all worlds that keep what was there. No condition.
  Slice of package bits answers as the document says, for all bits and places. No condition but that the bytes can be read.
  The document itself: Slice. No condition but that the bytes can be read.
  Flip of package bits answers as the document says, for all bits and places. No condition but that the bytes and the places can be read.
  The document itself: Flip. No condition but that the bytes and the places can be read.
-/
import Derived.Test.YtnmaelefcohogaaDoorQF
namespace Go.Proofs.YtnmaelefcohogaaDoor
open Go.RowKit

theorem shr_test (x j : Nat) : (((x : Int) / 2 ^ j).tmod 2 == 1) = x.testBit j := by
  have e : ((x : Int) / 2 ^ j) = ((x / 2 ^ j : Nat) : Int) := by norm_cast
  rw [e, Nat.testBit_eq_decide_div_mod_eq, Int.tmod_eq_emod_of_nonneg (Int.natCast_nonneg _)]
  rcases Nat.mod_two_eq_zero_or_one (x / 2 ^ j) with h | h
  · have h' : ((x / 2 ^ j : Nat) : Int) % 2 = 0 := by omega
    rw [h, h']; rfl
  · have h' : ((x / 2 ^ j : Nat) : Int) % 2 = 1 := by omega
    rw [h, h']; rfl

set_option maxRecDepth 4000 in
set_option maxHeartbeats 400000 in
theorem rbit_at (i : Int) (b off n c : Nat) (x : UInt8) (w : World) (h0 : 0 ≤ i) (h1 : i ≤ 8192) (hi : i / 8 < n) (hc : w.cell? ⟨b, off + (i / 8).toNat, none⟩ = some (.int .u8 x.toNat)) :
    Calls Tryd.prog 75 #[.slice (some ⟨b, off, none⟩) n c, .int .i64 i] w fun e w' => e = .returned (.bool (x.toNat.testBit (7 - i.toNat % 8))) ∧ w = w' := by
  have hx := x.toNat_lt
  have hi0 : 0 ≤ i / 8 := by omega
  go_enter Tryd.func75, Tryd.ntmps75
  go_wp2
  go_ret
  exact ⟨ret_bool (by rw [shr_test, show (7 - i % 8).toNat = 7 - i.toNat % 8 by omega]), rfl⟩

theorem rbit_any (i : Int) (A : Option Addr) (n c : Nat) (bs : List UInt8) (w : World) (h0 : 0 ≤ i) (h1 : i ≤ 8192) (hn : n = bs.length) (hi : i < 8 * (bs.length : Int)) (hA : Byt w.heap.size w A bs) :
    Calls Tryd.prog 75 #[.slice A n c, .int .i64 i] w fun e w' => e = .returned (.bool (bitAt bs i.toNat)) ∧ w = w' := by
  obtain ⟨b, off, rfl, hlt, hc⟩ := hA.at_ (k := (i / 8).toNat) (by omega)
  have e : (i / 8).toNat = i.toNat / 8 := by omega
  unfold bitAt
  rw [← e]
  exact rbit_at i b off n c _ w h0 h1 (by omega) hc

set_option maxRecDepth 4000 in
set_option maxHeartbeats 1000000 in
theorem rcheck_any (N : Int) (A : Option Addr) (n c : Nat) (bs : List UInt8) (w : World) (hn : n = bs.length) (hm : n ≤ maxLen) (hA : Byt w.heap.size w A bs) :
    Calls Tryd.prog 61 #[.agg #[.int .i64 N, .slice A n c]] w fun e w' => e = .returned (.int .i64 (chk N bs)) ∧ Below w.heap.size w w' := by
  unfold maxLen at hm
  by_cases hN0 : N < 0
  · have hr := chk_no (N := N) (bs := bs) (by rw [Bool.eq_false_iff, Ne, good_iff]; omega)
    have hd : decide (N < 0) = true := by simpa using hN0
    rw [hr]; clear hr
    have HH := Lib.hid hn; clear hn
    go_enter Tryd.func61, Tryd.ntmps61
    go_wp2
    go_ret
    exact ⟨rfl, (Below.refl _ _).alloc (Nat.le_refl _) _⟩
  have hd0 : decide (N < 0) = false := by simpa using hN0
  by_cases hN1 : 4096 < N
  · have hr := chk_no (N := N) (bs := bs) (by rw [Bool.eq_false_iff, Ne, good_iff]; omega)
    have hd : decide (4096 < N) = true := by simpa using hN1
    rw [hr]; clear hr
    have HH := Lib.hid hn; clear hn
    go_enter Tryd.func61, Tryd.ntmps61
    go_wp2
    go_ret
    exact ⟨rfl, (Below.refl _ _).alloc (Nat.le_refl _) _⟩
  have hd1 : decide (4096 < N) = false := by simpa using hN1
  have hN0' : 0 ≤ N := by omega
  have hN1' : N ≤ 4096 := by omega
  clear hN0 hN1
  by_cases hl : (n : Int) = (N + 7) / 8
  · have hlb : ((n : Int) != (N + 7) / 8) = false := by simpa using hl
    have HL := Lib.hid hl
    have hl8 : 8 * (n : Int) ≤ N + 7 := by omega
    have hl9 : N ≤ 8 * (n : Int) := by omega
    clear hl
    have HH := Lib.hid hn; clear hn
    go_enter Tryd.func61, Tryd.ntmps61
    go_wp2
    go_loopw [3] (fun i wr => ∃ k : Nat, N ≤ k ∧ (k : Int) ≤ 8 * n ∧ i = .int .i64 k ∧ (∀ j : Nat, N ≤ j → j < k → bitAt bs j = false) ∧ wr = w.alloc (.cells #[.int .i64 N, .slice A n c] 68))
      (fun i _ => 8 * n - (intOf i).toNat)
    case atStart =>
      exact ⟨N.toNat, by omega, by omega, by rw [Int.toNat_of_nonneg hN0'], fun j h1 h2 => by omega, rfl⟩
    case round =>
      obtain ⟨k, hk0, hk1, rfl, hall, rfl⟩ := hrel
      have HALL := Lib.hid hall; clear hall
      have hB : Below w.heap.size w (w.alloc (.cells #[.int .i64 N, .slice A n c] 68)) := (Below.refl _ _).alloc (Nat.le_refl _) _
      by_cases hlt : (k : Int) < 8 * n
      · have hone := rbit_any k A n c bs (w.alloc (.cells #[.int .i64 N, .slice A n c] 68)) (by omega) (by omega) HH.out (by have := HH.out; omega) ((hA.below hB).mono hB.size)
        rw [Int.toNat_natCast] at hone
        by_cases hbit : bitAt bs k = true
        · rw [hbit] at hone
          have HO := Lib.hid hone; clear hone
          have hr := chk_no (N := N) (bs := bs) (by
            rw [Bool.eq_false_iff, Ne, good_iff]
            rintro ⟨_, _, _, h⟩
            rw [h k hk0] at hbit
            cases hbit)
          have HR := Lib.hid hr; clear hr hbit
          go_wp2_with (go_at_call 75; refine HO.out.mono ?_; rintro e w' ⟨rfl, rfl⟩)
          go_ret
          exact ⟨by rw [HR.out]; rfl, hB⟩
        · rw [Bool.not_eq_true] at hbit
          rw [hbit] at hone
          have HO := Lib.hid hone; clear hone
          have HBIT := Lib.hid hbit; clear hbit
          go_wp2_with (go_at_call 75; refine HO.out.mono ?_; rintro e w' ⟨rfl, rfl⟩)
          go_roundw
          case rel =>
            refine ⟨k + 1, by omega, by omega, by go_num, fun j h1 h2 => ?_, by first | rfl | trivial⟩
            rcases Nat.lt_or_ge j k with h | h
            · exact HALL.out j h1 h
            · obtain rfl : j = k := by omega
              exact HBIT.out
          case measure => simp [intOf]; omega
      · have hr := chk_yes (N := N) (bs := bs) (by
          rw [good_iff]
          refine ⟨hN0', hN1', by rw [← HH.out]; exact HL.out, fun j hj => ?_⟩
          rcases Nat.lt_or_ge j k with h | h
          · exact HALL.out j hj h
          · exact bitAt_beyond bs j (by have := HH.out; omega))
        have HR := Lib.hid hr; clear hr
        go_wp2
        go_ret
        exact ⟨by rw [HR.out]; rfl, hB⟩
  · have hlb : ((n : Int) != (N + 7) / 8) = true := by simpa using hl
    have hr := chk_no (N := N) (bs := bs) (by rw [Bool.eq_false_iff, Ne, good_iff]; omega)
    rw [hr]; clear hr hl
    have HH := Lib.hid hn; clear hn
    go_enter Tryd.func61, Tryd.ntmps61
    go_wp2
    go_ret
    exact ⟨rfl, (Below.refl _ _).alloc (Nat.le_refl _) _⟩

theorem Tryd.info4 : (Tryd.prog.info? 4).map (fun i => (i.zero, i.size, i.bytes)) = some (some (.bool false), 1, 1) := by kernel_rfl
/-- What the document's List answers. -/
def Truths (w : World) (l : List Bool) (e : Ending) (w' : World) : Prop := ∃ v, e = .returned v ∧ w'.ownsRow w.heap.size 4 1 v l.length (l.map Value.bool) ∧ Below w.heap.size w w'

theorem own_mono {w : World} {b b' : Nat} {e : TypeId} {size : Nat} {v : Value} {n : Nat} {xs : List Value} (h : w.ownsRow b e size v n xs) (hb : b' ≤ b) : w.ownsRow b' e size v n xs := by
  refine ⟨h.1, ?_⟩
  rcases h.2 with h2 | ⟨g, cap, cur, hv, hg, r⟩
  · exact .inl h2
  · exact .inr ⟨g, cap, cur, hv, Nat.le_trans hb hg, r⟩
theorem own_grown_low {w w' : World} {b : Nat} {e : TypeId} {size : Nat} {v : Value} {n : Nat} {xs : List Value} {o : Obj} (h : w.ownsRow b e size v n xs) (hg : (w.alloc o).grownBy w' v.ownBlock) (q : Nat) (hq : q < b) (hq2 : q < w.heap.size) : w'.heap[q]? = w.heap[q]? := by
  refine (hg.block q (by simp; omega) (fun e => ?_)).trans (Below.heap_alloc w o q hq2)
  have := (h.lt q e.symm).1
  omega
theorem own_below {w w' a : World} {b B : Nat} {e : TypeId} {size : Nat} {v : Value} {n : Nat} {xs : List Value} {o : Obj} (h : w.ownsRow b e size v n xs) (hg : (w.alloc o).grownBy w' v.ownBlock) (hB : Below B a w) (h1 : B ≤ b) (h2 : B ≤ w.heap.size) : Below B a w' :=
  (hB.alloc h2 o).grown hg (by simp; omega) (fun k ek => Nat.le_trans h1 (h.lt k ek).1)

theorem take_snoc_map (l : List Bool) (k : Nat) (h : k < l.length) : (l.take (k + 1)).map Value.bool = (l.take k).map Value.bool ++ [.bool (l[k]?.getD false)] := by
  rw [List.take_add_one, List.map_append, List.getElem?_eq_getElem h]; rfl

set_option maxRecDepth 4000 in
set_option maxHeartbeats 1000000 in
theorem list_any (N : Int) (A : Option Addr) (n c : Nat) (bs : List UInt8) (w : World) (hn : n = bs.length) (hm : n ≤ maxLen) (hA : Byt w.heap.size w A bs) :
    Calls Tryd.prog 63 #[.agg #[.int .i64 N, .slice A n c]] w (Truths w (lst N bs)) := by
  have hck := fun w1 (h : Below w.heap.size w w1) => rcheck_any N A n c bs w1 hn hm ((hA.below h).mono h.size)
  by_cases hgood : goodB N bs = true
  · obtain ⟨hg0, hg1, hg2, hg3⟩ := (good_iff N bs).1 hgood
    rw [chk_yes hgood] at hck
    have hls : lst N bs = listOf N bs := by simp [lst, hgood]
    rw [hls]
    have hib := good_isBits hgood
    have hgl := good_length hgood
    generalize listOf N bs = l at *
    obtain ⟨i0, hi, hz0, hz1, hz2⟩ := info_parts Tryd.info4
    have HCK := Lib.hid hck; have HL := Lib.hid hg2; have HIB := Lib.hid hib; have HGL := Lib.hid hgl; have HA := Lib.hid hA; have HN := Lib.hid hn
    clear hck hg2 hg3 hgood hA hn hls hib hgl
    unfold maxLen at hm
    go_enter Tryd.func63, Tryd.ntmps63
    go_wp2_with (go_at_call 61; refine (HCK.out _ ((Below.refl _ _).alloc (Nat.le_refl _) _)).mono ?_; rintro e w1 ⟨rfl, hB⟩; obtain ⟨k1, hs, hBw⟩ := boxes1 hB; obtain ⟨c1, c2, f1, f2⟩ := k1.two)
    go_loopw [3, 4] (fun v i wr => ∃ k : Nat, (k : Int) ≤ N ∧ i = .int .i64 k ∧ wr.ownsRow (w.heap.size + 1) 4 1 v k ((l.take k).map Value.bool) ∧ Blk wr w.heap.size 68 #[.int .i64 N, .slice A n c] ∧ Below w.heap.size w wr)
      (fun _ i _ => N.toNat - (intOf i).toNat)
    case atStart => exact ⟨0, by omega, rfl, World.ownsRow_nil _ _ _ _, k1, hBw⟩
    case round =>
      obtain ⟨k, hk, rfl, hrow, q1, hBr⟩ := hrel
      obtain ⟨c3, c4, f3, f4⟩ := q1.two
      clear c1 c2 f1 f2 k1 hB
      by_cases hlt : (k : Int) < N
      · have hone := fun w1 (h : Below w.heap.size w w1) => rbit_any k A n c bs w1 (by omega) (by omega) HN.out (by have := HL.out; omega) ((HA.out.below h).mono h.size)
        simp only [Int.toNat_natCast, HIB.out.2] at hone
        have hts := take_snoc_map l k (by have := HGL.out; omega)
        obtain ⟨bk, hbk⟩ : ∃ bk, bk = l[k]?.getD false := ⟨_, rfl⟩
        rw [← hbk] at hone hts
        have HO := Lib.hid hone; have HT := Lib.hid hts; clear hone hts hbk
        generalize hq : (l.take k).map Value.bool = ql at *
        clear hq
        go_wp2_with (first
          | (go_at_call 75; refine (HO.out _ hBr).mono ?_; rintro e w' ⟨rfl, rfl⟩)
          | (at_builtin; refine wpList_append_own _ rfl _ _ 22 rfl (w.heap.size + 1) 4 i0 (.bool false) 1 1 Tryd.underlying22 hi hz0 hz1 hz2 rfl (by decide) u3 _ _ rfl (hrow.alloc _) ⟨wr.heap.size, 0, none⟩ 1 1 [.bool bk] rfl rfl (cell_one_new _ _ _) (by simp [Value.oneCell']) (by unfold maxLen; omega) (by omega) (by have := q1.lt; simp; omega) ?_; intro v' w2 hown' hgrow _; have hq1 := own_grown_low hrow hgrow w.heap.size (by omega) q1.lt))
        go_roundw
        case rel => exact ⟨k + 1, by omega, by go_num, by rw [HT.out]; exact hown', hq1.trans q1, own_below hrow hgrow hBr (by omega) hBr.size⟩
        case measure => simp [intOf]; omega
      · obtain rfl : k = l.length := by have := HGL.out; omega
        rw [List.take_length] at hrow
        go_wp2
        go_ret
        exact ⟨_, rfl, own_mono hrow (by omega), hBr⟩
  · have hls : lst N bs = [] := by simp [lst, hgood]
    rw [chk_no (by simpa using hgood)] at hck
    rw [hls]
    have HCK := Lib.hid hck
    clear hck hgood hA hn hls
    unfold maxLen at hm
    go_enter Tryd.func63, Tryd.ntmps63
    go_wp2_with (go_at_call 61; refine (HCK.out _ ((Below.refl _ _).alloc (Nat.le_refl _) _)).mono ?_; rintro e w1 ⟨rfl, hB⟩; obtain ⟨k1, hs, hBw⟩ := boxes1 hB; obtain ⟨c1, c2, f1, f2⟩ := k1.two)
    go_ret
    exact ⟨_, rfl, World.ownsRow_nil _ _ _ _, hBw⟩
end Go.Proofs.YtnmaelefcohogaaDoor

namespace Go.Proofs.YtnmaelefcohogaaDoor
open Go.RowKit

/-- The slice at A holds the truths l, in a block below n₀ (nil or empty where there are none). -/
def Bools (n₀ : Nat) (W : World) (A : Option Addr) (l : List Bool) : Prop :=
  l ≠ [] → ∃ b off, A = some ⟨b, off, none⟩ ∧ b < n₀ ∧ ∀ j, j < l.length → W.cell? ⟨b, off + j, none⟩ = some (.bool (l[j]?.getD false))
theorem Bools.below {n₀ : Nat} {W W' : World} {A : Option Addr} {l : List Bool} (h : Bools n₀ W A l) (hb : Below n₀ W W') : Bools n₀ W' A l := fun hn => by
  obtain ⟨b, off, e, hlt, hc⟩ := h hn
  exact ⟨b, off, e, hlt, fun j hj => (hb.cell (p := ⟨b, off + j, none⟩) hlt).trans (hc j hj)⟩
theorem Bools.mono {n₀ n₁ : Nat} {W : World} {A : Option Addr} {l : List Bool} (h : Bools n₀ W A l) (hn : n₀ ≤ n₁) : Bools n₁ W A l := fun hb => by
  obtain ⟨b, off, e, hlt, hc⟩ := h hb
  exact ⟨b, off, e, Nat.lt_of_lt_of_le hlt hn, hc⟩
theorem Bools.at_ {n₀ : Nat} {W : World} {A : Option Addr} {l : List Bool} (h : Bools n₀ W A l) {k : Nat} (hk : k < l.length) :
    ∃ b off, A = some ⟨b, off, none⟩ ∧ b < n₀ ∧ W.cell? ⟨b, off + k, none⟩ = some (.bool (l[k]?.getD false)) := by
  obtain ⟨b, off, e, hlt, hc⟩ := h (by rintro rfl; simp at hk)
  exact ⟨b, off, e, hlt, hc k hk⟩
theorem bools_of_own {w : World} {base : Nat} {v : Value} {k : Nat} {l : List Bool} (h : w.ownsRow base 4 1 v k (l.map Value.bool)) : ∃ A c, v = .slice A l.length c ∧ Bools w.heap.size w A l := by
  have hk : l.length = k := by have := h.1; simpa using this
  rcases h.2 with ⟨rfl, h0⟩ | ⟨g, cap, cur, rfl, _, hh, _⟩
  · exact ⟨none, 0, by rw [hk, h0], fun hne => absurd (List.eq_nil_of_length_eq_zero (hk.trans h0)) hne⟩
  · refine ⟨some ⟨g, 0, none⟩, cap, by rw [hk], fun _ => ⟨g, 0, rfl, (Array.getElem?_eq_some_iff.1 hh).1, fun j hj => ?_⟩⟩
    have := h.cells (g := g) rfl j (.bool (l[j]?.getD false)) (by simp [hj])
    rwa [addr_add] at this

theorem or_mask (x : UInt8) (k : Nat) (hk : k ≤ 7) (h : x.toNat.testBit k = false) : bits .or .u8 (x.toNat : Int) (2 ^ k) = ((x ^^^ UInt8.ofNat (2 ^ k)).toNat : Int) := by
  have hm : 2 ^ k < 2 ^ 8 := Nat.pow_lt_pow_right (by omega) (by omega)
  have hx := x.toNat_lt
  have e2 : (2 : Int) ^ k = ((2 ^ k : Nat) : Int) := by norm_cast
  rw [e2, u8_or_nat _ _ hx hm, UInt8.toNat_xor, UInt8.toNat_ofNat', Nat.mod_eq_of_lt hm]
  congr 1
  apply Nat.eq_of_testBit_eq
  intro i
  rw [Nat.testBit_or, Nat.testBit_xor, Nat.testBit_two_pow]
  by_cases e : k = i
  · subst e; simp [h]
  · simp [e]

theorem pow256 (j : Nat) (h : j ≤ 7) : (2 : Int) ^ j % 256 = 2 ^ j := by
  have hlt : 2 ^ j < 2 ^ 8 := Nat.pow_lt_pow_right (by omega) (by omega)
  have e : (2 : Int) ^ j = ((2 ^ j : Nat) : Int) := by norm_cast
  rw [e]; generalize 2 ^ j = q at hlt; omega
theorem or_row {w wr : World} {g ob m k : Nat} {l : List Bool} {bs : List UInt8} (h : OutRel w g ob m l k bs wr) :
    Blk (wr.setCell ⟨g, k / 8, none⟩ (.int .u8 (bits .or .u8 ((bs[k / 8]?.getD 0).toNat : Int) (2 ^ (7 - k % 8) % 256)))) g 5 (encB (flipB bs k)) := by
  have hb : bitAt bs k = false := by rw [h.is_.2, paint_get]; simp
  rw [pow256 _ (by omega), or_mask _ _ (by omega) hb]
  have := h.row.set_ (k / 8) (.int .u8 ((bs[k / 8]?.getD 0 ^^^ UInt8.ofNat (2 ^ (7 - k % 8))).toNat : Int))
  rw [encB_set] at this
  exact this

/-- Of, by the document. -/
def ofS (l : List Bool) : Int × List Bool := if 4096 < l.length then (3, []) else (0, l)

end Go.Proofs.YtnmaelefcohogaaDoor

namespace Go.Proofs.YtnmaelefcohogaaDoor
open Go.RowKit

/-- Whether bits are the same. -/
def sameB (N : Int) (bs : List UInt8) (N' : Int) (bs' : List UInt8) : Bool := decide (N = N') && decide (bs = bs')
theorem sameB_self (N : Int) (bs : List UInt8) : sameB N bs N bs = true := by simp [sameB]
theorem str_list (l : List UInt8) : (⟨l.toArray⟩ : ByteArray).toList = l := by rw [ByteArray.toList_eq]
theorem str_eq (l r : List UInt8) : ((⟨l.toArray⟩ : ByteArray).toList == (⟨r.toArray⟩ : ByteArray).toList) = decide (l = r) := by
  rw [str_list, str_list, Bool.eq_iff_iff]
  simp

set_option maxRecDepth 4000 in
set_option maxHeartbeats 1000000 in
theorem bequal_any (A A' : Option Addr) (n n' c c' : Nat) (bs bs' : List UInt8) (w : World) (hn : n = bs.length) (hn' : n' = bs'.length) (hA : Byt w.heap.size w A bs) (hA' : Byt w.heap.size w A' bs') :
    Calls Tryd.prog 10 #[.slice A n c, .slice A' n' c'] w fun e w' => e = .returned (.bool (decide (bs = bs'))) ∧ w = w' := by
  have hs1 : (convert 26 9 (.slice A n c)).run Tryd.prog w = _ := run_string_bytes hn hA
  have hs2 : (convert 26 9 (.slice A' n' c')).run Tryd.prog w = _ := run_string_bytes hn' hA'
  clear hA hA' hn hn'
  rw [← str_eq]
  generalize (⟨bs.toArray⟩ : ByteArray) = s1 at *
  generalize (⟨bs'.toArray⟩ : ByteArray) = s2 at *
  go_enter Tryd.func10, Tryd.ntmps10
  go_wp2
  go_ret
  exact ⟨rfl, rfl⟩

end Go.Proofs.YtnmaelefcohogaaDoor

namespace Go.Proofs.YtnmaelefcohogaaDoor
open Go.RowKit

theorem numBits_take (v W k : Nat) (h : k < W) : (numBits v W).take (k + 1) = (numBits v W).take k ++ [v.testBit (W - 1 - k)] := by
  rw [List.take_add_one, List.getElem?_eq_getElem (by simp [numBits, h])]
  simp [numBits]

end Go.Proofs.YtnmaelefcohogaaDoor

namespace Go.Proofs.YtnmaelefcohogaaDoor
open Go.RowKit

theorem u64_more (x : Nat) (h : 2 * x < 2 ^ 64) : IntKind.u64.wrap (((2 * x : Nat) : Int) + 1) = ((2 * x + 1 : Nat) : Int) := by
  rw [IntKind.wrap_u64]; omega

end Go.Proofs.YtnmaelefcohogaaDoor

namespace Go.Proofs.YtnmaelefcohogaaDoor
open Go.RowKit

/-- Is a byte a digit? -/
def isDig (x : UInt8) : Bool := x == 48 || x == 49
/-- Parse, by the document. -/
def parseS (s : List UInt8) : Int × List Bool := if 4096 < s.length then (3, []) else if s.all isDig = true then (0, s.map (· == 49)) else (11, [])

theorem bytes_length (s : ByteArray) : s.data.toList.length = s.size := Array.length_toList
theorem byte_at (s : ByteArray) (k : Nat) (h : k < s.size) : s.data.toList[k]? = some s[k] := by
  rw [List.getElem?_eq_getElem (by rw [bytes_length]; exact h)]
  rfl
theorem take_all (s : ByteArray) (k : Nat) (h : k < s.size) : (s.data.toList.take (k + 1)).all isDig = ((s.data.toList.take k).all isDig && isDig s[k]) := by
  rw [List.take_add_one, byte_at s k h, List.all_append]
  simp
theorem digit_at (s : ByteArray) (k : Nat) (h : k < s.size) : (s.data.toList.map (· == 49))[k]?.getD false = (s[k] == 49) := by
  rw [List.getElem?_map, byte_at s k h]
  rfl
theorem is48 (x : UInt8) : ((x.toNat : Int) == 48) = (x == 48) := by
  rw [Bool.eq_iff_iff, beq_iff_eq, beq_iff_eq, ← UInt8.toNat_inj]
  have : (48 : UInt8).toNat = 48 := rfl
  omega
theorem is49 (x : UInt8) : ((x.toNat : Int) == 49) = (x == 49) := by
  rw [Bool.eq_iff_iff, beq_iff_eq, beq_iff_eq, ← UInt8.toNat_inj]
  have : (49 : UInt8).toNat = 49 := rfl
  omega
theorem not_all (s : ByteArray) (k : Nat) (h : k < s.size) (hd : isDig s[k] = false) : s.data.toList.all isDig = false := by
  rw [List.all_eq_false]
  exact ⟨s[k], List.mem_of_getElem? (byte_at s k h), by rw [hd]; decide⟩

end Go.Proofs.YtnmaelefcohogaaDoor

namespace Go.Proofs.YtnmaelefcohogaaDoor
open Go.RowKit

theorem take_snoc_dig (s : ByteArray) (k : Nat) (h : k < s.size) : ((s.data.toList.take (k + 1)).map (· == 49)).map Value.bool = ((s.data.toList.take k).map (· == 49)).map Value.bool ++ [.bool (s[k] == 49)] := by
  rw [List.take_add_one, byte_at s k h]; simp

theorem take_snoc_text (l : List Bool) (k : Nat) (h : k < l.length) : ((l.take (k + 1)).map dig).map (fun x => Value.int .u8 (x.toNat : Int)) = ((l.take k).map dig).map (fun x => Value.int .u8 (x.toNat : Int)) ++ [.int .u8 ((dig (l[k]?.getD false)).toNat : Int)] := by
  rw [List.take_add_one, List.getElem?_eq_getElem h, List.map_append, List.map_append]; rfl

end Go.Proofs.YtnmaelefcohogaaDoor

namespace Go.Proofs.YtnmaelefcohogaaDoor
open Go.RowKit

/-- A world that keeps all that lay in w0. -/
structure NearW (w0 : World) where
  W : World
  h : Below w0.heap.size w0 W
instance (w0 : World) : Nonempty (NearW w0) := ⟨⟨w0, Below.refl _ _⟩⟩
theorem wp_region_near {P : Program} {id : Nat} {Q : Exit → Act → World → Prop} {a : Act} {w : World} {l : List Oper} (hm : P.follows .mixedOrders = true) (hB : Region.lexB .any l.toArray = true)
    (h : wpQuiet P l.toArray (fun w' => ∃ n : NearW w, w' = n.W) (fun a' => ∀ w', (∃ n : NearW w, w' = n.W) → Q .normal a' w') l a) : (Code.region id l.toArray true).wp P Q a w :=
  wp_region_quiet (C := fun w' => ∃ n : NearW w, w' = n.W) hm hB ⟨⟨_, (Below.refl _ w).drew⟩, rfl⟩ (by simpa using h)
theorem near_call {P : Program} {f : FuncId} {args : Array Value} {w0 : World} {n : NearW w0} {v : Value} (h : Calls P f args n.W fun e w' => e = .returned v ∧ Below n.W.heap.size n.W w') :
    Calls P f args n.W fun e w'' => e = .returned v ∧ ∃ m : NearW w0, w'' = m.W :=
  h.mono fun _ w' ⟨he, hb⟩ => ⟨he, ⟨w', n.h.trans (hb.mono n.h.size)⟩, rfl⟩
theorem near_byt {w0 : World} {A : Option Addr} {bs : List UInt8} (h : Byt w0.heap.size w0 A bs) (n : NearW w0) : Byt n.W.heap.size n.W A bs := (h.below n.h).mono n.h.size
theorem near_two {w0 : World} {g : Nat} {t : TypeId} {a b : Value} (h : Blk w0 g t #[a, b]) : (∀ n : NearW w0, n.W.cell? ⟨g, 0, none⟩ = some a) ∧ (∀ n : NearW w0, n.W.cell? ⟨g, 1, none⟩ = some b) :=
  ⟨fun n => (h.below n.h h.lt).two.1, fun n => (h.below n.h h.lt).two.2.1⟩
end Go.Proofs.YtnmaelefcohogaaDoor

namespace Go.Proofs.YtnmaelefcohogaaDoor
open Go.RowKit

/-- Slice, by the document. -/
def sliceS (N : Int) (bs : List UInt8) (fr to : Int) : Int × List Bool :=
  if goodB N bs = true then
    if 0 ≤ fr ∧ fr ≤ to ∧ to ≤ N then (0, ((listOf N bs).drop fr.toNat).take (to.toNat - fr.toNat)) else (2, [])
  else (10, [])

theorem part_length (l : List Bool) (f t : Nat) (h : t ≤ l.length) : ((l.drop f).take (t - f)).length = t - f := by simp; omega
theorem part_get (l : List Bool) (f t k : Nat) (hk : k < t - f) : ((l.drop f).take (t - f))[k]?.getD false = l[f + k]?.getD false := by
  rw [List.getElem?_take_of_lt hk, List.getElem?_drop]

end Go.Proofs.YtnmaelefcohogaaDoor

namespace Go.Proofs.YtnmaelefcohogaaDoor
open Go.RowKit

/-- Truths in a row of the call's own: nil, or a block. -/
theorem own_bools {w : World} {base : Nat} {v : Value} {k : Nat} {l : List Bool} (h : w.ownsRow base 4 1 v k (l.map Value.bool)) :
    (v = .slice none 0 0 ∧ l = []) ∨ ∃ g cap, v = .slice (some ⟨g, 0, none⟩) l.length cap ∧ base ≤ g ∧ g < w.heap.size ∧ l.length ≤ cap ∧ cap ≤ maxLen ∧ (∀ j, j < l.length → w.cell? ⟨g, j, none⟩ = some (.bool (l[j]?.getD false))) ∧ ∀ j, w.frozen? ⟨g, j, none⟩ = false := by
  have hk : l.length = k := by have := h.1; simpa using this
  rcases h.2 with ⟨rfl, h0⟩ | ⟨g, cap, cur, rfl, hb, hh, h1, h2, _⟩
  · exact .inl ⟨rfl, List.eq_nil_of_length_eq_zero (hk.trans h0)⟩
  · refine .inr ⟨g, cap, by rw [hk], hb, (Array.getElem?_eq_some_iff.1 hh).1, by omega, h2, fun j hj => ?_, fun j => by simp [World.frozen?, hh]⟩
    have := h.cells (g := g) rfl j (.bool (l[j]?.getD false)) (by simp [hj])
    rwa [addr_add, Nat.zero_add] at this

end Go.Proofs.YtnmaelefcohogaaDoor

namespace Go.Proofs.YtnmaelefcohogaaDoor
open Go.RowKit

/-- The slice at A holds the places zs, in a block below n₀ (nil or empty where there are none). -/
def Ints (n₀ : Nat) (W : World) (A : Option Addr) (zs : List Int) : Prop :=
  zs ≠ [] → ∃ b off, A = some ⟨b, off, none⟩ ∧ b < n₀ ∧ ∀ j, j < zs.length → W.cell? ⟨b, off + j, none⟩ = some (.int .i64 (zs[j]?.getD 0))
theorem Ints.below {n₀ : Nat} {W W' : World} {A : Option Addr} {zs : List Int} (h : Ints n₀ W A zs) (hb : Below n₀ W W') : Ints n₀ W' A zs := fun hn => by
  obtain ⟨b, off, e, hlt, hc⟩ := h hn
  exact ⟨b, off, e, hlt, fun j hj => (hb.cell (p := ⟨b, off + j, none⟩) hlt).trans (hc j hj)⟩
theorem Ints.mono {n₀ n₁ : Nat} {W : World} {A : Option Addr} {zs : List Int} (h : Ints n₀ W A zs) (hn : n₀ ≤ n₁) : Ints n₁ W A zs := fun hb => by
  obtain ⟨b, off, e, hlt, hc⟩ := h hb
  exact ⟨b, off, e, Nat.lt_of_lt_of_le hlt hn, hc⟩
theorem Ints.at_ {n₀ : Nat} {W : World} {A : Option Addr} {zs : List Int} (h : Ints n₀ W A zs) {k : Nat} (hk : k < zs.length) :
    ∃ b off, A = some ⟨b, off, none⟩ ∧ b < n₀ ∧ W.cell? ⟨b, off + k, none⟩ = some (.int .i64 (zs[k]?.getD 0)) := by
  obtain ⟨b, off, e, hlt, hc⟩ := h (by rintro rfl; simp at hk)
  exact ⟨b, off, e, hlt, hc k hk⟩

/-- One bit turned. -/
def flip1 (l : List Bool) (i : Int) : List Bool := l.set i.toNat (!(l[i.toNat]?.getD false))
def okAt (N : Int) (zs : List Int) : Bool := zs.all fun i => decide (0 ≤ i) && decide (i < N)
def flips (l : List Bool) (zs : List Int) : List Bool := zs.foldl flip1 l
/-- Flip, by the document. -/
def flipS (N : Int) (bs : List UInt8) (zs : List Int) : Int × List Bool :=
  if goodB N bs = true then if okAt N zs = true then (0, flips (listOf N bs) zs) else (2, []) else (10, [])
theorem flip1_length (l : List Bool) (i : Int) : (flip1 l i).length = l.length := by simp [flip1]
theorem flips_length (zs : List Int) : ∀ l : List Bool, (flips l zs).length = l.length := by
  induction zs with
  | nil => intro l; rfl
  | cons z zs ih => intro l; show (flips (flip1 l z) zs).length = _; rw [ih, flip1_length]
theorem int_at (zs : List Int) (k : Nat) (h : k < zs.length) : zs.take (k + 1) = zs.take k ++ [zs[k]?.getD 0] := by
  rw [List.take_add_one, List.getElem?_eq_getElem h]; rfl
theorem flips_snoc (l : List Bool) (zs : List Int) (z : Int) : flips l (zs ++ [z]) = flip1 (flips l zs) z := by simp [flips]
theorem ok_snoc (N : Int) (zs : List Int) (z : Int) : okAt N (zs ++ [z]) = (okAt N zs && (decide (0 ≤ z) && decide (z < N))) := by simp [okAt]
theorem ok_not (N : Int) (zs : List Int) (k : Nat) (h : k < zs.length) (hb : ¬ (0 ≤ zs[k]?.getD 0 ∧ zs[k]?.getD 0 < N)) : okAt N zs = false := by
  unfold okAt
  rw [List.all_eq_false]
  refine ⟨zs[k], List.getElem_mem h, ?_⟩
  rw [List.getElem?_eq_getElem h] at hb
  simpa using hb

/-- Bits under way: the row g, its box ob hold the truths t; all that was there stays. -/
structure RowRel (w : World) (g ob m : Nat) (t : List Bool) (bs : List UInt8) (wr : World) : Prop where
  is_ : IsBits t bs
  len : bs.length = m
  row : Blk wr g 5 (encB bs)
  box : Blk wr ob 68 #[.int .i64 (t.length : Int), .slice (some ⟨g, 0, none⟩) m m]
  low : Below w.heap.size w wr
  ge : w.heap.size ≤ g
  lt : g < ob
theorem RowRel.turned {w wr wr' : World} {g ob m : Nat} {t : List Bool} {bs : List UInt8} (h : RowRel w g ob m t bs wr) (i : Int) (hi : i.toNat < t.length) (hr : Blk wr' g 5 (encB (flipB bs i.toNat))) (hg : wr.grownBy wr' (some g)) :
    RowRel w g ob m (flip1 t i) (flipB bs i.toNat) wr' :=
  ⟨isBits_flip h.is_ hi, by rw [flipB_length]; exact h.len, hr, by rw [flip1_length]; exact h.box.grown hg (by have := h.lt; simp; omega), h.low.grown hg h.low.size (fun k e => by injection e with e; have := h.ge; omega), h.ge, h.lt⟩

end Go.Proofs.YtnmaelefcohogaaDoor

namespace Go.Proofs.YtnmaelefcohogaaDoor
open Go.RowKit

theorem flip_row {w : World} {base g cap zz n : Nat} {lk : List Bool} (h : w.ownsRow base 4 1 (.slice (some ⟨g, 0, none⟩) lk.length cap) n (lk.map Value.bool)) (hn : lk.length = n) (q : Nat) :
    ((w.drewN q).setCell ⟨g, zz, none⟩ (.bool (!(lk[zz]?.getD false)))).ownsRow base 4 1 (.slice (some ⟨g, 0, none⟩) lk.length cap) n ((flip1 lk zz).map Value.bool) ∧ w.grownBy ((w.drewN q).setCell ⟨g, zz, none⟩ (.bool (!(lk[zz]?.getD false)))) (some g) := by
  subst hn
  have hd : (w.drewN q).ownsRow base 4 1 (.slice (some ⟨g, 0, none⟩) lk.length cap) lk.length (lk.map Value.bool) := h
  obtain ⟨h1, h2⟩ := hd.stored zz (.bool (!(lk[zz]?.getD false)))
  refine ⟨?_, h2.os, h2.tape, h2.output, h2.size, h2.block⟩
  unfold flip1
  rw [Int.toNat_natCast, List.map_set]
  exact h1

end Go.Proofs.YtnmaelefcohogaaDoor
