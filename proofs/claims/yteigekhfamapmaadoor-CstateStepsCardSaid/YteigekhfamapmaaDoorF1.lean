/-
  The document itself: Check and List. No condition but that the bytes can be read.
-/
import Derived.Test.YteigekhfamapmaaDoorE8
namespace Go.Proofs.YteigekhfamapmaaDoor
open Go.RowKit

theorem shr_test (x j : Nat) : (((x : Int) / 2 ^ j).tmod 2 == 1) = x.testBit j := by
  have e : ((x : Int) / 2 ^ j) = ((x / 2 ^ j : Nat) : Int) := by norm_cast
  rw [e, Nat.testBit_eq_decide_div_mod_eq, Int.tmod_eq_emod_of_nonneg (Int.natCast_nonneg _)]
  rcases Nat.mod_two_eq_zero_or_one (x / 2 ^ j) with h | h
  · have h' : ((x / 2 ^ j : Nat) : Int) % 2 = 0 := by omega
    rw [h, h']; rfl
  · have h' : ((x / 2 ^ j : Nat) : Int) % 2 = 1 := by omega
    rw [h, h']; rfl

set_option maxRecDepth 4000 in
set_option maxHeartbeats 400000 in
theorem rbit_at (i : Int) (b off n c : Nat) (x : UInt8) (w : World) (h0 : 0 ≤ i) (h1 : i ≤ 8192) (hi : i / 8 < n) (hc : w.cell? ⟨b, off + (i / 8).toNat, none⟩ = some (.int .u8 x.toNat)) :
    Calls Tryd.prog 51 #[.slice (some ⟨b, off, none⟩) n c, .int .i64 i] w fun e w' => e = .returned (.bool (x.toNat.testBit (7 - i.toNat % 8))) ∧ w = w' := by
  have hx := x.toNat_lt
  have hi0 : 0 ≤ i / 8 := by omega
  go_enter Tryd.func51, Tryd.ntmps51
  go_wp2
  go_ret
  exact ⟨ret_bool (by rw [shr_test, show (7 - i % 8).toNat = 7 - i.toNat % 8 by omega]), rfl⟩

theorem rbit_any (i : Int) (A : Option Addr) (n c : Nat) (bs : List UInt8) (w : World) (h0 : 0 ≤ i) (h1 : i ≤ 8192) (hn : n = bs.length) (hi : i < 8 * (bs.length : Int)) (hA : Byt w.heap.size w A bs) :
    Calls Tryd.prog 51 #[.slice A n c, .int .i64 i] w fun e w' => e = .returned (.bool (bitAt bs i.toNat)) ∧ w = w' := by
  obtain ⟨b, off, rfl, hlt, hc⟩ := hA.at_ (k := (i / 8).toNat) (by omega)
  have e : (i / 8).toNat = i.toNat / 8 := by omega
  unfold bitAt
  rw [← e]
  exact rbit_at i b off n c _ w h0 h1 (by omega) hc

set_option maxRecDepth 4000 in
set_option maxHeartbeats 1000000 in
theorem rcheck_any (N : Int) (A : Option Addr) (n c : Nat) (bs : List UInt8) (w : World) (hn : n = bs.length) (hm : n ≤ maxLen) (hA : Byt w.heap.size w A bs) :
    Calls Tryd.prog 36 #[.agg #[.int .i64 N, .slice A n c]] w fun e w' => e = .returned (.int .i64 (chk N bs)) ∧ Below w.heap.size w w' := by
  unfold maxLen at hm
  by_cases hN0 : N < 0
  · have hr := chk_no (N := N) (bs := bs) (by rw [Bool.eq_false_iff, Ne, good_iff]; omega)
    have hd : decide (N < 0) = true := by simpa using hN0
    rw [hr]; clear hr
    have HH := Lib.hid hn; clear hn
    go_enter Tryd.func36, Tryd.ntmps36
    go_wp2
    go_ret
    exact ⟨rfl, (Below.refl _ _).alloc (Nat.le_refl _) _⟩
  have hd0 : decide (N < 0) = false := by simpa using hN0
  by_cases hN1 : 4096 < N
  · have hr := chk_no (N := N) (bs := bs) (by rw [Bool.eq_false_iff, Ne, good_iff]; omega)
    have hd : decide (4096 < N) = true := by simpa using hN1
    rw [hr]; clear hr
    have HH := Lib.hid hn; clear hn
    go_enter Tryd.func36, Tryd.ntmps36
    go_wp2
    go_ret
    exact ⟨rfl, (Below.refl _ _).alloc (Nat.le_refl _) _⟩
  have hd1 : decide (4096 < N) = false := by simpa using hN1
  have hN0' : 0 ≤ N := by omega
  have hN1' : N ≤ 4096 := by omega
  clear hN0 hN1
  by_cases hl : (n : Int) = (N + 7) / 8
  · have hlb : ((n : Int) != (N + 7) / 8) = false := by simpa using hl
    have HL := Lib.hid hl
    have hl8 : 8 * (n : Int) ≤ N + 7 := by omega
    have hl9 : N ≤ 8 * (n : Int) := by omega
    clear hl
    have HH := Lib.hid hn; clear hn
    go_enter Tryd.func36, Tryd.ntmps36
    go_wp2
    go_loopw [3] (fun i wr => ∃ k : Nat, N ≤ k ∧ (k : Int) ≤ 8 * n ∧ i = .int .i64 k ∧ (∀ j : Nat, N ≤ j → j < k → bitAt bs j = false) ∧ wr = w.alloc (.cells #[.int .i64 N, .slice A n c] 26))
      (fun i _ => 8 * n - (intOf i).toNat)
    case atStart =>
      exact ⟨N.toNat, by omega, by omega, by rw [Int.toNat_of_nonneg hN0'], fun j h1 h2 => by omega, rfl⟩
    case round =>
      obtain ⟨k, hk0, hk1, rfl, hall, rfl⟩ := hrel
      have HALL := Lib.hid hall; clear hall
      have hB : Below w.heap.size w (w.alloc (.cells #[.int .i64 N, .slice A n c] 26)) := (Below.refl _ _).alloc (Nat.le_refl _) _
      by_cases hlt : (k : Int) < 8 * n
      · have hone := rbit_any k A n c bs (w.alloc (.cells #[.int .i64 N, .slice A n c] 26)) (by omega) (by omega) HH.out (by have := HH.out; omega) ((hA.below hB).mono hB.size)
        rw [Int.toNat_natCast] at hone
        by_cases hbit : bitAt bs k = true
        · rw [hbit] at hone
          have HO := Lib.hid hone; clear hone
          have hr := chk_no (N := N) (bs := bs) (by
            rw [Bool.eq_false_iff, Ne, good_iff]
            rintro ⟨_, _, _, h⟩
            rw [h k hk0] at hbit
            cases hbit)
          have HR := Lib.hid hr; clear hr hbit
          go_wp2_with (go_at_call 51; refine HO.out.mono ?_; rintro e w' ⟨rfl, rfl⟩)
          go_ret
          exact ⟨by rw [HR.out]; rfl, hB⟩
        · rw [Bool.not_eq_true] at hbit
          rw [hbit] at hone
          have HO := Lib.hid hone; clear hone
          have HBIT := Lib.hid hbit; clear hbit
          go_wp2_with (go_at_call 51; refine HO.out.mono ?_; rintro e w' ⟨rfl, rfl⟩)
          go_roundw
          case rel =>
            refine ⟨k + 1, by omega, by omega, by go_num, fun j h1 h2 => ?_, by first | rfl | trivial⟩
            rcases Nat.lt_or_ge j k with h | h
            · exact HALL.out j h1 h
            · obtain rfl : j = k := by omega
              exact HBIT.out
          case measure => simp [intOf]; omega
      · have hr := chk_yes (N := N) (bs := bs) (by
          rw [good_iff]
          refine ⟨hN0', hN1', by rw [← HH.out]; exact HL.out, fun j hj => ?_⟩
          rcases Nat.lt_or_ge j k with h | h
          · exact HALL.out j hj h
          · exact bitAt_beyond bs j (by have := HH.out; omega))
        have HR := Lib.hid hr; clear hr
        go_wp2
        go_ret
        exact ⟨by rw [HR.out]; rfl, hB⟩
  · have hlb : ((n : Int) != (N + 7) / 8) = true := by simpa using hl
    have hr := chk_no (N := N) (bs := bs) (by rw [Bool.eq_false_iff, Ne, good_iff]; omega)
    rw [hr]; clear hr hl
    have HH := Lib.hid hn; clear hn
    go_enter Tryd.func36, Tryd.ntmps36
    go_wp2
    go_ret
    exact ⟨rfl, (Below.refl _ _).alloc (Nat.le_refl _) _⟩

theorem Tryd.info4 : (Tryd.prog.info? 4).map (fun i => (i.zero, i.size, i.bytes)) = some (some (.bool false), 1, 1) := by kernel_rfl
/-- What the document's List answers. -/
def Truths (w : World) (l : List Bool) (e : Ending) (w' : World) : Prop := ∃ v, e = .returned v ∧ w'.ownsRow w.heap.size 4 1 v l.length (l.map Value.bool) ∧ Below w.heap.size w w'

theorem own_mono {w : World} {b b' : Nat} {e : TypeId} {size : Nat} {v : Value} {n : Nat} {xs : List Value} (h : w.ownsRow b e size v n xs) (hb : b' ≤ b) : w.ownsRow b' e size v n xs := by
  refine ⟨h.1, ?_⟩
  rcases h.2 with h2 | ⟨g, cap, cur, hv, hg, r⟩
  · exact .inl h2
  · exact .inr ⟨g, cap, cur, hv, Nat.le_trans hb hg, r⟩
theorem own_grown_low {w w' : World} {b : Nat} {e : TypeId} {size : Nat} {v : Value} {n : Nat} {xs : List Value} {o : Obj} (h : w.ownsRow b e size v n xs) (hg : (w.alloc o).grownBy w' v.ownBlock) (q : Nat) (hq : q < b) (hq2 : q < w.heap.size) : w'.heap[q]? = w.heap[q]? := by
  refine (hg.block q (by simp; omega) (fun e => ?_)).trans (Below.heap_alloc w o q hq2)
  have := (h.lt q e.symm).1
  omega
theorem own_below {w w' a : World} {b B : Nat} {e : TypeId} {size : Nat} {v : Value} {n : Nat} {xs : List Value} {o : Obj} (h : w.ownsRow b e size v n xs) (hg : (w.alloc o).grownBy w' v.ownBlock) (hB : Below B a w) (h1 : B ≤ b) (h2 : B ≤ w.heap.size) : Below B a w' :=
  (hB.alloc h2 o).grown hg (by simp; omega) (fun k ek => Nat.le_trans h1 (h.lt k ek).1)

theorem take_snoc_map (l : List Bool) (k : Nat) (h : k < l.length) : (l.take (k + 1)).map Value.bool = (l.take k).map Value.bool ++ [.bool (l[k]?.getD false)] := by
  rw [List.take_add_one, List.map_append, List.getElem?_eq_getElem h]; rfl

set_option maxRecDepth 4000 in
set_option maxHeartbeats 1000000 in
theorem list_any (N : Int) (A : Option Addr) (n c : Nat) (bs : List UInt8) (w : World) (hn : n = bs.length) (hm : n ≤ maxLen) (hA : Byt w.heap.size w A bs) :
    Calls Tryd.prog 47 #[.agg #[.int .i64 N, .slice A n c]] w (Truths w (lst N bs)) := by
  have hck := fun w1 (h : Below w.heap.size w w1) => rcheck_any N A n c bs w1 hn hm ((hA.below h).mono h.size)
  by_cases hgood : goodB N bs = true
  · obtain ⟨hg0, hg1, hg2, hg3⟩ := (good_iff N bs).1 hgood
    rw [chk_yes hgood] at hck
    have hls : lst N bs = listOf N bs := by simp [lst, hgood]
    rw [hls]
    have hib := good_isBits hgood
    have hgl := good_length hgood
    generalize listOf N bs = l at *
    obtain ⟨i0, hi, hz0, hz1, hz2⟩ := info_parts Tryd.info4
    have HCK := Lib.hid hck; have HL := Lib.hid hg2; have HIB := Lib.hid hib; have HGL := Lib.hid hgl; have HA := Lib.hid hA; have HN := Lib.hid hn
    clear hck hg2 hg3 hgood hA hn hls hib hgl
    unfold maxLen at hm
    go_enter Tryd.func47, Tryd.ntmps47
    go_wp2_with (go_at_call 36; refine (HCK.out _ ((Below.refl _ _).alloc (Nat.le_refl _) _)).mono ?_; rintro e w1 ⟨rfl, hB⟩; obtain ⟨k1, hs, hBw⟩ := boxes1 hB; obtain ⟨c1, c2, f1, f2⟩ := k1.two)
    go_loopw [3, 4] (fun v i wr => ∃ k : Nat, (k : Int) ≤ N ∧ i = .int .i64 k ∧ wr.ownsRow (w.heap.size + 1) 4 1 v k ((l.take k).map Value.bool) ∧ Blk wr w.heap.size 26 #[.int .i64 N, .slice A n c] ∧ Below w.heap.size w wr)
      (fun _ i _ => N.toNat - (intOf i).toNat)
    case atStart => exact ⟨0, by omega, rfl, World.ownsRow_nil _ _ _ _, k1, hBw⟩
    case round =>
      obtain ⟨k, hk, rfl, hrow, q1, hBr⟩ := hrel
      obtain ⟨c3, c4, f3, f4⟩ := q1.two
      clear c1 c2 f1 f2 k1 hB
      by_cases hlt : (k : Int) < N
      · have hone := fun w1 (h : Below w.heap.size w w1) => rbit_any k A n c bs w1 (by omega) (by omega) HN.out (by have := HL.out; omega) ((HA.out.below h).mono h.size)
        simp only [Int.toNat_natCast, HIB.out.2] at hone
        have hts := take_snoc_map l k (by have := HGL.out; omega)
        obtain ⟨bk, hbk⟩ : ∃ bk, bk = l[k]?.getD false := ⟨_, rfl⟩
        rw [← hbk] at hone hts
        have HO := Lib.hid hone; have HT := Lib.hid hts; clear hone hts hbk
        generalize hq : (l.take k).map Value.bool = ql at *
        clear hq
        go_wp2_with (first
          | (go_at_call 51; refine (HO.out _ hBr).mono ?_; rintro e w' ⟨rfl, rfl⟩)
          | (at_builtin; refine wpList_append_own _ rfl _ _ 68 rfl (w.heap.size + 1) 4 i0 (.bool false) 1 1 Tryd.underlying68 hi hz0 hz1 hz2 rfl (by decide) u3 _ _ rfl (hrow.alloc _) ⟨wr.heap.size, 0, none⟩ 1 1 [.bool bk] rfl rfl (cell_one_new _ _ _) (by simp [Value.oneCell']) (by unfold maxLen; omega) (by omega) (by have := q1.lt; simp; omega) ?_; intro v' w2 hown' hgrow _; have hq1 := own_grown_low hrow hgrow w.heap.size (by omega) q1.lt))
        go_roundw
        case rel => exact ⟨k + 1, by omega, by go_num, by rw [HT.out]; exact hown', hq1.trans q1, own_below hrow hgrow hBr (by omega) hBr.size⟩
        case measure => simp [intOf]; omega
      · obtain rfl : k = l.length := by have := HGL.out; omega
        rw [List.take_length] at hrow
        go_wp2
        go_ret
        exact ⟨_, rfl, own_mono hrow (by omega), hBr⟩
  · have hls : lst N bs = [] := by simp [lst, hgood]
    rw [chk_no (by simpa using hgood)] at hck
    rw [hls]
    have HCK := Lib.hid hck
    clear hck hgood hA hn hls
    unfold maxLen at hm
    go_enter Tryd.func47, Tryd.ntmps47
    go_wp2_with (go_at_call 36; refine (HCK.out _ ((Below.refl _ _).alloc (Nat.le_refl _) _)).mono ?_; rintro e w1 ⟨rfl, hB⟩; obtain ⟨k1, hs, hBw⟩ := boxes1 hB; obtain ⟨c1, c2, f1, f2⟩ := k1.two)
    go_ret
    exact ⟨_, rfl, World.ownsRow_nil _ _ _ _, hBw⟩
end Go.Proofs.YteigekhfamapmaaDoor
