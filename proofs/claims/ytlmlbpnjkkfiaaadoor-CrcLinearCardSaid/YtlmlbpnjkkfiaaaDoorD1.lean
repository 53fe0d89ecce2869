/-
  Burst of package crc, and the document's: both answer as the document says, for all bits, places and patterns. No condition but that the bytes can be read.
-/
import Derived.Test.YtlmlbpnjkkfiaaaDoorC9
namespace Go.Proofs.YtlmlbpnjkkfiaaaDoor
open Go.RowKit

/-- The places that a pattern turns, from at on, up to its k-th bit. -/
def places (at_ pat k : Nat) : List Int := ((List.range k).filter fun i => pat.testBit i).map fun i => ((at_ + i : Nat) : Int)
theorem places_succ (at_ pat k : Nat) : places at_ pat (k + 1) = places at_ pat k ++ (if pat.testBit k = true then [((at_ + k : Nat) : Int)] else []) := by
  unfold places
  rw [List.range_succ, List.filter_append, List.map_append]
  congr 1
  by_cases h : pat.testBit k = true <;> simp [h]
theorem places_length (at_ pat k : Nat) : (places at_ pat k).length ≤ k := by
  unfold places
  rw [List.length_map]
  exact Nat.le_trans (List.length_filter_le _ _) (by simp)
theorem places_ok (N at_ pat k : Nat) (h : at_ + k ≤ N) : okAt N (places at_ pat k) = true := by
  unfold okAt places
  rw [List.all_eq_true]
  intro z hz
  obtain ⟨i, hi, rfl⟩ := List.mem_map.1 hz
  have := List.mem_range.1 (List.mem_filter.1 hi).1
  simp; omega
/-- Burst, by the document. -/
def burstS (N : Int) (bs : List UInt8) (at_ : Int) (pat : Nat) : Int × List Bool :=
  if goodB N bs = true then if 0 ≤ at_ ∧ at_ ≤ N then flipS N bs (places at_.toNat pat (min 32 (N - at_).toNat)) else (2, []) else (10, [])
theorem bit_test32 (v j : Nat) (hv : v < 2 ^ 32) : (bits .and .u32 ((v : Int) / 2 ^ j) 1 == 1) = v.testBit j := by
  have e : ((v : Int) / 2 ^ j) = ((v / 2 ^ j : Nat) : Int) := by norm_cast
  have hle : v / 2 ^ j ≤ v := Nat.div_le_self _ _
  rw [e, show (1 : Int) = ((1 : Nat) : Int) from rfl, u32_and_nat _ _ (by omega) (by omega), nat_mask1, Nat.testBit_eq_decide_div_mod_eq]
  rcases Nat.mod_two_eq_zero_or_one (v / 2 ^ j) with h | h <;> rw [h] <;> rfl
theorem Tryd.info3 : (Tryd.prog.info? 3).map (fun i => (i.zero, i.size, i.bytes)) = some (some (.int .i64 0), 1, 8) := by kernel_rfl
theorem ints_of_own {w : World} {base : Nat} {v : Value} {k : Nat} {l : List Int} (h : w.ownsRow base 3 1 v k (l.map (Value.int .i64))) : ∃ A c, v = .slice A l.length c ∧ Ints w.heap.size w A l := by
  have hk : l.length = k := by have := h.1; simpa using this
  rcases h.2 with ⟨rfl, h0⟩ | ⟨g, cap, cur, rfl, _, hh, _⟩
  · exact ⟨none, 0, by rw [hk, h0], fun hne => absurd (List.eq_nil_of_length_eq_zero (hk.trans h0)) hne⟩
  · refine ⟨some ⟨g, 0, none⟩, cap, by rw [hk], fun _ => ⟨g, 0, rfl, (Array.getElem?_eq_some_iff.1 hh).1, fun j hj => ?_⟩⟩
    have := h.cells (g := g) rfl j (.int .i64 (l[j]?.getD 0)) (by simp [hj])
    rwa [addr_add] at this

set_option maxHeartbeats 2000000 in
theorem burst_any (N at_ : Int) (pat : Nat) (A : Option Addr) (n c : Nat) (bs : List UInt8) (w : World) (hn : n = bs.length) (hm : n ≤ maxLen) (hA : Byt w.heap.size w A bs) (hp : pat < 2 ^ 32) :
    Calls Tryd.prog 18 #[.agg #[.int .i64 N, .slice A n c], .int .i64 at_, .int .u32 pat] w (Res w (burstS N bs at_ pat)) := by
  have hck := fun (w1 : World) (h : Below w.heap.size w w1) => check_any N A n c bs w1 hn hm ((hA.below h).mono h.size)
  have hfl := fun (w1 : World) (h : Below w.heap.size w w1) (Z : Option Addr) (zc : Nat) (zs : List Int) (hz : zs.length ≤ 32) (hZ : Ints w1.heap.size w1 Z zs) => flip_any N A Z n c zs.length zc bs zs w1 hn hm ((hA.below h).mono h.size) rfl (by unfold maxLen; omega) hZ
  have b2 : Below w.heap.size w ((w.alloc (.cells #[.int .i64 N, .slice A n c] 32)).alloc (.cells #[.int .i64 0, .slice none 0 0] 32)) := ((Below.refl _ _).alloc (Nat.le_refl _) _).alloc (by simp) _
  have B2 := Lib.hid b2; have HF := Lib.hid hfl; clear b2 hfl hA hn
  unfold maxLen at hm
  unfold burstS
  by_cases g1 : goodB N bs = true
  · rw [chk_yes g1] at hck
    have HC := Lib.hid hck; clear hck
    rw [if_pos g1]
    have hg1 := (good_iff N bs).1 g1
    have hN0 := hg1.1; have hN1 := hg1.2.1; clear hg1
    by_cases hat : 0 ≤ at_ ∧ at_ ≤ N
    · rw [if_pos hat]
      obtain ⟨ha0, ha1⟩ := hat
      obtain ⟨a, rfl⟩ := Int.eq_ofNat_of_zero_le ha0
      obtain ⟨M, rfl⟩ := Int.eq_ofNat_of_zero_le hN0
      have hd1 : decide ((a : Int) < 0) = false := by simp
      have hd2 : decide ((M : Int) < (a : Int)) = false := by simp; omega
      obtain ⟨K, hK⟩ : ∃ K : Nat, K = min 32 ((M : Int) - (a : Int)).toNat := ⟨_, rfl⟩
      rw [← hK, Int.toNat_natCast]
      have hK32 : K ≤ 32 := by omega
      have hmin : min (32 : Int) ((M : Int) - (a : Int)) = (K : Int) := by omega
      have HK := Lib.hid hK; clear hK
      obtain ⟨i0, hi, hz0, hz1, hz2⟩ := info_parts Tryd.info3
      obtain ⟨R, hR⟩ : ∃ R, R = flipS (M : Int) bs (places a pat K) := ⟨_, rfl⟩
      rw [← hR]
      have HR := Lib.hid hR; clear hR
      go_enter Tryd.func18, Tryd.ntmps18
      go_wp2_with fail
      refine (HC.out _ B2.out).mono ?_
      rintro e w1 ⟨rfl, hB1⟩
      obtain ⟨k1, k2, hs1, hBw1⟩ := boxes2 hB1
      obtain ⟨c1, c2, f1, f2⟩ := k1.two
      have hlt1 : w.heap.size + 1 < w1.heap.size := by omega
      have hK2 : (32 ≤ (M : Int) - (a : Int) ∧ K = 32) ∨ ((M : Int) - (a : Int) < 32 ∧ (K : Int) = (M : Int) - (a : Int)) := by omega
      clear hmin
      go_wp2
      all_goals
        rename_i hcase
        have hKv : (K : Int) = (if (M : Int) - (a : Int) < 32 then (M : Int) - (a : Int) else 32) := by split <;> omega
        go_loopw [8, 28] (fun zv i wr => ∃ k : Nat, k ≤ K ∧ i = .int .i64 k ∧ wr.ownsRow w1.heap.size 3 1 zv (places a pat k).length ((places a pat k).map (Value.int .i64)) ∧ Blk wr w.heap.size 32 #[.int .i64 M, .slice A n c] ∧ Blk wr (w.heap.size + 1) 32 #[.int .i64 0, .slice none 0 0] ∧ Below w.heap.size w wr ∧ w1.heap.size ≤ wr.heap.size)
          (fun _ i _ => K - (intOf i).toNat)
        case atStart => exact ⟨0, by omega, rfl, World.ownsRow_nil _ _ _ _, k1, k2, hBw1, Nat.le_refl _⟩
        case round =>
          clear k1 k2 c1 c2 f1 f2
          obtain ⟨k, hk, rfl, hrow, q1, q2, hBr, hsr⟩ := hrel
          have hpl := places_length a pat k
          by_cases hlt : k < K
          · have hbt := bit_test32 pat k hp
            have hps := places_succ a pat k
            have hj : k < 32 := by omega
            by_cases hb : pat.testBit k = true
            · rw [hb] at hbt
              rw [if_pos hb] at hps
              have HPS := Lib.hid hps
              clear hps hb
              go_wp2_with (at_builtin; refine wpList_append_own _ rfl _ _ 52 rfl w1.heap.size 3 i0 (.int .i64 0) 1 8 Tryd.underlying52 hi hz0 hz1 hz2 rfl (by decide) u8 _ _ rfl (hrow.alloc _) ⟨wr.heap.size, 0, none⟩ 1 1 [.int .i64 ((a : Int) + k)] rfl rfl (cell_one_new _ _ _) (by simp [Value.oneCell']) (by unfold maxLen; omega) (by omega) (by simp; omega) ?_; intro v' w2 hown' hgrow _; have hq1 := own_grown_low hrow hgrow w.heap.size (by omega) q1.lt; have hq2 := own_grown_low hrow hgrow (w.heap.size + 1) (by omega) q2.lt; have hgs := hgrow.size)
              go_roundw
              case rel =>
                refine ⟨k + 1, by omega, by go_num, ?_, hq1.trans q1, hq2.trans q2, own_below hrow hgrow hBr (by omega) hBr.size, by simp at hgs; omega⟩
                rw [HPS.out, List.map_append, List.length_append]
                simpa using hown'
              case measure => simp [intOf]; omega
            · rw [Bool.not_eq_true] at hb
              rw [hb] at hbt
              rw [hb] at hps
              simp only [Bool.false_eq_true, if_false, List.append_nil] at hps
              have HPS := Lib.hid hps
              clear hps hb
              go_wp2
              go_roundw
              case rel => exact ⟨k + 1, by omega, by go_num, by rw [HPS.out]; exact hrow, q1, q2, hBr, hsr⟩
              case measure => simp [intOf]; omega
          · obtain rfl : k = K := by omega
            obtain ⟨c1, c2, f1, f2⟩ := q1.two
            obtain ⟨ZA, zc, rfl, hZA⟩ := ints_of_own hrow
            have hflp := HF.out wr hBr ZA zc _ (by omega) hZA
            rw [← HR.out] at hflp
            have HFL := Lib.hid hflp; clear hflp hZA
            go_wp2_with fail
            refine HFL.out.mono ?_
            rintro e w3 ⟨A3, n3, c5, bs3, rfl, hn3, his3, hl3, hA3, hB3, hF3⟩
            have HN3 := Lib.hid hn3; clear hn3
            have q3 := q2.below hB3 q2.lt
            obtain ⟨d1, d2, g1', g2'⟩ := q3.two
            have hlt3 := q3.lt
            go_wp2
            exact bodyPost_ret (v := .tuple #[.agg #[.int .i64 R.2.length, .slice A3 n3 c5], .int .i64 R.1]) (by simp [results, Tryd.results18, go_sem, d1, d2]) rfl
              (res_stored HN3.out his3 hl3 hA3 hBr hB3 hF3 (by omega) (by omega))
    · rw [if_neg hat]
      by_cases ha0 : at_ < 0
      · have hd1 : decide (at_ < 0) = true := by simpa using ha0
        clear hat
        go_enter Tryd.func18, Tryd.ntmps18
        go_wp2_with fail
        refine (HC.out _ B2.out).mono ?_
        rintro e w1 ⟨rfl, hB1⟩
        obtain ⟨k1, k2, hs1, hBw1⟩ := boxes2 hB1
        obtain ⟨c1, c2, f1, f2⟩ := k1.two
        obtain ⟨c3, c4, f3, f4⟩ := k2.two
        have hlt1 : w.heap.size + 1 < w1.heap.size := by omega
        go_wp2
        exact bodyPost_ret (v := .tuple #[.agg #[.int .i64 0, .slice none 0 0], .int .i64 2]) (by simp [results, Tryd.results18, go_sem, c3, c4]) rfl
          (res_err 2 ((hBw1.setCell (p := ⟨w.heap.size + 1, 0, none⟩) (by simp) _).setCell (p := ⟨w.heap.size + 1, 1, none⟩) (by simp) _))
      · have hd1 : decide (at_ < 0) = false := by simpa using ha0
        have hd2 : decide (N < at_) = true := by simp; omega
        clear hat
        go_enter Tryd.func18, Tryd.ntmps18
        go_wp2_with fail
        refine (HC.out _ B2.out).mono ?_
        rintro e w1 ⟨rfl, hB1⟩
        obtain ⟨k1, k2, hs1, hBw1⟩ := boxes2 hB1
        obtain ⟨c1, c2, f1, f2⟩ := k1.two
        obtain ⟨c3, c4, f3, f4⟩ := k2.two
        have hlt1 : w.heap.size + 1 < w1.heap.size := by omega
        go_wp2
        exact bodyPost_ret (v := .tuple #[.agg #[.int .i64 0, .slice none 0 0], .int .i64 2]) (by simp [results, Tryd.results18, go_sem, c3, c4]) rfl
          (res_err 2 ((hBw1.setCell (p := ⟨w.heap.size + 1, 0, none⟩) (by simp) _).setCell (p := ⟨w.heap.size + 1, 1, none⟩) (by simp) _))
  · rw [if_neg g1]
    rw [chk_no (by simpa using g1)] at hck
    have HC := Lib.hid hck; clear hck g1
    go_enter Tryd.func18, Tryd.ntmps18
    go_wp2_with fail
    refine (HC.out _ B2.out).mono ?_
    rintro e w1 ⟨rfl, hB1⟩
    obtain ⟨k1, k2, hs1, hBw1⟩ := boxes2 hB1
    obtain ⟨c1, c2, f1, f2⟩ := k1.two
    obtain ⟨c3, c4, f3, f4⟩ := k2.two
    have hlt1 : w.heap.size + 1 < w1.heap.size := by omega
    go_wp2
    exact bodyPost_ret (v := .tuple #[.agg #[.int .i64 0, .slice none 0 0], .int .i64 10]) (by simp [results, Tryd.results18, go_sem, c3, c4]) rfl
      (res_err 10 ((hBw1.setCell (p := ⟨w.heap.size + 1, 0, none⟩) (by simp) _).setCell (p := ⟨w.heap.size + 1, 1, none⟩) (by simp) _))
end Go.Proofs.YtlmlbpnjkkfiaaaDoor
