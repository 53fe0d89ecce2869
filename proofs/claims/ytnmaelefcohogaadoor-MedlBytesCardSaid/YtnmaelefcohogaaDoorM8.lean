/-
  The reader of package medl takes numbers and sets of truths. Condition: that there are bytes enough. (Printed by tools/gen07m8.py.)
-/
import Derived.Test.YtnmaelefcohogaaDoorM7
import Derived.Laws.OwnMore
namespace Go.Proofs.YtnmaelefcohogaaDoor
open Go.RowKit

/-- The reader at g stands at place j of some bytes. -/
def Rd (g b off n c j : Nat) (W : World) : Prop := Blk W g 74 #[.slice (some ⟨b, off + j, none⟩) (n - j) (c - j)]
/-- The truths of a set. -/
def bitsN (v n : Nat) : List Bool := (List.range n).map fun i => v.testBit i
/-- The numbers of bytes. -/
def numsB (l : List UInt8) : List Int := l.map fun x => (x.toNat : Int)
theorem one_num (bs : List UInt8) (j : Nat) (h : j < bs.length) : numB ((bs.drop j).take 1) = (bs[j]?.getD 0).toNat := by
  have e := take_more bs j 0 (by omega)
  simp only [Nat.zero_add, List.take_zero, List.nil_append, Nat.add_zero] at e
  rw [e]
  simp [numB]
theorem bitsN_length (v n : Nat) : (bitsN v n).length = n := by simp [bitsN]
theorem i64_and_one (a : Nat) (ha : a < 2 ^ 62) : bits .and .i64 (a : Int) 1 = ((a % 2 : Nat) : Int) := by
  show IntKind.i64.wrap ((BitVec.ofInt 64 (a : Int) &&& BitVec.ofInt 64 ((1 : Nat) : Int)).toNat : Int) = _
  rw [BitVec.toNat_and, ofInt_i64 a ha, ofInt_i64 1 (by decide), nat_mask1]
  exact IntWalk.i64_in _ (by omega)
theorem shift_cap (v k : Nat) (hv : v < 2 ^ 8) : v / 2 ^ (min k 64) = v / 2 ^ k := by
  rcases Nat.lt_or_ge k 64 with h | h
  · rw [Nat.min_eq_left (by omega)]
  · rw [Nat.min_eq_right (by omega), Nat.div_eq_of_lt (by omega), Nat.div_eq_of_lt]
    exact Nat.lt_of_lt_of_le hv (Nat.pow_le_pow_right (by decide) (by omega))
theorem set_bit (v k : Nat) (hv : v < 2 ^ 8) : (bits .and .i64 ((v : Int) / 2 ^ (min k 64)) 1 == 1) = v.testBit k := by
  have e : (v : Int) / 2 ^ (min k 64) = ((v / 2 ^ k : Nat) : Int) := by rw [← shift_cap v k hv]; simp
  have hle : v / 2 ^ k ≤ v := Nat.div_le_self _ _
  rw [e, i64_and_one _ (by omega), Nat.testBit_eq_decide_div_mod_eq]
  have h := Nat.mod_two_eq_zero_or_one (v / 2 ^ k)
  rcases h with h | h <;> rw [h] <;> decide
theorem Byt.grown {n₀ g b off : Nat} {W W' : World} {bs : List UInt8} (h : Byt n₀ W (some ⟨b, off, none⟩) bs) (hg : W.grownBy W' (some g)) (hne : b ≠ g) : Byt n₀ W' (some ⟨b, off, none⟩) bs := fun hn => by
  obtain ⟨b1, off1, e, hlt, hc⟩ := h hn
  injection e with e
  injection e with e1 e2 _
  subst e1; subst e2
  exact ⟨b, off, rfl, hlt, fun j hj => hg.cell (hc j hj) (some_ne hne)⟩
theorem cells_eq {cs : Array Value} {l : List Value} (h1 : cs.size = l.length) (h2 : ∀ i, i < l.length → cs[i]? = l[i]?) : cs = l.toArray := by
  apply Array.ext
  · simpa using h1
  · intro i hi hj
    have := h2 i (by omega)
    rw [Array.getElem?_eq_getElem hi, List.getElem?_eq_getElem (by omega)] at this
    simpa using this
set_option maxRecDepth 8000 in
set_option maxHeartbeats 2000000 in
theorem rnumbers_any (g b off n c j N : Nat) (bs : List UInt8) (w : World) (hn : n = bs.length) (hc : n ≤ c) (hcm : c ≤ maxLen) (hN : N ≤ 255) (hj : j + N < n) (hA : Byt w.heap.size w (some ⟨b, off, none⟩) bs) (hbg : b ≠ g) (hR : Rd g b off n c j w) :
    Calls Tryd.prog 44 #[.pointer (some ⟨g, 0, none⟩), .int .i64 (N : Int)] w fun e w' => ∃ G, e = .returned (.slice (some ⟨G, 0, none⟩) N N) ∧ w.heap.size ≤ G ∧ Blk w' G 3 ((numsB ((bs.drop j).take N)).map (Value.int .i64)).toArray ∧ Rd g b off n c (j + N) w' ∧ w.grownBy w' (some g) := by
  have hmk := run_make_I N (by omega)
  have lg := Blk.lt hR
  have ko := Blk.new w 3 (List.replicate N (Value.int .i64 0 : Value)).toArray
  have hRu : Rd g b off n c j (w.alloc (.cells (List.replicate N (Value.int .i64 0 : Value)).toArray 3)) := Blk.alloc hR _
  have hgu := World.grownBy_alloc w (.cells (List.replicate N (Value.int .i64 0 : Value)).toArray 3) (some g)
  have hsz : (List.replicate N (Value.int .i64 0 : Value)).toArray.size = N := by simp
  have hwG : w.heap.size < (w.alloc (.cells (List.replicate N (Value.int .i64 0 : Value)).toArray 3)).heap.size := by simp
  generalize (List.replicate N (Value.int .i64 0 : Value)).toArray = cs0 at *
  have HA := Lib.hid hA; have HNN := Lib.hid hn; clear hA hn
  go_enter Tryd.func44, Tryd.ntmps44
  go_wp2
  generalize w.alloc (.cells cs0 3) = u at *
  go_loopw [6, 11] (fun _ i wr => ∃ (k : Nat) (cs : Array Value), k ≤ N ∧ i = .int .i64 k ∧ Rd g b off n c (j + k) wr ∧ Blk wr w.heap.size 3 cs ∧ cs.size = N ∧ (∀ q, q < k → cs[q]? = some (.int .i64 ((bs[j + q]?.getD 0).toNat : Int))) ∧ w.grownBy wr (some g)) (fun _ i _ => N - (intOf i).toNat)
  case atStart => exact ⟨0, cs0, by omega, rfl, hRu, ko, hsz, fun q hq => by omega, hgu⟩
  case round =>
    obtain ⟨k, cs, hk, rfl, hRk, hbk, hcs, hq, hg⟩ := hrel
    have HQ := Lib.hid hq; clear hq
    by_cases hlt : k < N
    · have htake := rtake_any g b off n c (j + k) 1 bs wr HNN.out hc hcm (by omega) (by decide) ((HA.out.grown hg hbg).mono hg.size) hRk
      rw [one_num bs (j + k) (by have := HNN.out; omega)] at htake
      obtain ⟨x, hx⟩ : ∃ x, x = (bs[j + k]?.getD 0).toNat := ⟨_, rfl⟩
      rw [← hx] at htake
      have HT := Lib.hid htake; have HX := Lib.hid hx; clear htake hx
      go_wp2_with (go_at_call 42; refine HT.out.mono ?_; rintro e w2 ⟨rfl, hR2, hg2, hs2⟩; have hb2 := hbk.grown hg2 (some_ne (by omega)); have lb2 := hb2.lt; have fb2 := hb2.frozen k; have cb2 : w2.cell? ⟨w.heap.size, k, none⟩ = some (cs[k]'(by omega)) := by rw [hb2.cell, Array.getElem?_eq_getElem])
      go_roundw
      case rel =>
        refine ⟨k + 1, cs.setIfInBounds k (.int .i64 (x : Int)), by omega, by go_num, ?_, hb2.set_ k _, by simpa using hcs, fun q hq => ?_, ?_⟩
        · exact Blk.far hR2 (by dsimp only; omega) _
        · rw [Array.getElem?_setIfInBounds]
          by_cases hqk : k = q
          · subst hqk; rw [if_pos rfl, if_pos (by omega), HX.out]
          · rw [if_neg hqk]; exact HQ.out q (by omega)
        · exact ⟨(hg.trans hg2).os, (hg.trans hg2).tape, (hg.trans hg2).output, by simpa using (hg.trans hg2).size, fun q hq hne => by
            rw [← (hg.trans hg2).block q hq hne]
            exact Below.heap_setCell w2 _ _ q (by dsimp only; omega)⟩
      case measure => simp [intOf]; omega
    · obtain rfl : k = N := by omega
      have hfin : cs = ((numsB ((bs.drop j).take k)).map (Value.int .i64)).toArray := by
        refine cells_eq (by rw [hcs]; simp [numsB]; have := HNN.out; omega) fun i hi => ?_
        have hik : i < k := by simp [numsB] at hi; omega
        rw [HQ.out i hik]
        have hi2 : j + i < bs.length := by have := HNN.out; omega
        simp [numsB, List.getElem?_take_of_lt hik, List.getElem?_drop, List.getElem?_eq_getElem hi2]
      rw [hfin] at hbk
      clear hfin
      go_wp2
      go_ret
      exact ⟨w.heap.size, rfl, Nat.le_refl _, hbk, hRk, hg⟩
set_option maxRecDepth 8000 in
set_option maxHeartbeats 2000000 in
theorem rtruths_any (g b off n c j N : Nat) (bs : List UInt8) (w : World) (hn : n = bs.length) (hc : n ≤ c) (hcm : c ≤ maxLen) (hN : N ≤ 255) (hj : j + 1 < n) (hA : Byt w.heap.size w (some ⟨b, off, none⟩) bs) (hR : Rd g b off n c j w) :
    Calls Tryd.prog 43 #[.pointer (some ⟨g, 0, none⟩), .int .i64 (N : Int)] w fun e w' => ∃ G, e = .returned (.slice (some ⟨G, 0, none⟩) N N) ∧ w.heap.size ≤ G ∧ Blk w' G 4 ((bitsN (bs[j]?.getD 0).toNat N).map Value.bool).toArray ∧ Rd g b off n c (j + 1) w' ∧ w.grownBy w' (some g) := by
  have hmk := run_make_B N (by omega)
  have htake := rtake_any g b off n c j 1 bs w hn hc hcm (by omega) (by decide) hA hR
  rw [one_num bs j (by omega)] at htake
  have lg := Blk.lt hR
  have hv := (bs[j]?.getD 0).toNat_lt
  generalize (bs[j]?.getD 0).toNat = v at *
  have HT := Lib.hid htake; clear htake hA hn hc hcm hj hR
  have hsz : (List.replicate N (Value.bool false)).toArray.size = N := by simp
  generalize (List.replicate N (Value.bool false)).toArray = cs0 at *
  go_enter Tryd.func43, Tryd.ntmps43
  go_wp2_with (go_at_call 42; refine HT.out.mono ?_; rintro e w1 ⟨rfl, hR1, hg1, hs1⟩)
  have ko := Blk.new w1 4 cs0
  rw [hs1] at ko
  have hRu := Blk.alloc hR1 (.cells cs0 4)
  have hgu := hg1.trans (World.grownBy_alloc w1 (.cells cs0 4) (some g))
  have hwG : w.heap.size < (w1.alloc (.cells cs0 4)).heap.size := by simp; omega
  generalize w1.alloc (.cells cs0 4) = u at *
  clear hg1 hR1 hs1 hmk
  go_loopw [7, 14] (fun _ i wr => ∃ (k : Nat) (cs : Array Value), k ≤ N ∧ i = .int .i64 k ∧ Rd g b off n c (j + 1) wr ∧ Blk wr w.heap.size 4 cs ∧ cs.size = N ∧ (∀ q, q < k → cs[q]? = some (.bool (v.testBit q))) ∧ w.grownBy wr (some g)) (fun _ i _ => N - (intOf i).toNat)
  case atStart => exact ⟨0, cs0, by omega, rfl, hRu, ko, hsz, fun q hq => by omega, hgu⟩
  case round =>
    obtain ⟨k, cs, hk, rfl, hRk, hbk, hcs, hq, hg⟩ := hrel
    have HQ := Lib.hid hq; clear hq
    by_cases hlt : k < N
    · have hbit := set_bit v k hv
      obtain ⟨x, hx⟩ : ∃ x, x = v.testBit k := ⟨_, rfl⟩
      rw [← hx] at hbit
      have HX := Lib.hid hx; clear hx
      have lb2 := hbk.lt; have fb2 := hbk.frozen k
      have cb2 : wr.cell? ⟨w.heap.size, k, none⟩ = some (cs[k]'(by omega)) := by rw [hbk.cell, Array.getElem?_eq_getElem]
      go_wp2
      go_roundw
      case rel =>
        refine ⟨k + 1, cs.setIfInBounds k (.bool x), by omega, by go_num, ?_, hbk.set_ k _, by simpa using hcs, fun q hq => ?_, ?_⟩
        · exact Blk.far hRk (by dsimp only; omega) _
        · rw [Array.getElem?_setIfInBounds]
          by_cases hqk : k = q
          · subst hqk; rw [if_pos rfl, if_pos (by omega), HX.out]
          · rw [if_neg hqk]; exact HQ.out q (by omega)
        · exact ⟨hg.os, hg.tape, hg.output, by simpa using hg.size, fun q hq hne => by
            rw [← hg.block q hq hne]
            exact Below.heap_setCell wr _ _ q (by dsimp only; omega)⟩
      case measure => simp [intOf]; omega
    · obtain rfl : k = N := by omega
      have hfin : cs = ((bitsN v k).map Value.bool).toArray := by
        refine cells_eq (by rw [hcs]; simp [bitsN]) fun i hi => ?_
        have hik : i < k := by simpa [bitsN] using hi
        rw [HQ.out i hik]
        simp [bitsN, hik]
      rw [hfin] at hbk
      clear hfin
      go_wp2
      go_ret
      exact ⟨w.heap.size, rfl, Nat.le_refl _, hbk, hRk, hg⟩
end Go.Proofs.YtnmaelefcohogaaDoor
