/-
  behind of package crc: the remainder behind bits that may be. Conditions: a remainder of 24 bits, bits that may be and can be read, and that the table holds what the program's text lays.
  Sum of package crc answers as the document says, for all lists of bits. Conditions: that the lists and the bytes can be read, and that the table holds what the program's text lays.
  The document itself: the remainder behind bits, and Sum. No condition but that the lists and the bytes can be read.
-/
import Derived.Test.YtnmaelefcohogaaDoorC1
namespace Go.Proofs.YtnmaelefcohogaaDoor
open Go.RowKit

theorem get_four {N : Int} {bs : List UInt8} (hg : goodB N bs = true) (k w : Nat) (hw : w ≤ 64) (h : ((k + w : Nat) : Int) ≤ N) : getS N bs (k : Nat) (w : Nat) = (0, numOf (((listOf N bs).drop k).take w)) := by
  unfold getS
  rw [if_pos hg, if_pos (by omega)]
  simp
theorem take_one (l : List Bool) (j : Nat) (h : j < l.length) : (l.drop j).take 1 = [l[j]?.getD false] := by
  rw [List.drop_eq_getElem_cons h, List.getElem?_eq_getElem h]; rfl
theorem rem_more (r : Nat) (l : List Bool) (k w : Nat) : rem r (l.take (k + w)) = rem (rem r (l.take k)) ((l.drop k).take w) := by
  unfold rem
  rw [← crcOver_append, List.take_add]

set_option maxHeartbeats 1000000 in
theorem behind_any (s : Nat) (N : Int) (A : Option Addr) (n c : Nat) (bs : List UInt8) (w : World) (hs : s < 2 ^ 24) (hgood : goodB N bs = true) (hn : n = bs.length) (hm : n ≤ maxLen) (hA : Byt w.heap.size w A bs) (hT : Tab w) :
    Calls Tryd.prog 57 #[.int .u32 s, .agg #[.int .i64 N, .slice A n c]] w fun e w' => e = .returned (.int .u32 (rem s (listOf N bs) : Nat)) ∧ Below w.heap.size w w' := by
  obtain ⟨hg0, hg1, hg2, hg3⟩ := (good_iff N bs).1 hgood
  clear hg3 hg2
  obtain ⟨M, rfl⟩ := Int.eq_ofNat_of_zero_le hg0
  have hget := fun (w1 : World) (h : Below w.heap.size w w1) (k v : Nat) (hv : v ≤ 64) (hk : k + v ≤ M) => by
    have := get_any (M : Int) (k : Nat) (v : Nat) A n c bs w1 hn hm ((hA.below h).mono h.size)
    rw [get_four hgood k v hv (by omega)] at this
    exact this
  have hll : (listOf (M : Int) bs).length = M := by rw [listOf_length]; omega
  generalize listOf (M : Int) bs = l at *
  have HG := Lib.hid hget; have HT := Lib.hid hT; have HLL := Lib.hid hll
  clear hget hA hT hn hll hgood
  go_enter Tryd.func57, Tryd.ntmps57
  go_wp2
  have k1 : Blk (w.alloc (.cells #[.int .i64 M, .slice A n c] 68)) w.heap.size 68 #[.int .i64 M, .slice A n c] := Blk.new w _ _
  have b1 : Below w.heap.size w (w.alloc (.cells #[.int .i64 M, .slice A n c] 68)) := (Below.refl _ _).alloc (Nat.le_refl _) _
  go_loopw [0, 6] (fun sv i wr => ∃ k : Nat, k % 4 = 0 ∧ k ≤ M ∧ i = .int .i64 (k : Nat) ∧ sv = .int .u32 (rem s (l.take k) : Nat) ∧ Blk wr w.heap.size 68 #[.int .i64 M, .slice A n c] ∧ Below w.heap.size w wr)
    (fun _ i _ => M - (intOf i).toNat)
  case atStart => exact ⟨0, rfl, by omega, rfl, by simp [crcOver_nil], k1, b1⟩
  case round =>
    obtain ⟨k, hk4, hk, rfl, rfl, q1, hBr⟩ := hrel
    obtain ⟨c1, c2, f1, f2⟩ := q1.two
    have hx := rem_lt (l.take k) s hs
    clear k1 b1
    by_cases hlt : k + 4 ≤ M
    · have hd : decide (((k : Nat) : Int) < (M : Int) - (M : Int) % 4) = true := by simp; omega
      have hg := HG.out wr hBr k 4 (by omega) hlt
      have hmore := rem_more s l k 4
      have hf : numOf ((l.drop k).take 4) < 16 := by
        have h1 := numOf_lt ((l.drop k).take 4)
        have h2 : ((l.drop k).take 4).length = 4 := by have := HLL.out; simp; omega
        rw [h2] at h1; omega
      have hnb : numBits (numOf ((l.drop k).take 4)) 4 = (l.drop k).take 4 := by
        have h1 := numBits_numOf ((l.drop k).take 4)
        have h2 : ((l.drop k).take 4).length = 4 := by have := HLL.out; simp; omega
        rw [h2] at h1; exact h1
      rw [← hnb] at hmore
      clear hnb
      generalize rem s (l.take k) = x at *
      generalize numOf ((l.drop k).take 4) = f at *
      have hfour := fun (w1 : World) (h : Below wr.heap.size wr w1) => behindFour_any x f w1 hx hf ((HT.out.below hBr (.inl (Nat.le_refl _))).below h (.inl (Nat.le_refl _)))
      have HF := Lib.hid hfour; have HM := Lib.hid hmore; have HGG := Lib.hid hg
      clear hfour hmore hg
      go_wp2_with (first
        | (go_at_call 72; refine HGG.out.mono ?_; rintro e w3 ⟨rfl, hb3⟩; dsimp only)
        | (go_at_call 73; refine (HF.out _ hb3).mono ?_; rintro e w4 ⟨rfl, rfl⟩))
      go_roundw
      case rel => exact ⟨k + 4, by omega, by omega, by go_num, by rw [HM.out], q1.below hb3 q1.lt, hBr.trans (hb3.mono hBr.size)⟩
      case measure => simp [intOf]; omega
    · have hd : decide (((k : Nat) : Int) < (M : Int) - (M : Int) % 4) = false := by simp; omega
      go_wp2
      go_loopw [0, 9] (fun sv i wr => ∃ j : Nat, j ≤ M ∧ i = .int .i64 (j : Nat) ∧ sv = .int .u32 (rem s (l.take j) : Nat) ∧ Blk wr w.heap.size 68 #[.int .i64 M, .slice A n c] ∧ Below w.heap.size w wr)
        (fun _ i _ => M - (intOf i).toNat)
      case atStart => exact ⟨k, by omega, by congr 1; omega, rfl, q1, hBr⟩
      case round =>
        clear c1 c2 f1 f2 q1 hBr hx hd
        obtain ⟨j, hj, rfl, rfl, q1, hBr⟩ := hrel
        obtain ⟨c1, c2, f1, f2⟩ := q1.two
        have hx := rem_lt (l.take j) s hs
        by_cases hlt : j < M
        · have hg := HG.out wr hBr j 1 (by omega) hlt
          have hmore := rem_more s l j 1
          have h2 := take_one l j (by have := HLL.out; omega)
          rw [h2] at hg hmore
          generalize l[j]?.getD false = b at *
          have h3 : numOf [b] = b.toNat := by cases b <;> rfl
          have h4 : rem (rem s (l.take j)) [b] = crc1 6122955 (rem s (l.take j)) b := rfl
          rw [h3] at hg
          rw [h4] at hmore
          clear h2 h3 h4
          generalize rem s (l.take j) = x at *
          have hfour := fun (w1 : World) => behindBit_any x b w1 hx
          have hbn := bool_nat b
          have HF := Lib.hid hfour; have HM := Lib.hid hmore; have HGG := Lib.hid hg
          clear hfour hmore hg
          generalize b.toNat = bn at *
          generalize crc1 6122955 x b = y at *
          go_wp2_with (first
            | (go_at_call 72; refine HGG.out.mono ?_; rintro e w3 ⟨rfl, hb3⟩; dsimp only)
            | (go_at_call 74; refine (HF.out _).mono ?_; rintro e w4 ⟨rfl, rfl⟩))
          go_roundw
          case rel => exact ⟨j + 1, by omega, by go_num, by rw [HM.out], q1.below hb3 q1.lt, hBr.trans (hb3.mono hBr.size)⟩
          case measure => simp [intOf]; omega
        · have hfin : l.take j = l := List.take_of_length_le (by have := HLL.out; omega)
          rw [hfin] at *
          go_wp2
          go_ret
          exact ⟨rfl, hBr⟩
end Go.Proofs.YtnmaelefcohogaaDoor

namespace Go.Proofs.YtnmaelefcohogaaDoor
open Go.RowKit

/-- Sum, by the document. -/
def sumS (xs : List BV) : Int × Nat := if allGood xs = true then (0, rem 0 (cat xs)) else (10, 0)
/-- What it answers. -/
def Sm (w : World) (r : Int × Nat) (e : Ending) (w' : World) : Prop := e = .returned (.tuple #[.int .u32 r.2, .int .i64 r.1]) ∧ Below w.heap.size w w'
theorem sumS_lt (xs : List BV) : (sumS xs).2 < 2 ^ 24 := by
  unfold sumS
  split
  · exact rem_lt _ _ (by decide)
  · simp
theorem good_at {xs : List BV} (h : allGood xs = true) {k : Nat} {x : BV} (hx : xs[k]? = some x) : goodB x.N x.bs = true := by
  unfold allGood at h; rw [List.all_eq_true] at h; exact h x (List.mem_of_getElem? hx)
theorem lst_good {N : Int} {bs : List UInt8} (h : goodB N bs = true) : lst N bs = listOf N bs := by simp [lst, h]

set_option maxHeartbeats 1000000 in
theorem sum_any (X : Option Addr) (xn xc : Nat) (xs : List BV) (w : World) (hxn : xn = xs.length) (hxm : xn ≤ maxLen) (hX : BVs w.heap.size w X xs) (hok : ∀ x ∈ xs, BVok w.heap.size w x) (hT : Tab w) :
    Calls Tryd.prog 37 #[.slice X xn xc] w (Sm w (sumS xs)) := by
  unfold maxLen at hxm
  have HXN := Lib.hid hxn; have HX := Lib.hid hX; have HOK := Lib.hid hok; have HT := Lib.hid hT; clear hxn hX hok hT
  obtain ⟨R, hR⟩ : ∃ R, R = sumS xs := ⟨_, rfl⟩
  rw [← hR]
  have HR := Lib.hid hR; clear hR
  go_enter Tryd.func37, Tryd.ntmps37
  go_wp2
  go_loopw [11] (fun i wr => ∃ k : Nat, k ≤ xn ∧ i = .int .i64 k ∧ allGood (xs.take k) = true ∧ Below w.heap.size w wr)
    (fun i _ => xn - (intOf i).toNat)
  case atStart => exact ⟨0, by omega, rfl, rfl, Below.refl _ _⟩
  case round =>
    obtain ⟨k, hk, rfl, hall, hBr⟩ := hrel
    have HALL := Lib.hid hall; clear hall
    by_cases hlt : k < xn
    · obtain ⟨x, hx⟩ : ∃ x, xs[k]? = some x := ⟨_, List.getElem?_eq_getElem (by have := HXN.out; omega)⟩
      obtain ⟨b, off, rfl, hbl, hc0, hc1⟩ := HX.out.at_ hBr hx
      have hgs := good_snoc (xs.take k) x
      rw [← take_snoc_bv xs k x hx] at hgs
      have hgn := good_not xs k x hx
      have hxo := HOK.out x (List.mem_of_getElem? hx)
      have hBa := fun o => hBr.alloc hBr.size o
      have hck := fun (o : Obj) => check_any x.N x.A x.n x.c x.bs (wr.alloc o) hxo.1 hxo.2.1 ((hxo.2.2.below (hBa o)).mono (hBa o).size)
      by_cases hgx : goodB x.N x.bs = true
      · rw [chk_yes hgx] at hck
        rw [hgx, HALL.out] at hgs
        have HCK := Lib.hid hck; have HGS := Lib.hid hgs
        clear hck hgs hgn hgx hx hxo hBa
        go_wp2_with (go_at_call 56; refine (HCK.out _).mono ?_; rintro e w2 ⟨rfl, hB2⟩)
        go_roundw
        case rel => exact ⟨k + 1, by omega, by go_num, HGS.out, (hBr.alloc hBr.size _).trans (hB2.mono (by have := hBr.size; simp; omega))⟩
        case measure => simp [intOf]; omega
      · rw [chk_no (by simpa using hgx)] at hck
        have hr := hgn (by simpa using hgx)
        have HCK := Lib.hid hck; have HG := Lib.hid hr
        clear hck hgs hgn hgx hx hr hxo hBa
        go_wp2_with (go_at_call 56; refine (HCK.out _).mono ?_; rintro e w2 ⟨rfl, hB2⟩)
        go_ret2
        rw [HR.out, show sumS xs = (10, 0) by unfold sumS; rw [HG.out]; rfl]
        exact ⟨rfl, (hBr.alloc hBr.size _).trans (hB2.mono (by have := hBr.size; simp; omega))⟩
    · have hgood := HALL.out
      rw [List.take_of_length_le (by have := HXN.out; omega)] at hgood
      have HGD := Lib.hid hgood; clear hgood
      go_wp2
      go_loopw [6, 21] (fun sv i wr2 => ∃ k : Nat, k ≤ xn ∧ i = .int .i64 k ∧ sv = .int .u32 (rem 0 (cat (xs.take k)) : Nat) ∧ Below w.heap.size w wr2)
        (fun _ i _ => xn - (intOf i).toNat)
      case atStart => exact ⟨0, by omega, rfl, rfl, hBr⟩
      case round =>
        clear hBr HALL hlt hk
        obtain ⟨k2, hk, rfl, rfl, hBr⟩ := hrel
        by_cases hlt : k2 < xn
        · obtain ⟨x, hx⟩ : ∃ x, xs[k2]? = some x := ⟨_, List.getElem?_eq_getElem (by have := HXN.out; omega)⟩
          obtain ⟨b, off, rfl, hbl, hc0, hc1⟩ := HX.out.at_ hBr hx
          have hgx := good_at HGD.out hx
          have hcs := cat_snoc (xs.take k2) x
          rw [← take_snoc_bv xs k2 x hx, lst_good hgx] at hcs
          have hxo := HOK.out x (List.mem_of_getElem? hx)
          have hBa := fun o => hBr.alloc hBr.size o
          have hrl := rem_lt (cat (xs.take k2)) 0 (by decide)
          have hmo : rem 0 (cat (xs.take (k2 + 1))) = rem (rem 0 (cat (xs.take k2))) (listOf x.N x.bs) := by rw [hcs]; exact crcOver_append _ _ _ _
          generalize rem 0 (cat (xs.take k2)) = s at *
          have hbe := fun (o : Obj) => behind_any s x.N x.A x.n x.c x.bs (wr.alloc o) hrl hgx hxo.1 hxo.2.1 ((hxo.2.2.below (hBa o)).mono (hBa o).size) (HT.out.below (hBa o) (.inl (Nat.le_refl _)))
          have HBE := Lib.hid hbe; have HMO := Lib.hid hmo
          clear hbe hmo hgx hcs hx hxo hBa
          generalize rem s (listOf x.N x.bs) = y at *
          go_wp2_with (go_at_call 57; refine (HBE.out _).mono ?_; rintro e w2 ⟨rfl, hB2⟩)
          go_roundw
          case rel => exact ⟨k2 + 1, by omega, by go_num, by rw [HMO.out], (hBr.alloc hBr.size _).trans (hB2.mono (by have := hBr.size; simp; omega))⟩
          case measure => simp [intOf]; omega
        · have htk : xs.take k2 = xs := List.take_of_length_le (by have := HXN.out; omega)
          rw [htk]
          go_wp2
          go_ret2
          rw [HR.out, show sumS xs = (0, rem 0 (cat xs)) by unfold sumS; rw [HGD.out]; rfl]
          exact ⟨rfl, hBr⟩
end Go.Proofs.YtnmaelefcohogaaDoor

namespace Go.Proofs.YtnmaelefcohogaaDoor
open Go.RowKit

theorem take_snoc_b (l : List Bool) (k : Nat) (h : k < l.length) : l.take (k + 1) = l.take k ++ [l[k]?.getD false] := by
  rw [List.take_add_one, List.getElem?_eq_getElem h]; rfl

theorem top_bit (x : Nat) (b : Bool) : (!(((x : Int) / 8388608 % 2 == 1) == b)) = (x.testBit 23 != b) := by
  have : (((x : Int) / 8388608) % 2 == 1) = x.testBit 23 := by
    rw [Nat.testBit_eq_decide_div_mod_eq, show ((x : Int) / 8388608 % 2) = ((x / 2 ^ 23 % 2 : Nat) : Int) by omega]
    generalize x / 2 ^ 23 % 2 = y
    rw [Bool.eq_iff_iff]; simp; omega
  rw [this]; rfl
theorem crc1_yes {x : Nat} {b : Bool} (h : (!(((x : Int) / 8388608 % 2 == 1) == b)) = true) : bits .xor .u32 ((x : Int) * 2 % 16777216) 6122955 = ((crc1 6122955 x b : Nat) : Int) := by
  rw [top_bit] at h
  unfold crc1
  rw [if_pos h, show ((x : Int) * 2 % 16777216) = ((2 * x % 2 ^ 24 : Nat) : Int) by omega, show (6122955 : Int) = ((6122955 : Nat) : Int) from rfl, u32_xor_nat _ _ (by omega) (by omega)]
theorem crc1_no {x : Nat} {b : Bool} (h : (!(((x : Int) / 8388608 % 2 == 1) == b)) = false) : ((x : Int) * 2 % 16777216) = ((crc1 6122955 x b : Nat) : Int) := by
  rw [top_bit] at h
  unfold crc1
  rw [if_neg (by simp [h])]
  omega

set_option maxHeartbeats 1000000 in
theorem over_any (r : Nat) (A : Option Addr) (n c : Nat) (l : List Bool) (w : World) (hr : r < 2 ^ 24) (hn : n = l.length) (hm : n ≤ maxLen) (hA : Bools w.heap.size w A l) :
    Calls Tryd.prog 62 #[.int .u32 r, .slice A n c] w fun e w' => e = .returned (.int .u32 (rem r l : Nat)) ∧ w = w' := by
  unfold maxLen at hm
  have HN := Lib.hid hn; have HA := Lib.hid hA; clear hn hA
  go_enter Tryd.func62, Tryd.ntmps62
  go_wp2
  go_loopw [0, 5] (fun sv i wr => ∃ k : Nat, k ≤ n ∧ i = .int .i64 k ∧ sv = .int .u32 (rem r (l.take k) : Nat) ∧ wr = w)
    (fun _ i _ => n - (intOf i).toNat)
  case atStart => exact ⟨0, by omega, rfl, by simp [crcOver_nil], rfl⟩
  case round =>
    obtain ⟨k, hk, rfl, rfl, rfl⟩ := hrel
    by_cases hlt : k < n
    · obtain ⟨b, off, rfl, hbl, hcell⟩ := HA.out.at_ (k := k) (by have := HN.out; omega)
      have hx := rem_lt (l.take k) r hr
      have hmore : rem r (l.take (k + 1)) = crc1 6122955 (rem r (l.take k)) (l[k]?.getD false) := by
        rw [take_snoc_b l k (by have := HN.out; omega)]; exact crcOver_append _ _ _ _
      generalize l[k]?.getD false = bk at *
      generalize rem r (l.take k) = x at *
      have HM := Lib.hid hmore; clear hmore
      go_wp2
      · rename_i h
        refine ⟨⟨k + 1, by omega, by go_num, by rw [HM.out, crc1_yes h], trivial⟩, by simp [intOf]; omega⟩
      · rename_i h
        refine ⟨⟨k + 1, by omega, by go_num, by rw [HM.out, crc1_no h], trivial⟩, by simp [intOf]; omega⟩
    · have hfin : l.take k = l := List.take_of_length_le (by have := HN.out; omega)
      rw [hfin]
      go_wp2
      go_ret
      exact ⟨rfl, rfl⟩

set_option maxHeartbeats 1000000 in
theorem rsum_any (X : Option Addr) (xn xc : Nat) (xs : List BV) (w : World) (hxn : xn = xs.length) (hxm : xn ≤ maxLen) (hX : BVs w.heap.size w X xs) (hok : ∀ x ∈ xs, BVok w.heap.size w x) :
    Calls Tryd.prog 41 #[.slice X xn xc] w (Sm w (sumS xs)) := by
  unfold maxLen at hxm
  have HXN := Lib.hid hxn; have HX := Lib.hid hX; have HOK := Lib.hid hok; clear hxn hX hok
  obtain ⟨R, hR⟩ : ∃ R, R = sumS xs := ⟨_, rfl⟩
  rw [← hR]
  have HR := Lib.hid hR; clear hR
  go_enter Tryd.func41, Tryd.ntmps41
  go_wp2
  go_loopw [4, 5] (fun sv i wr => ∃ k : Nat, k ≤ xn ∧ i = .int .i64 k ∧ sv = .int .u32 (rem 0 (cat (xs.take k)) : Nat) ∧ allGood (xs.take k) = true ∧ Below w.heap.size w wr)
    (fun _ i _ => xn - (intOf i).toNat)
  case atStart => exact ⟨0, by omega, rfl, rfl, rfl, Below.refl _ _⟩
  case round =>
    obtain ⟨k, hk, rfl, rfl, hall, hBr⟩ := hrel
    have HALL := Lib.hid hall; clear hall
    by_cases hlt : k < xn
    · obtain ⟨x, hx⟩ : ∃ x, xs[k]? = some x := ⟨_, List.getElem?_eq_getElem (by have := HXN.out; omega)⟩
      obtain ⟨b, off, rfl, hbl, hc0, hc1⟩ := HX.out.at_ hBr hx
      have hgs := good_snoc (xs.take k) x
      rw [← take_snoc_bv xs k x hx] at hgs
      have hgn := good_not xs k x hx
      have hxo := HOK.out x (List.mem_of_getElem? hx)
      have hck := rcheck_any x.N x.A x.n x.c x.bs wr hxo.1 hxo.2.1 ((hxo.2.2.below hBr).mono hBr.size)
      by_cases hgx : goodB x.N x.bs = true
      · rw [chk_yes hgx] at hck
        rw [hgx, HALL.out] at hgs
        have hcs := cat_snoc (xs.take k) x
        rw [← take_snoc_bv xs k x hx] at hcs
        have hli := fun (w1 : World) (h : Below wr.heap.size wr w1) => list_any x.N x.A x.n x.c x.bs w1 hxo.1 hxo.2.1 (((hxo.2.2.below hBr).below (h.mono hBr.size)).mono (Nat.le_trans hBr.size h.size))
        have hll := lst_length x.N x.bs
        have hrl := rem_lt (cat (xs.take k)) 0 (by decide)
        have hmo : rem 0 (cat (xs.take (k + 1))) = rem (rem 0 (cat (xs.take k))) (lst x.N x.bs) := by rw [hcs]; exact crcOver_append _ _ _ _
        generalize rem 0 (cat (xs.take k)) = s at *
        generalize lst x.N x.bs = lx at *
        have hcx := (hBr.cell (p := ⟨b, off + k * 2, none⟩) hbl)
        have HCK := Lib.hid hck; have HGS := Lib.hid hgs; have HLI := Lib.hid hli; have HMO := Lib.hid hmo
        clear hck hgs hgn hgx hxo hcs hli hmo hcx
        go_wp2_with (first
          | (go_at_call 61; refine HCK.out.mono ?_; rintro e w2 ⟨rfl, hB2⟩; obtain ⟨_, _, hbo, _, hc2, hc3⟩ := HX.out.at_ (hBr.trans (hB2.mono hBr.size)) hx; injection hbo with hbo; injection hbo with hb1 hb2; subst hb1; subst hb2; have hbl2 := Nat.lt_of_lt_of_le hbl (hBr.trans (hB2.mono hBr.size)).size)
          | (go_at_call 63; refine (HLI.out _ hB2).mono ?_; rintro e w3 ⟨lv, rfl, hown, hB3⟩; obtain ⟨VA, vc, rfl, hVA⟩ := bools_of_own hown)
          | (go_at_call 62; refine (over_any s VA lx.length vc lx w3 hrl rfl (by unfold maxLen; omega) hVA).mono ?_; rintro e w4 ⟨rfl, rfl⟩))
        go_roundw
        case rel => exact ⟨k + 1, by omega, by go_num, by rw [HMO.out], HGS.out, (hBr.trans (hB2.mono hBr.size)).trans (hB3.mono (Nat.le_trans hBr.size hB2.size))⟩
        case measure => simp [intOf]; omega
      · rw [chk_no (by simpa using hgx)] at hck
        have hr := hgn (by simpa using hgx)
        have HCK := Lib.hid hck; have HG := Lib.hid hr
        clear hck hgs hgn hgx hx hr hxo
        go_wp2_with (go_at_call 61; refine HCK.out.mono ?_; rintro e w2 ⟨rfl, hB2⟩)
        go_ret2
        rw [HR.out, show sumS xs = (10, 0) by unfold sumS; rw [HG.out]; rfl]
        exact ⟨rfl, hBr.trans (hB2.mono hBr.size)⟩
    · have hgood := HALL.out
      have htk : xs.take k = xs := List.take_of_length_le (by have := HXN.out; omega)
      rw [htk] at hgood ⊢
      have HGD := Lib.hid hgood; clear hgood
      go_wp2
      go_ret2
      rw [HR.out, show sumS xs = (0, rem 0 (cat xs)) by unfold sumS; rw [HGD.out]; rfl]
      exact ⟨rfl, hBr⟩
end Go.Proofs.YtnmaelefcohogaaDoor
