/-
  The document itself: the remainder behind bits, and Sum. No condition but that the lists and the bytes can be read.
-/
import Derived.Test.YtlmlbpnjkkfiaaaDoorC3
namespace Go.Proofs.YtlmlbpnjkkfiaaaDoor
open Go.RowKit

theorem take_snoc_b (l : List Bool) (k : Nat) (h : k < l.length) : l.take (k + 1) = l.take k ++ [l[k]?.getD false] := by
  rw [List.take_add_one, List.getElem?_eq_getElem h]; rfl

theorem top_bit (x : Nat) (b : Bool) : (!(((x : Int) / 8388608 % 2 == 1) == b)) = (x.testBit 23 != b) := by
  have : (((x : Int) / 8388608) % 2 == 1) = x.testBit 23 := by
    rw [Nat.testBit_eq_decide_div_mod_eq, show ((x : Int) / 8388608 % 2) = ((x / 2 ^ 23 % 2 : Nat) : Int) by omega]
    generalize x / 2 ^ 23 % 2 = y
    rw [Bool.eq_iff_iff]; simp; omega
  rw [this]; rfl
theorem crc1_yes {x : Nat} {b : Bool} (h : (!(((x : Int) / 8388608 % 2 == 1) == b)) = true) : bits .xor .u32 ((x : Int) * 2 % 16777216) 6122955 = ((crc1 6122955 x b : Nat) : Int) := by
  rw [top_bit] at h
  unfold crc1
  rw [if_pos h, show ((x : Int) * 2 % 16777216) = ((2 * x % 2 ^ 24 : Nat) : Int) by omega, show (6122955 : Int) = ((6122955 : Nat) : Int) from rfl, u32_xor_nat _ _ (by omega) (by omega)]
theorem crc1_no {x : Nat} {b : Bool} (h : (!(((x : Int) / 8388608 % 2 == 1) == b)) = false) : ((x : Int) * 2 % 16777216) = ((crc1 6122955 x b : Nat) : Int) := by
  rw [top_bit] at h
  unfold crc1
  rw [if_neg (by simp [h])]
  omega

set_option maxHeartbeats 1000000 in
theorem over_any (r : Nat) (A : Option Addr) (n c : Nat) (l : List Bool) (w : World) (hr : r < 2 ^ 24) (hn : n = l.length) (hm : n ≤ maxLen) (hA : Bools w.heap.size w A l) :
    Calls Tryd.prog 27 #[.int .u32 r, .slice A n c] w fun e w' => e = .returned (.int .u32 (rem r l : Nat)) ∧ w = w' := by
  unfold maxLen at hm
  have HN := Lib.hid hn; have HA := Lib.hid hA; clear hn hA
  go_enter Tryd.func27, Tryd.ntmps27
  go_wp2
  go_loopw [0, 5] (fun sv i wr => ∃ k : Nat, k ≤ n ∧ i = .int .i64 k ∧ sv = .int .u32 (rem r (l.take k) : Nat) ∧ wr = w)
    (fun _ i _ => n - (intOf i).toNat)
  case atStart => exact ⟨0, by omega, rfl, by simp [crcOver_nil], rfl⟩
  case round =>
    obtain ⟨k, hk, rfl, rfl, rfl⟩ := hrel
    by_cases hlt : k < n
    · obtain ⟨b, off, rfl, hbl, hcell⟩ := HA.out.at_ (k := k) (by have := HN.out; omega)
      have hx := rem_lt (l.take k) r hr
      have hmore : rem r (l.take (k + 1)) = crc1 6122955 (rem r (l.take k)) (l[k]?.getD false) := by
        rw [take_snoc_b l k (by have := HN.out; omega)]; exact crcOver_append _ _ _ _
      generalize l[k]?.getD false = bk at *
      generalize rem r (l.take k) = x at *
      have HM := Lib.hid hmore; clear hmore
      go_wp2
      · rename_i h
        refine ⟨⟨k + 1, by omega, by go_num, by rw [HM.out, crc1_yes h], trivial⟩, by simp [intOf]; omega⟩
      · rename_i h
        refine ⟨⟨k + 1, by omega, by go_num, by rw [HM.out, crc1_no h], trivial⟩, by simp [intOf]; omega⟩
    · have hfin : l.take k = l := List.take_of_length_le (by have := HN.out; omega)
      rw [hfin]
      go_wp2
      go_ret
      exact ⟨rfl, rfl⟩

set_option maxHeartbeats 1000000 in
theorem rsum_any (X : Option Addr) (xn xc : Nat) (xs : List BV) (w : World) (hxn : xn = xs.length) (hxm : xn ≤ maxLen) (hX : BVs w.heap.size w X xs) (hok : ∀ x ∈ xs, BVok w.heap.size w x) :
    Calls Tryd.prog 12 #[.slice X xn xc] w (Sm w (sumS xs)) := by
  unfold maxLen at hxm
  have HXN := Lib.hid hxn; have HX := Lib.hid hX; have HOK := Lib.hid hok; clear hxn hX hok
  obtain ⟨R, hR⟩ : ∃ R, R = sumS xs := ⟨_, rfl⟩
  rw [← hR]
  have HR := Lib.hid hR; clear hR
  go_enter Tryd.func12, Tryd.ntmps12
  go_wp2
  go_loopw [4, 5] (fun sv i wr => ∃ k : Nat, k ≤ xn ∧ i = .int .i64 k ∧ sv = .int .u32 (rem 0 (cat (xs.take k)) : Nat) ∧ allGood (xs.take k) = true ∧ Below w.heap.size w wr)
    (fun _ i _ => xn - (intOf i).toNat)
  case atStart => exact ⟨0, by omega, rfl, rfl, rfl, Below.refl _ _⟩
  case round =>
    obtain ⟨k, hk, rfl, rfl, hall, hBr⟩ := hrel
    have HALL := Lib.hid hall; clear hall
    by_cases hlt : k < xn
    · obtain ⟨x, hx⟩ : ∃ x, xs[k]? = some x := ⟨_, List.getElem?_eq_getElem (by have := HXN.out; omega)⟩
      obtain ⟨b, off, rfl, hbl, hc0, hc1⟩ := HX.out.at_ hBr hx
      have hgs := good_snoc (xs.take k) x
      rw [← take_snoc_bv xs k x hx] at hgs
      have hgn := good_not xs k x hx
      have hxo := HOK.out x (List.mem_of_getElem? hx)
      have hck := rcheck_any x.N x.A x.n x.c x.bs wr hxo.1 hxo.2.1 ((hxo.2.2.below hBr).mono hBr.size)
      by_cases hgx : goodB x.N x.bs = true
      · rw [chk_yes hgx] at hck
        rw [hgx, HALL.out] at hgs
        have hcs := cat_snoc (xs.take k) x
        rw [← take_snoc_bv xs k x hx] at hcs
        have hli := fun (w1 : World) (h : Below wr.heap.size wr w1) => list_any x.N x.A x.n x.c x.bs w1 hxo.1 hxo.2.1 (((hxo.2.2.below hBr).below (h.mono hBr.size)).mono (Nat.le_trans hBr.size h.size))
        have hll := lst_length x.N x.bs
        have hrl := rem_lt (cat (xs.take k)) 0 (by decide)
        have hmo : rem 0 (cat (xs.take (k + 1))) = rem (rem 0 (cat (xs.take k))) (lst x.N x.bs) := by rw [hcs]; exact crcOver_append _ _ _ _
        generalize rem 0 (cat (xs.take k)) = s at *
        generalize lst x.N x.bs = lx at *
        have hcx := (hBr.cell (p := ⟨b, off + k * 2, none⟩) hbl)
        have HCK := Lib.hid hck; have HGS := Lib.hid hgs; have HLI := Lib.hid hli; have HMO := Lib.hid hmo
        clear hck hgs hgn hgx hxo hcs hli hmo hcx
        go_wp2_with (first
          | (go_at_call 21; refine HCK.out.mono ?_; rintro e w2 ⟨rfl, hB2⟩; obtain ⟨_, _, hbo, _, hc2, hc3⟩ := HX.out.at_ (hBr.trans (hB2.mono hBr.size)) hx; injection hbo with hbo; injection hbo with hb1 hb2; subst hb1; subst hb2; have hbl2 := Nat.lt_of_lt_of_le hbl (hBr.trans (hB2.mono hBr.size)).size)
          | (go_at_call 28; refine (HLI.out _ hB2).mono ?_; rintro e w3 ⟨lv, rfl, hown, hB3⟩; obtain ⟨VA, vc, rfl, hVA⟩ := bools_of_own hown)
          | (go_at_call 27; refine (over_any s VA lx.length vc lx w3 hrl rfl (by unfold maxLen; omega) hVA).mono ?_; rintro e w4 ⟨rfl, rfl⟩))
        go_roundw
        case rel => exact ⟨k + 1, by omega, by go_num, by rw [HMO.out], HGS.out, (hBr.trans (hB2.mono hBr.size)).trans (hB3.mono (Nat.le_trans hBr.size hB2.size))⟩
        case measure => simp [intOf]; omega
      · rw [chk_no (by simpa using hgx)] at hck
        have hr := hgn (by simpa using hgx)
        have HCK := Lib.hid hck; have HG := Lib.hid hr
        clear hck hgs hgn hgx hx hr hxo
        go_wp2_with (go_at_call 21; refine HCK.out.mono ?_; rintro e w2 ⟨rfl, hB2⟩)
        go_ret2
        rw [HR.out, show sumS xs = (10, 0) by unfold sumS; rw [HG.out]; rfl]
        exact ⟨rfl, hBr.trans (hB2.mono hBr.size)⟩
    · have hgood := HALL.out
      have htk : xs.take k = xs := List.take_of_length_le (by have := HXN.out; omega)
      rw [htk] at hgood ⊢
      have HGD := Lib.hid hgood; clear hgood
      go_wp2
      go_ret2
      rw [HR.out, show sumS xs = (0, rem 0 (cat xs)) by unfold sumS; rw [HGD.out]; rfl]
      exact ⟨rfl, hBr⟩
end Go.Proofs.YtlmlbpnjkkfiaaaDoor
