/-
  Plain facts about what is sealed, opened, turned, over no program: what was sealed has the sum 0, and so has what is opened; a burst, or other bits that are not sent, and the sum is another. Conditions: those that each theorem names.
-/
import Derived.Test.YtlmlbpnjkkfiaaaDoorD1
namespace Go.Proofs.YtlmlbpnjkkfiaaaDoor

theorem seal_zero {N : Int} {bs : List UInt8} {M : Int} {us : List UInt8} {R : Int × List Bool} (hR : R = sealS N bs M us) (h : R.1 = 0) :
    goodB N bs = true ∧ goodB M us = true ∧ R.2 = listOf N bs ++ numBits (rem 0 (listOf M us ++ listOf N bs)) 24 := by
  unfold sealS at hR
  split at hR
  · rename_i hg
    obtain ⟨h1, _, _, _, h5⟩ := put_zero hR h
    exact ⟨h1, hg.1, h5⟩
  · subst hR; cases h
theorem sealed_sum (u l : List Bool) : rem 0 (u ++ (l ++ numBits (rem 0 (u ++ l)) 24)) = 0 := by
  have hlt := rem_lt (u ++ l) 0 (by decide)
  refine (crc_opens poly_odd poly_lt u l _ (numBits_length _ _)).2 ?_
  rw [num_back _ _ (Nat.div_eq_of_lt hlt)]
theorem front_sealed (l : List Bool) (v : Nat) : frontOf (l ++ numBits v 24) = l := by
  unfold frontOf
  rw [List.length_append, numBits_length, Nat.add_sub_cancel, List.take_left']
  rfl
theorem opened (u l : List Bool) (h : 24 ≤ l.length) : numOf (lastOf l) = rem 0 (u ++ frontOf l) ↔ rem 0 (u ++ l) = 0 := by
  have h1 := crc_opens poly_odd poly_lt u (frontOf l) (lastOf l) (by unfold lastOf; rw [List.length_drop]; omega)
  have h2 : frontOf l ++ lastOf l = l := List.take_append_drop _ _
  rw [h2] at h1
  exact ⟨fun h => h1.2 h.symm, fun h => (h1.1 h).symm⟩
theorem open_more {l : List Bool} {bs : List UInt8} (h : IsBits l bs) (hl : l.length ≤ 4096) {M : Int} {us : List UInt8} (hg : goodB M us = true) (h24 : 24 ≤ l.length) :
    openS l.length bs M us = if rem 0 (listOf M us ++ l) = 0 then (0, frontOf l) else (21, []) := by
  unfold openS
  rw [if_pos ⟨isBits_good h hl, hg⟩, if_neg (by omega), isBits_listOf h]
  by_cases hc : rem 0 (listOf M us ++ l) = 0
  · rw [if_pos hc, if_pos ((opened _ _ h24).2 hc)]
  · rw [if_neg hc, if_neg (fun h => hc ((opened _ _ h24).1 h))]
theorem flips_other (i : Nat) : ∀ (zs : List Int) (l : List Bool), (∀ z ∈ zs, z.toNat ≠ i) → (flips l zs)[i]? = l[i]?
  | [], _, _ => rfl
  | z :: zs, l, h => by
    have h1 := flips_other i zs (flip1 l z) (fun y hy => h y (by simp [hy]))
    change (flips (flip1 l z) zs)[i]? = _
    rw [h1, flip1_get, if_neg (h z (by simp))]
theorem burst_told (u X : List Bool) (a p K : Nat) (hp : p < 2 ^ 24) (hx : rem 0 (u ++ X) = 0) (hy : rem 0 (u ++ flips X (places a p K)) = 0) : flips X (places a p K) = X := by
  have h := crc_apart poly_odd poly_lt (u ++ flips X (places a p K)) (u ++ X) (u.length + a) (by simp [flips_length]) (fun i hi => by
    by_cases hiu : i < u.length
    · rw [List.getElem?_append_left hiu, List.getElem?_append_left hiu]
    · rw [List.getElem?_append_right (by omega), List.getElem?_append_right (by omega)]
      refine flips_other _ _ _ fun z hz => ?_
      unfold places at hz
      obtain ⟨j, hj, rfl⟩ := List.mem_map.1 hz
      have hb := (List.mem_filter.1 hj).2
      have hj24 : j < 24 := by
        rcases Nat.lt_or_ge j 24 with h | h
        · exact h
        · have : p.testBit j = false := Nat.testBit_lt_two_pow (Nat.lt_of_lt_of_le hp (Nat.pow_le_pow_right (by omega) h))
          rw [this] at hb; cases hb
      rw [Int.toNat_natCast]
      omega) hy hx
  exact List.append_cancel_left h
theorem unsent_told (o o2 X : List Bool) (hl : o.length = o2.length) (h24 : o.length ≤ 24) (h1 : rem 0 (o ++ X) = 0) (h2 : rem 0 (o2 ++ X) = 0) : o = o2 := by
  have h := crc_apart poly_odd poly_lt (o ++ X) (o2 ++ X) 0 (by simp [hl]) (fun i hi => by
    rw [List.getElem?_append_right (by omega), List.getElem?_append_right (by omega), hl]) h1 h2
  exact List.append_cancel_right h
theorem burst_more {l : List Bool} {bs : List UInt8} (h : IsBits l bs) (hl : l.length ≤ 4096) (at_ : Int) (p : Nat) :
    burstS l.length bs at_ p = if 0 ≤ at_ ∧ at_ ≤ (l.length : Int) then (0, flips l (places at_.toNat p (min 32 ((l.length : Int) - at_).toNat))) else (2, []) := by
  unfold burstS
  rw [if_pos (isBits_good h hl)]
  by_cases hc : 0 ≤ at_ ∧ at_ ≤ (l.length : Int)
  · rw [if_pos hc, if_pos hc]
    exact flip_more h hl _ (places_ok _ _ _ _ (by omega))
  · rw [if_neg hc, if_neg hc]
end Go.Proofs.YtlmlbpnjkkfiaaaDoor
