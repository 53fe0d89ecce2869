/-
  Plain facts behind 'there and back': numbers in bits, bits turned twice, digits that are read, how many are 1. No condition but those that each theorem names.
-/
import Derived.Test.YtlmlbpnjkkfiaaaDoorJ3
namespace Go.Proofs.YtlmlbpnjkkfiaaaDoor

theorem numBits_succ (v W : Nat) : numBits v (W + 1) = v.testBit W :: numBits v W := by
  unfold numBits
  rw [List.range_succ_eq_map, List.map_cons, List.map_map]
  congr 1
  apply List.map_congr_left
  intro i _
  show v.testBit (W + 1 - 1 - (i + 1)) = v.testBit (W - 1 - i)
  congr 1
  omega
theorem mod_pow_succ (x i : Nat) : x % 2 ^ (i + 1) = x % 2 ^ i + 2 ^ i * (x.testBit i).toNat := by
  rw [Nat.pow_succ, Nat.mod_mul, Nat.testBit_eq_decide_div_mod_eq]
  congr 2
  rcases Nat.mod_two_eq_zero_or_one (x / 2 ^ i) with h | h <;> rw [h] <;> rfl
theorem numBits_from (v W : Nat) : ∀ a : Nat, (numBits v W).foldl (fun a b => 2 * a + b.toNat) a = a * 2 ^ W + v % 2 ^ W := by
  induction W with
  | zero => intro a; simp [numBits, Nat.mod_one]
  | succ W ih =>
    intro a
    rw [numBits_succ, List.foldl_cons, ih, mod_pow_succ, Nat.pow_succ]
    rw [Nat.add_mul, Nat.mul_comm (2 ^ W) 2, ← Nat.mul_assoc, Nat.mul_comm a 2, Nat.mul_comm (2 ^ W) (v.testBit W).toNat]
    omega
theorem num_back (v W : Nat) (h : v / 2 ^ W = 0) : numOf (numBits v W) = v := by
  unfold numOf
  rw [numBits_from]
  have hp : 0 < 2 ^ W := Nat.pos_of_ne_zero (by simp)
  have hlt : v < 2 ^ W := by
    rcases Nat.lt_or_ge v (2 ^ W) with h1 | h1
    · exact h1
    · have := Nat.div_pos h1 hp; omega
  rw [Nat.mod_eq_of_lt hlt]; omega

theorem flip1_get (l : List Bool) (i : Int) (j : Nat) : (flip1 l i)[j]? = if i.toNat = j then (if j < l.length then some (!(l[j]?.getD false)) else none) else l[j]? := by
  unfold flip1
  rw [List.getElem?_set]
  by_cases e : i.toNat = j
  · subst e; simp
  · simp [e]
theorem flip1_twice (l : List Bool) (i : Int) : flip1 (flip1 l i) i = l := by
  apply List.ext_getElem?
  intro j
  rw [flip1_get, flip1_get, flip1_length]
  by_cases e : i.toNat = j
  · simp only [e, if_true]
    by_cases h : j < l.length
    · simp [h]
    · simp [h]
  · simp [e]
theorem flip1_comm (l : List Bool) (i j : Int) : flip1 (flip1 l i) j = flip1 (flip1 l j) i := by
  apply List.ext_getElem?
  intro q
  rw [flip1_get, flip1_get, flip1_get, flip1_get, flip1_length, flip1_length]
  by_cases e : i.toNat = q <;> by_cases e2 : j.toNat = q <;> simp [e, e2]
theorem flips_flip1 (zs : List Int) : ∀ (l : List Bool) (z : Int), flips (flip1 l z) zs = flip1 (flips l zs) z := by
  induction zs with
  | nil => intro l z; rfl
  | cons y zs ih =>
    intro l z
    show flips (flip1 (flip1 l z) y) zs = flip1 (flips (flip1 l y) zs) z
    rw [flip1_comm, ih]
theorem flips_twice (zs : List Int) : ∀ l : List Bool, flips (flips l zs) zs = l := by
  induction zs with
  | nil => intro l; rfl
  | cons z zs ih =>
    intro l
    show flips (flip1 (flips (flip1 l z) zs) z) zs = l
    rw [flips_flip1, ih, flip1_twice]

theorem text_back (l : List Bool) (h : l.length ≤ 4096) : parseS (textOf l).data.toList = (0, l) := by
  have e : (textOf l).data.toList = l.map dig := rfl
  have h1 : (l.map dig).all isDig = true := by
    rw [List.all_map, List.all_eq_true]
    intro b _
    cases b <;> rfl
  have h2 : (l.map dig).map (· == 49) = l := by
    rw [List.map_map]
    conv => rhs; rw [← List.map_id l]
    apply List.map_congr_left
    intro b _
    cases b <;> rfl
  unfold parseS
  rw [e, List.length_map, if_neg (by omega), h1, h2]
  rfl
theorem text_size (l : List Bool) : (textOf l).size = l.length := by
  show (l.map dig).toArray.size = _
  simp
theorem ones_append (l r : List Bool) : onesOf (l ++ r) = onesOf l + onesOf r := by simp [onesOf]

theorem put_zero {N : Int} {bs : List UInt8} {v : Nat} {width : Int} {R : Int × List Bool} (hR : R = putS N bs v width) (h : R.1 = 0) :
    goodB N bs = true ∧ 0 ≤ width ∧ width ≤ 64 ∧ v / 2 ^ width.toNat = 0 ∧ R.2 = listOf N bs ++ numBits v width.toNat := by
  subst hR
  unfold putS at h ⊢
  split at h
  · rename_i hg
    split at h
    · rename_i hw
      split at h
      · cases h
      · rename_i hl
        rw [if_pos hg, if_pos hw, if_neg hl]
        exact ⟨hg, hw.1.1, hw.1.2, hw.2, rfl⟩
    · cases h
  · cases h
theorem slice_more {l : List Bool} {bs : List UInt8} (h : IsBits l bs) (hl : l.length ≤ 4096) (f t : Nat) (hf : f ≤ t) (ht : t ≤ l.length) : sliceS l.length bs f t = (0, (l.drop f).take (t - f)) := by
  unfold sliceS
  rw [if_pos (isBits_good h hl), isBits_listOf h, if_pos ⟨by omega, by omega, by omega⟩, Int.toNat_natCast, Int.toNat_natCast]
theorem flip_zero {N : Int} {bs : List UInt8} {zs : List Int} {R : Int × List Bool} (hR : R = flipS N bs zs) (h : R.1 = 0) : goodB N bs = true ∧ okAt N zs = true ∧ R.2 = flips (listOf N bs) zs := by
  subst hR
  unfold flipS at h ⊢
  split at h
  · rename_i hg
    split at h
    · rename_i ho
      rw [if_pos hg, if_pos ho]
      exact ⟨hg, ho, rfl⟩
    · cases h
  · cases h
theorem flip_more {l : List Bool} {bs : List UInt8} (h : IsBits l bs) (hl : l.length ≤ 4096) (zs : List Int) (ho : okAt l.length zs = true) : flipS l.length bs zs = (0, flips l zs) := by
  unfold flipS
  rw [if_pos (isBits_good h hl), isBits_listOf h, if_pos ho]
theorem join_zero {xs : List BV} {R : Int × List Bool} (hR : R = joinS xs) (h : R.1 = 0) : allGood xs = true ∧ R.2 = cat xs := by
  subst hR
  unfold joinS at h ⊢
  split at h
  · rename_i hg
    split at h
    · cases h
    · rename_i hl
      rw [if_pos hg, if_neg hl]
      exact ⟨hg, rfl⟩
  · cases h
end Go.Proofs.YtlmlbpnjkkfiaaaDoor
