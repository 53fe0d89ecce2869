/-
  Plain facts of a state and its bits: there and back, and unlike ones have unlike bits. No condition.
-/
import Derived.Test.YteigekhfamapmaaDoorBB
namespace Go.Proofs.YteigekhfamapmaaDoor
open Go.RowKit

theorem numBits_succ (v W : Nat) : numBits v (W + 1) = v.testBit W :: numBits v W := by
  unfold numBits
  rw [List.range_succ_eq_map, List.map_cons, List.map_map]
  congr 1
  apply List.map_congr_left
  intro i _
  show v.testBit (W + 1 - 1 - (i + 1)) = v.testBit (W - 1 - i)
  congr 1
  omega
theorem mod_pow_succ (x i : Nat) : x % 2 ^ (i + 1) = x % 2 ^ i + 2 ^ i * (x.testBit i).toNat := by
  rw [Nat.pow_succ, Nat.mod_mul, Nat.testBit_eq_decide_div_mod_eq]
  congr 2
  rcases Nat.mod_two_eq_zero_or_one (x / 2 ^ i) with h | h <;> rw [h] <;> rfl
theorem numBits_from (v W : Nat) : ∀ a : Nat, (numBits v W).foldl (fun a b => 2 * a + b.toNat) a = a * 2 ^ W + v % 2 ^ W := by
  induction W with
  | zero => intro a; simp [numBits, Nat.mod_one]
  | succ W ih =>
    intro a
    rw [numBits_succ, List.foldl_cons, ih, mod_pow_succ, Nat.pow_succ]
    rw [Nat.add_mul, Nat.mul_comm (2 ^ W) 2, ← Nat.mul_assoc, Nat.mul_comm a 2, Nat.mul_comm (2 ^ W) (v.testBit W).toNat]
    omega
theorem num_back (v W : Nat) (h : v < 2 ^ W) : numOf (numBits v W) = v := by
  unfold numOf
  rw [numBits_from, Nat.mod_eq_of_lt h]
  omega
theorem numOf_inj : ∀ (l m : List Bool), l.length = m.length → numOf l = numOf m → l = m := by
  have key : ∀ (l : List Bool) (a : Nat), l.foldl (fun a b => 2 * a + b.toNat) a = a * 2 ^ l.length + numOf l := by
    intro l
    induction l with
    | nil => intro a; simp [numOf]
    | cons b l ih =>
      intro a
      have h2 : numOf (b :: l) = (2 * 0 + b.toNat) * 2 ^ l.length + numOf l := ih (2 * 0 + b.toNat)
      rw [List.foldl_cons, ih, h2, List.length_cons, Nat.pow_succ, Nat.add_mul, Nat.add_mul, Nat.mul_comm (2 ^ l.length) 2, ← Nat.mul_assoc, Nat.mul_comm a 2]
      omega
  intro l
  induction l with
  | nil => intro m h _; cases m with
    | nil => rfl
    | cons b m => simp at h
  | cons b l ih =>
    intro m h hn
    cases m with
    | nil => simp at h
    | cons b' m =>
      have hl : l.length = m.length := by simpa using h
      have h1 : numOf (b :: l) = (2 * 0 + b.toNat) * 2 ^ l.length + numOf l := key l (2 * 0 + b.toNat)
      have h2 : numOf (b' :: m) = (2 * 0 + b'.toNat) * 2 ^ m.length + numOf m := key m (2 * 0 + b'.toNat)
      have l1 := numOf_lt l
      have l2 := numOf_lt m
      rw [h1, h2, hl] at hn
      rw [hl] at l1
      have hb : b = b' := by
        cases b <;> cases b' <;> simp at hn ⊢ <;> omega
      subst hb
      rw [ih m hl (by omega)]
theorem numBits_numOf (l : List Bool) : numBits (numOf l) l.length = l := by
  apply numOf_inj _ _ (numBits_length _ _)
  exact num_back _ _ (numOf_lt l)
/-- The part behind what stands ahead. -/
theorem part_app (a b c : List Bool) {i k : Nat} (ha : a.length = i) (hb : b.length = k) : ((a ++ (b ++ c)).drop i).take k = b := by
  subst ha hb
  rw [List.drop_left, List.take_left]
/-- A state that may be is read of its bits. -/
theorem fields_bits {c : CS} (h : mayC c 8 = true) : fieldsOf (bitsOf c) = c := by
  have h0 := fld_lt h (k := 0) (by decide)
  have h1 := fld_lt h (k := 1) (by decide)
  have h2 := fld_lt h (k := 2) (by decide)
  have h3 := fld_lt h (k := 3) (by decide)
  have h4 := fld_lt h (k := 4) (by decide)
  have p0 : partF (bitsOf c) 0 = c.T.toNat := by
    show numOf ((bitsOf c).drop 0 |>.take 8) = _
    rw [show bitsOf c = ([]) ++ (numBits c.T.toNat 8 ++ (numBits c.P.toNat 3 ++ numBits c.Mo.toNat 2 ++ numBits c.Nx.toNat 3 ++ numBits c.Me.toNat 8)) by simp [bitsOf], part_app [] _ _ (i := 0) rfl (numBits_length _ _)]
    exact num_back _ _ h0.2
  have p1 : partF (bitsOf c) 1 = c.P.toNat := by
    show numOf ((bitsOf c).drop 8 |>.take 3) = _
    rw [show bitsOf c = (numBits c.T.toNat 8) ++ (numBits c.P.toNat 3 ++ (numBits c.Mo.toNat 2 ++ numBits c.Nx.toNat 3 ++ numBits c.Me.toNat 8)) by simp [bitsOf], part_app _ _ _ (by simp [numBits_length]) (numBits_length _ _)]
    exact num_back _ _ h1.2
  have p2 : partF (bitsOf c) 2 = c.Mo.toNat := by
    show numOf ((bitsOf c).drop 11 |>.take 2) = _
    rw [show bitsOf c = (numBits c.T.toNat 8 ++ numBits c.P.toNat 3) ++ (numBits c.Mo.toNat 2 ++ (numBits c.Nx.toNat 3 ++ numBits c.Me.toNat 8)) by simp [bitsOf], part_app _ _ _ (by simp [numBits_length]) (numBits_length _ _)]
    exact num_back _ _ h2.2
  have p3 : partF (bitsOf c) 3 = c.Nx.toNat := by
    show numOf ((bitsOf c).drop 13 |>.take 3) = _
    rw [show bitsOf c = (numBits c.T.toNat 8 ++ numBits c.P.toNat 3 ++ numBits c.Mo.toNat 2) ++ (numBits c.Nx.toNat 3 ++ (numBits c.Me.toNat 8)) by simp [bitsOf], part_app _ _ _ (by simp [numBits_length]) (numBits_length _ _)]
    exact num_back _ _ h3.2
  have p4 : partF (bitsOf c) 4 = c.Me.toNat := by
    show numOf ((bitsOf c).drop 16 |>.take 8) = _
    rw [show bitsOf c = (numBits c.T.toNat 8 ++ numBits c.P.toNat 3 ++ numBits c.Mo.toNat 2 ++ numBits c.Nx.toNat 3) ++ (numBits c.Me.toNat 8 ++ ([])) by simp [bitsOf], part_app _ _ _ (by simp [numBits_length]) (numBits_length _ _)]
    exact num_back _ _ h4.2
  unfold fieldsOf
  rw [p0, p1, p2, p3, p4]
  obtain ⟨T, P, Mo, Nx, Me⟩ := c
  have a0 : 0 ≤ T := h0.1
  have a1 : 0 ≤ P := h1.1
  have a2 : 0 ≤ Mo := h2.1
  have a3 : 0 ≤ Nx := h3.1
  have a4 : 0 ≤ Me := h4.1
  simp only [CS.mk.injEq]
  omega
/-- Twenty-four bits are the bits of what they hold. -/
theorem bits_fields {L : List Bool} (h : L.length = 24) : bitsOf (fieldsOf L) = L := by
  have e : ∀ a k : Nat, a + k ≤ 24 → numBits (numOf ((L.drop a).take k)) k = (L.drop a).take k := by
    intro a k hk
    have hl : ((L.drop a).take k).length = k := by rw [List.length_take, List.length_drop, h]; omega
    have := numBits_numOf ((L.drop a).take k)
    rwa [hl] at this
  have q0 := e 0 8 (by decide)
  have q1 := e 8 3 (by decide)
  have q2 := e 11 2 (by decide)
  have q3 := e 13 3 (by decide)
  have q4 := e 16 8 (by decide)
  have hb : bitsOf (fieldsOf L) = (L.drop 0).take 8 ++ (L.drop 8).take 3 ++ (L.drop 11).take 2 ++ (L.drop 13).take 3 ++ (L.drop 16).take 8 := by
    rw [← q0, ← q1, ← q2, ← q3, ← q4]
    rfl
  rw [hb]
  have t1 : L.drop 0 = (L.drop 0).take 8 ++ L.drop 8 := by rw [← List.drop_drop (i := 8) (j := 0)]; exact (List.take_append_drop 8 (L.drop 0)).symm
  have t2 : L.drop 8 = (L.drop 8).take 3 ++ L.drop 11 := by rw [← List.drop_drop (i := 3) (j := 8)]; exact (List.take_append_drop 3 (L.drop 8)).symm
  have t3 : L.drop 11 = (L.drop 11).take 2 ++ L.drop 13 := by rw [← List.drop_drop (i := 2) (j := 11)]; exact (List.take_append_drop 2 (L.drop 11)).symm
  have t4 : L.drop 13 = (L.drop 13).take 3 ++ L.drop 16 := by rw [← List.drop_drop (i := 3) (j := 13)]; exact (List.take_append_drop 3 (L.drop 13)).symm
  have t5 : (L.drop 16).take 8 = L.drop 16 := List.take_of_length_le (by rw [List.length_drop, h]; decide)
  rw [t5, List.append_assoc, List.append_assoc, List.append_assoc, ← t4, ← t3, ← t2, ← t1]
  rfl
theorem read_bits {c : CS} (h : mayC c 8 = true) {bs : List UInt8} (hb : IsBits (bitsOf c) bs) : readC 24 bs = (0, c) := by
  have hl := bitsOf_length c
  have h1 := isBits_good hb (by omega)
  have h2 := isBits_listOf hb
  rw [hl] at h1 h2
  unfold readC
  rw [show ((24 : Int)) = ((24 : Nat) : Int) from rfl, h2, if_pos h1, if_pos rfl, fields_bits h, if_pos h]
theorem bits_inj {a b : CS} (ha : mayC a 8 = true) (hb : mayC b 8 = true) (h : bitsOf a = bitsOf b) : a = b := by
  rw [← fields_bits ha, h, fields_bits hb]
theorem same_states {a b : CS} (ha : mayC a 8 = true) (hb : mayC b 8 = true) {bs bs' : List UInt8} (h : IsBits (bitsOf a) bs) (h' : IsBits (bitsOf b) bs') : (a = b → sameB 24 bs 24 bs' = true) ∧ (a ≠ b → sameB 24 bs 24 bs' = false) := by
  constructor
  · rintro rfl
    obtain rfl := h.unique h'
    exact sameB_self _ _
  · intro hne
    unfold sameB
    simp only [decide_true, Bool.true_and, decide_eq_false_iff_not]
    rintro rfl
    have e1 := isBits_listOf h
    have e2 := isBits_listOf h'
    rw [bitsOf_length] at e1 e2
    exact hne (bits_inj ha hb (e1.symm.trans e2))
theorem read_some {N : Int} {bs : List UInt8} (h : (readC N bs).1 = 0) : goodB N bs = true ∧ N = 24 ∧ mayC (fieldsOf (listOf 24 bs)) 8 = true ∧ readC N bs = (0, fieldsOf (listOf 24 bs)) := by
  unfold readC at h ⊢
  by_cases hg : goodB N bs = true
  · rw [if_pos hg] at h ⊢
    by_cases hN : N = 24
    · subst hN
      rw [if_pos rfl] at h ⊢
      by_cases hm : mayC (fieldsOf (listOf 24 bs)) 8 = true
      · rw [if_pos hm]; exact ⟨hg, rfl, hm, rfl⟩
      · rw [if_neg hm] at h; simp at h
    · rw [if_neg hN] at h; simp at h
  · rw [if_neg hg] at h; simp at h
end Go.Proofs.YteigekhfamapmaaDoor
