/-
  Plain facts about frames, over no program: what is read has those bits; a frame is good for those with its state and no others; a burst is told. Conditions: those that each theorem names.
-/
import Derived.Test.YtcfbeelljhjnoaaDoorNP
namespace Go.Proofs.YtcfbeelljhjnoaaDoor

theorem longF_cases {k n : Nat} (h : longF k n = true) : (k = 1 ∧ n = 40) ∨ (k = 2 ∧ 29 ≤ n ∧ n ≤ 93 ∧ n % 8 = 5) ∨ (k = 3 ∧ n = 54) ∨ (k = 4 ∧ 79 ≤ n ∧ n ≤ 143 ∧ n % 8 = 7) := of_decide_eq_true h
theorem kind_bits (l : List Bool) (h : 2 ≤ l.length) : l = numBits (kindL l - 1) 2 ++ l.drop 2 := by
  have h1 := numBits_at l 0 2 (by omega)
  unfold kindL
  rw [Nat.add_sub_cancel]
  rw [List.drop_zero] at h1
  rw [h1, List.take_append_drop]
theorem drop_num (l : List Bool) (a W : Nat) (h : a + W ≤ l.length) : l.drop a = numBits (numOf ((l.drop a).take W)) W ++ l.drop (a + W) := by
  rw [numBits_at l a W h]; exact drop_cut l a W
theorem readL_zero {l : List Bool} {c : CS} (h : (readL l c).1 = 0) : longF (kindL l) l.length = true ∧ zeroL (kindL l) l = true ∧ sumsL (kindL l) l c = true ∧ mayF (toldF (kindL l) l c) = true ∧ readL l c = (0, toldF (kindL l) l c) := by
  unfold readL at h ⊢
  by_cases h1 : longF (kindL l) l.length = true ∧ zeroL (kindL l) l = true
  · rw [if_pos h1] at h ⊢
    by_cases h2 : sumsL (kindL l) l c = true
    · rw [if_pos h2] at h ⊢
      by_cases h3 : mayF (toldF (kindL l) l c) = true
      · rw [if_pos h3]; exact ⟨h1.1, h1.2, h2, h3, rfl⟩
      · rw [if_neg h3] at h; exact absurd h (by decide)
    · rw [if_neg h2] at h; exact absurd h (by decide)
  · rw [if_neg h1] at h; exact absurd h (by decide)
theorem told_1 (l : List Bool) (c : CS) : toldF 1 l c = ⟨1, 0, ⟨numOf ((l.drop 5).take 8), 0, 0, 0, 0⟩, numOf ((l.drop 2).take 3), []⟩ := by unfold toldF; rw [if_pos rfl]
theorem told_2 (l : List Bool) (c : CS) : toldF 2 l c = ⟨2, numOf ((l.drop 2).take 3), c, 0, bytesL ((l.drop 5).take (l.length - 29))⟩ := by unfold toldF; rw [if_neg (by decide), if_pos rfl]
theorem told_3 (l : List Bool) (c : CS) : toldF 3 l c = ⟨3, numOf ((l.drop 2).take 3), fieldsOf (stateL 3 l), 0, []⟩ := by unfold toldF; rw [if_neg (by decide), if_neg (by decide), if_pos rfl]
theorem told_4 (l : List Bool) (c : CS) : toldF 4 l c = ⟨4, numOf ((l.drop 2).take 3), fieldsOf (stateL 4 l), 0, bytesL ((l.drop 55).take (l.length - 79))⟩ := by unfold toldF; rw [if_neg (by decide), if_neg (by decide), if_neg (by decide)]
theorem frame_1 (f : FR) (h : f.K = 1) : bitsF f = sealB [] (numBits 0 2 ++ (numBits f.F.toNat 3 ++ (numBits f.C.T.toNat 8 ++ numBits 0 3))) := by
  unfold bitsF headL; rw [if_pos h, if_pos h]
theorem frame_2 (f : FR) (h : f.K = 2) : bitsF f = sealB (bitsOf f.C) ((numBits 1 2 ++ numBits f.R.toNat 3) ++ dataL f.ds) := by
  unfold bitsF headL; rw [if_neg (by omega), if_pos h, if_neg (by omega), if_pos h]
theorem frame_3 (f : FR) (h : f.K = 3) : bitsF f = sealB [] (numBits 2 2 ++ (numBits f.R.toNat 3 ++ (numBits 0 1 ++ bitsOf f.C))) := by
  unfold bitsF headL; rw [if_neg (by omega), if_neg (by omega), if_pos h, if_neg (by omega), if_neg (by omega), if_pos h]
theorem frame_4 (f : FR) (h : f.K = 4) : bitsF f = sealB (bitsOf f.C) (sealB [] (numBits 3 2 ++ (numBits f.R.toNat 3 ++ (numBits 0 2 ++ bitsOf f.C))) ++ dataL f.ds) := by
  unfold bitsF; rw [if_neg (by omega), if_neg (by omega), if_neg (by omega), headL_4 f h]
/-- What is read has those bits. -/
theorem back_1 (l : List Bool) (c : CS) (hk : kindL l = 1) (hl : l.length = 40) (hz : zeroL 1 l = true) (hs : sumsL 1 l c = true) : bitsF (toldF 1 l c) = l := by
  have hz' : numOf ((l.drop 13).take 3) = 0 := by unfold zeroL at hz; rw [if_pos rfl] at hz; simpa using hz
  have hs' : rem 0 ([] ++ l) = 0 := by unfold sumsL at hs; rw [if_neg (by decide), if_neg (by decide)] at hs; simpa using hs
  have h0 := of_sealed [] l (by omega) hs'
  have e1 := kind_bits l (by omega)
  have e2 := drop_num l 2 3 (by omega)
  have e3 := drop_num l 5 8 (by omega)
  have e4 := drop_num l 13 3 (by omega)
  rw [hk] at e1
  rw [hz'] at e4
  have hf : frontOf l = numBits 0 2 ++ (numBits (numOf ((l.drop 2).take 3)) 3 ++ (numBits (numOf ((l.drop 5).take 8)) 8 ++ numBits 0 3)) := by
    unfold frontOf
    rw [hl]
    conv => lhs; arg 2; rw [e1, e2, e3, e4]
    rw [← List.append_assoc, ← List.append_assoc, ← List.append_assoc]
    rw [List.take_left' (by simp [numBits_length])]
    simp only [List.append_assoc]
  rw [hf] at h0
  rw [told_1, frame_1 _ rfl]
  simp only [Int.toNat_natCast]
  exact h0.symm
theorem back_2 (l : List Bool) (c : CS) (hk : kindL l = 2) (hl : 29 ≤ l.length ∧ l.length ≤ 93 ∧ l.length % 8 = 5) (hs : sumsL 2 l c = true) : bitsF (toldF 2 l c) = l := by
  have hs' : rem 0 (bitsOf c ++ l) = 0 := by unfold sumsL at hs; rw [if_pos rfl] at hs; simpa using hs
  have h0 := of_sealed (bitsOf c) l (by omega) hs'
  have e1 := kind_bits l (by omega)
  have e2 := drop_num l 2 3 (by omega)
  rw [hk] at e1
  have hb : dataL (bytesL ((l.drop 5).take (l.length - 29))) = (l.drop 5).take (l.length - 29) := data_bytes _ (by rw [List.length_take, List.length_drop]; omega)
  have hf : frontOf l = (numBits 1 2 ++ numBits (numOf ((l.drop 2).take 3)) 3) ++ dataL (bytesL ((l.drop 5).take (l.length - 29))) := by
    rw [hb]
    have e5 : l = (numBits 1 2 ++ numBits (numOf ((l.drop 2).take 3)) 3) ++ l.drop 5 := by
      conv => lhs; rw [e1, e2]
      simp only [List.append_assoc]
    unfold frontOf
    conv => lhs; arg 2; rw [e5]
    rw [List.take_append]
    rw [show (numBits 1 2 ++ numBits (numOf ((l.drop 2).take 3)) 3).length = 5 by simp [numBits_length]]
    rw [List.take_of_length_le (by simp [numBits_length]; omega), show l.length - 24 - 5 = l.length - 29 by omega]
  rw [hf] at h0
  rw [told_2, frame_2 _ rfl]
  simp only [Int.toNat_natCast]
  exact h0.symm
theorem back_3 (l : List Bool) (c : CS) (hk : kindL l = 3) (hl : l.length = 54) (hz : zeroL 3 l = true) (hs : sumsL 3 l c = true) : bitsF (toldF 3 l c) = l := by
  have hz' : numOf ((l.drop 5).take 1) = 0 := by unfold zeroL at hz; rw [if_neg (by decide), if_pos rfl] at hz; simpa using hz
  have hs' : rem 0 ([] ++ l) = 0 := by unfold sumsL at hs; rw [if_neg (by decide), if_neg (by decide)] at hs; simpa using hs
  have h0 := of_sealed [] l (by omega) hs'
  have e1 := kind_bits l (by omega)
  have e2 := drop_num l 2 3 (by omega)
  have e3 := drop_num l 5 1 (by omega)
  have e4 := drop_cut l 6 24
  rw [hk] at e1
  rw [hz'] at e3
  have hb : bitsOf (fieldsOf (stateL 3 l)) = (l.drop 6).take 24 := bits_fields (by unfold stateL; rw [if_pos rfl, List.length_take, List.length_drop]; omega)
  have hf : frontOf l = numBits 2 2 ++ (numBits (numOf ((l.drop 2).take 3)) 3 ++ (numBits 0 1 ++ bitsOf (fieldsOf (stateL 3 l)))) := by
    rw [hb]
    unfold frontOf
    rw [hl]
    conv => lhs; arg 2; rw [e1, e2, e3, e4]
    rw [← List.append_assoc, ← List.append_assoc, ← List.append_assoc]
    rw [List.take_left' (by simp [numBits_length]; omega)]
    simp only [List.append_assoc]
  rw [hf] at h0
  rw [told_3, frame_3 _ rfl]
  simp only [Int.toNat_natCast]
  exact h0.symm
theorem back_4 (l : List Bool) (c : CS) (hk : kindL l = 4) (hl : 79 ≤ l.length ∧ l.length ≤ 143 ∧ l.length % 8 = 7) (hz : zeroL 4 l = true) (hs : sumsL 4 l c = true) : bitsF (toldF 4 l c) = l := by
  have hz' : numOf ((l.drop 5).take 2) = 0 := by unfold zeroL at hz; rw [if_neg (by decide), if_neg (by decide), if_pos rfl] at hz; simpa using hz
  have hs' : rem 0 ([] ++ l.take 55) = 0 ∧ rem 0 (stateL 4 l ++ l) = 0 := by
    unfold sumsL at hs; rw [if_neg (by decide), if_pos rfl] at hs; simpa using hs
  have h0 := of_sealed [] (l.take 55) (by rw [List.length_take]; omega) hs'.1
  have h1 := of_sealed (stateL 4 l) l (by omega) hs'.2
  have e1 := kind_bits l (by omega)
  have e2 := drop_num l 2 3 (by omega)
  have e3 := drop_num l 5 2 (by omega)
  have e4 := drop_cut l 7 24
  rw [hk] at e1
  rw [hz'] at e3
  have hb : bitsOf (fieldsOf (stateL 4 l)) = (l.drop 7).take 24 := bits_fields (by unfold stateL; rw [if_neg (by decide), List.length_take, List.length_drop]; omega)
  have hst : stateL 4 l = (l.drop 7).take 24 := by unfold stateL; rw [if_neg (by decide)]
  have hd : dataL (bytesL ((l.drop 55).take (l.length - 79))) = (l.drop 55).take (l.length - 79) := data_bytes _ (by rw [List.length_take, List.length_drop]; omega)
  have hf : frontOf (l.take 55) = numBits 3 2 ++ (numBits (numOf ((l.drop 2).take 3)) 3 ++ (numBits 0 2 ++ bitsOf (fieldsOf (stateL 4 l)))) := by
    rw [hb]
    unfold frontOf
    rw [List.length_take, Nat.min_eq_left (by omega), List.take_take, Nat.min_eq_left (by omega)]
    conv => lhs; arg 2; rw [e1, e2, e3, e4]
    rw [← List.append_assoc, ← List.append_assoc, ← List.append_assoc]
    rw [List.take_left' (by simp [numBits_length]; omega)]
    simp only [List.append_assoc]
  rw [hf] at h0
  have hg : frontOf l = l.take 55 ++ (l.drop 55).take (l.length - 79) := by
    unfold frontOf
    conv => lhs; arg 2; rw [← List.take_append_drop 55 l]
    rw [List.take_append, List.length_take, Nat.min_eq_left (by omega), List.take_of_length_le (by rw [List.length_take]; omega), show l.length - 24 - 55 = l.length - 79 by omega]
  have hu : bitsOf (fieldsOf (stateL 4 l)) = stateL 4 l := hb.trans hst.symm
  rw [hg, ← hd, h0, hu] at h1
  rw [told_4, frame_4 _ rfl]
  simp only [Int.toNat_natCast]
  rw [hu]
  exact h1.symm
theorem back_L {l : List Bool} {c : CS} (h : (readL l c).1 = 0) : mayF (readL l c).2 = true ∧ bitsF (readL l c).2 = l := by
  obtain ⟨h1, h2, h3, h4, h5⟩ := readL_zero h
  rw [h5]
  refine ⟨h4, ?_⟩
  dsimp only
  rcases longF_cases h1 with ⟨hk, hn⟩ | ⟨hk, hn⟩ | ⟨hk, hn⟩ | ⟨hk, hn⟩ <;> rw [hk] at h2 h3 ⊢
  · exact back_1 l c hk hn h2 h3
  · exact back_2 l c hk hn h3
  · exact back_3 l c hk hn h2 h3
  · exact back_4 l c hk hn h2 h3
/-- Read by the frame's own state it is the frame. -/
theorem read_own {f : FR} (hm : mayF f = true) : readL (bitsF f) f.C = (0, f) := by
  have hm' := hm
  unfold mayF at hm
  simp only [decide_eq_true_eq] at hm
  obtain ⟨hK1, hK4, -⟩ := hm
  rcases (show f.K = 1 ∨ f.K = 2 ∨ f.K = 3 ∨ f.K = 4 by omega) with h | h | h | h
  · exact read_1 f hm' h _
  · exact read_2 f hm' h
  · exact read_3 f hm' h _
  · exact read_4 f hm' h _
/-- Good for whom? -/
theorem agree_L {f : FR} (hm : mayF f = true) {c : CS} (hc : mayC c 8 = true) (hK : f.K ≠ 1) : ((readL (bitsF f) c).1 = 0 ∧ (readL (bitsF f) c).2.K ≠ 1 ∧ sameC (readL (bitsF f) c).2.C c = true) ↔ c = f.C := by
  have hm' := hm
  unfold mayF at hm
  simp only [decide_eq_true_eq] at hm
  obtain ⟨hK1, hK4, hC, -⟩ := hm
  refine ⟨fun ⟨h1, h2, h3⟩ => ?_, fun h => ?_⟩
  · rcases (show f.K = 2 ∨ f.K = 3 ∨ f.K = 4 by omega) with h | h | h
    · obtain ⟨i1, i2⟩ := back_L h1
      obtain ⟨j1, j2, j3, j4, j5⟩ := readL_zero h1
      have hk : kindL (bitsF f) = 2 := by unfold kindL; rw [bits_2 f h, take_num _ (by decide)]
      rw [hk] at j3
      have s1 : rem 0 (bitsOf c ++ bitsF f) = 0 := by unfold sumsL at j3; rw [if_pos rfl] at j3; simpa using j3
      have s2 : rem 0 (bitsOf f.C ++ bitsF f) = 0 := by rw [frame_2 f h]; exact sealB_sum _ _
      exact bits_inj hc hC (unsent_told _ _ _ (by rw [bitsOf_length, bitsOf_length]) (by rw [bitsOf_length]; decide) s1 s2)
    · rw [read_3 f hm' h c] at h3; exact ((sameC_iff _ _).1 h3).symm
    · rw [read_4 f hm' h c] at h3; exact ((sameC_iff _ _).1 h3).symm
  · subst h; rw [read_own hm']; exact ⟨rfl, hK, (sameC_iff _ _).2 rfl⟩
theorem apart_told (u X Y : List Bool) (a : Nat) (hlen : X.length = Y.length) (hs : ∀ i, i < a ∨ a + 24 ≤ i → X[i]? = Y[i]?) (hx : rem 0 (u ++ X) = 0) (hy : rem 0 (u ++ Y) = 0) : X = Y := by
  have h := crc_apart poly_odd poly_lt (u ++ X) (u ++ Y) (u.length + a) (by simp [hlen]) (fun i hi => by
    by_cases hiu : i < u.length
    · rw [List.getElem?_append_left hiu, List.getElem?_append_left hiu]
    · rw [List.getElem?_append_right (by omega), List.getElem?_append_right (by omega)]
      exact hs _ (by omega)) hx hy
  exact List.append_cancel_left h
theorem flips_window (X : List Bool) (a p K : Nat) (hp : p < 2 ^ 24) : ∀ i, i < a ∨ a + 24 ≤ i → (flips X (places a p K))[i]? = X[i]? := fun i hi => by
  refine flips_other _ _ _ fun z hz => ?_
  unfold places at hz
  obtain ⟨j, hj, rfl⟩ := List.mem_map.1 hz
  have hb := (List.mem_filter.1 hj).2
  have hj24 : j < 24 := by
    rcases Nat.lt_or_ge j 24 with h | h
    · exact h
    · have : p.testBit j = false := Nat.testBit_lt_two_pow (Nat.lt_of_lt_of_le hp (Nat.pow_le_pow_right (by omega) h))
      rw [this] at hb; cases hb
  rw [Int.toNat_natCast]
  omega
/-- A frame of which some bits are turned, within 24 bits: it is read by nobody who would not read it as an FrN of another state. -/
theorem burst_L {f : FR} (hm : mayF f = true) {X : List Bool} (a : Nat) (hlen : X.length = (bitsF f).length) (hs : ∀ i, i < a ∨ a + 24 ≤ i → X[i]? = (bitsF f)[i]?) (hne : X ≠ bitsF f) (c : CS) (hrd : (readL X c).1 = 0) : (readL X c).2.K = 2 ∧ c ≠ f.C := by
  have hm' := hm
  unfold mayF at hm
  simp only [decide_eq_true_eq] at hm
  obtain ⟨hK1, hK4, hC, hR0, hR4, hd8, hd, -⟩ := hm
  obtain ⟨j1, j2, j3, j4, j5⟩ := readL_zero hrd
  have hl := bitsF_length f ⟨hK1, hK4⟩ hd8 hd
  have hj := longF_cases j1
  rw [hlen] at hj
  unfold sizeF at hl
  rw [if_pos (by omega)] at hl
  rcases (show f.K = 1 ∨ f.K = 2 ∨ f.K = 3 ∨ f.K = 4 by omega) with h | h | h | h
  · rw [if_pos h, if_pos (show (f.ds.length : Int) = 0 by omega)] at hl
    have hk : kindL X = 1 := by omega
    rw [hk] at j3
    have s1 : rem 0 ([] ++ X) = 0 := by unfold sumsL at j3; rw [if_neg (by decide), if_neg (by decide)] at j3; simpa using j3
    have s2 : rem 0 ([] ++ bitsF f) = 0 := by rw [frame_1 f h]; exact sealB_sum _ _
    exact absurd (apart_told [] X _ a hlen hs s1 s2) hne
  · rw [if_neg (by omega), if_pos h] at hl
    have hk : kindL X = 2 := by omega
    refine ⟨by rw [j5, hk, told_2], fun hcc => ?_⟩
    subst hcc
    rw [hk] at j3
    have s1 : rem 0 (bitsOf f.C ++ X) = 0 := by unfold sumsL at j3; rw [if_pos rfl] at j3; simpa using j3
    have s2 : rem 0 (bitsOf f.C ++ bitsF f) = 0 := by rw [frame_2 f h]; exact sealB_sum _ _
    exact hne (apart_told _ X _ a hlen hs s1 s2)
  · rw [if_neg (by omega), if_neg (by omega), if_pos h, if_pos (show (f.ds.length : Int) = 0 by omega)] at hl
    have hk : kindL X = 3 := by omega
    rw [hk] at j3
    have s1 : rem 0 ([] ++ X) = 0 := by unfold sumsL at j3; rw [if_neg (by decide), if_neg (by decide)] at j3; simpa using j3
    have s2 : rem 0 ([] ++ bitsF f) = 0 := by rw [frame_3 f h]; exact sealB_sum _ _
    exact absurd (apart_told [] X _ a hlen hs s1 s2) hne
  · rw [if_neg (by omega), if_neg (by omega), if_neg (by omega), if_pos h] at hl
    have hk : kindL X = 4 := by omega
    rw [hk] at j3
    have s1 : rem 0 ([] ++ X.take 55) = 0 ∧ rem 0 (stateL 4 X ++ X) = 0 := by unfold sumsL at j3; rw [if_neg (by decide), if_pos rfl] at j3; simpa using j3
    have s2 : rem 0 ([] ++ (bitsF f).take 55) = 0 := by rw [bits_4' f h, List.take_left' (seal_4 f h)]; exact sealB_sum _ _
    have ht : X.take 55 = (bitsF f).take 55 := apart_told [] _ _ a (by rw [List.length_take, List.length_take, hlen]) (fun i hi => by
      by_cases h55 : i < 55
      · rw [List.getElem?_take_of_lt h55, List.getElem?_take_of_lt h55]; exact hs i hi
      · rw [List.getElem?_eq_none (by rw [List.length_take]; omega), List.getElem?_eq_none (by rw [List.length_take]; omega)]) s1.1 s2
    have hst : stateL 4 X = stateL 4 (bitsF f) := by
      have e : ∀ l : List Bool, stateL 4 l = ((l.take 55).drop 7).take 24 := fun l => by
        unfold stateL; rw [if_neg (by decide), List.drop_take, List.take_take, Nat.min_eq_left (by decide)]
      rw [e, e, ht]
    have s3 : rem 0 (stateL 4 (bitsF f) ++ bitsF f) = 0 := by
      have hr := read_4 f hm' h f.C
      have hr0 : (readL (bitsF f) f.C).1 = 0 := by rw [hr]
      obtain ⟨q1, q2, q3, -⟩ := readL_zero hr0
      have hk2 : kindL (bitsF f) = 4 := by unfold kindL; rw [bits_4 f h, take_num _ (by decide)]
      rw [hk2] at q3
      unfold sumsL at q3; rw [if_neg (by decide), if_pos rfl] at q3
      exact (by simpa using q3 : rem 0 ((bitsF f).take 55) = 0 ∧ rem 0 (stateL 4 (bitsF f) ++ bitsF f) = 0).2
    have s4 := s1.2
    rw [hst] at s4
    exact absurd (apart_told _ X _ a hlen hs s4 s3) hne
end Go.Proofs.YtcfbeelljhjnoaaDoor
