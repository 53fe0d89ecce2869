/-
  Plain facts about frames, over no program: a frame's bits are read as it, what is read has those bits, by whom they are found good, and that a burst is told. Conditions: those that each theorem names.
-/
import Derived.Test.YtcfbeelljhjnoaaDoorN0
namespace Go.Proofs.YtcfbeelljhjnoaaDoor

theorem num_of_bits {v W : Nat} (h : v < 2 ^ W) : numOf (numBits v W) = v := num_back v W (Nat.div_eq_of_lt h)
theorem part_num (a c : List Bool) {v W i : Nat} (ha : a.length = i) (h : v < 2 ^ W) : numOf (((a ++ (numBits v W ++ c)).drop i).take W) = v := by
  rw [part_app a _ c ha (numBits_length v W), num_of_bits h]
theorem take_num (c : List Bool) {v W : Nat} (h : v < 2 ^ W) : numOf ((numBits v W ++ c).take W) = v := by
  rw [List.take_left' (numBits_length v W), num_of_bits h]
theorem numBits_at (l : List Bool) (a W : Nat) (h : a + W ≤ l.length) : numBits (numOf ((l.drop a).take W)) W = (l.drop a).take W := by
  have h1 := numBits_numOf ((l.drop a).take W)
  rwa [List.length_take, List.length_drop, Nat.min_eq_left (by omega)] at h1
theorem drop_cut (l : List Bool) (a W : Nat) : l.drop a = (l.drop a).take W ++ l.drop (a + W) := by
  rw [← List.drop_drop, List.take_append_drop]
theorem of_sealed (u l : List Bool) (h24 : 24 ≤ l.length) (h : rem 0 (u ++ l) = 0) : l = sealB u (frontOf l) := by
  have h1 := (opened u l h24).2 h
  have h2 : numBits (numOf (lastOf l)) 24 = lastOf l := by
    have h3 := numBits_numOf (lastOf l)
    rwa [show (lastOf l).length = 24 by unfold lastOf; rw [List.length_drop]; omega] at h3
  unfold sealB
  rw [← h1, h2]
  exact (List.take_append_drop _ _).symm
theorem sealB_app (u X D : List Bool) : sealB u (X ++ D) = X ++ (D ++ numBits (rem 0 (u ++ (X ++ D))) 24) := by
  unfold sealB; rw [List.append_assoc]
theorem sealB_sum (u l : List Bool) : rem 0 (u ++ sealB u l) = 0 := sealed_sum u l

/-- A frame's bits as one row, by its Kind. -/
theorem bits_1 (f : FR) (h : f.K = 1) : bitsF f = numBits 0 2 ++ (numBits f.F.toNat 3 ++ (numBits f.C.T.toNat 8 ++ (numBits 0 3 ++ numBits (rem 0 (headL f)) 24))) := by
  unfold bitsF sealB; rw [if_pos h, List.nil_append]; unfold headL; rw [if_pos h]; simp only [List.append_assoc]
theorem bits_2 (f : FR) (h : f.K = 2) : bitsF f = numBits 1 2 ++ (numBits f.R.toNat 3 ++ (dataL f.ds ++ numBits (rem 0 (bitsOf f.C ++ (headL f ++ dataL f.ds))) 24)) := by
  unfold bitsF sealB; rw [if_neg (by omega), if_pos h]
  have e : headL f = numBits 1 2 ++ numBits f.R.toNat 3 := by unfold headL; rw [if_neg (by omega), if_pos h]
  rw [e]; simp only [List.append_assoc]
theorem bits_3 (f : FR) (h : f.K = 3) : bitsF f = numBits 2 2 ++ (numBits f.R.toNat 3 ++ (numBits 0 1 ++ (bitsOf f.C ++ numBits (rem 0 (headL f)) 24))) := by
  unfold bitsF sealB; rw [if_neg (by omega), if_neg (by omega), if_pos h, List.nil_append]
  have e : headL f = numBits 2 2 ++ (numBits f.R.toNat 3 ++ (numBits 0 1 ++ bitsOf f.C)) := by unfold headL; rw [if_neg (by omega), if_neg (by omega), if_pos h]
  rw [e]; simp only [List.append_assoc]
theorem headL_4 (f : FR) (h : f.K = 4) : headL f = numBits 3 2 ++ (numBits f.R.toNat 3 ++ (numBits 0 2 ++ bitsOf f.C)) := by
  unfold headL; rw [if_neg (by omega), if_neg (by omega), if_neg (by omega)]
theorem bits_4' (f : FR) (h : f.K = 4) : bitsF f = sealB [] (headL f) ++ (dataL f.ds ++ numBits (rem 0 (bitsOf f.C ++ (sealB [] (headL f) ++ dataL f.ds))) 24) := by
  unfold bitsF; rw [if_neg (by omega), if_neg (by omega), if_neg (by omega)]
  exact sealB_app _ _ _
theorem bits_4 (f : FR) (h : f.K = 4) : bitsF f = numBits 3 2 ++ (numBits f.R.toNat 3 ++ (numBits 0 2 ++ (bitsOf f.C ++ (numBits (rem 0 (headL f)) 24 ++ (dataL f.ds ++ numBits (rem 0 (bitsOf f.C ++ (sealB [] (headL f) ++ dataL f.ds))) 24))))) := by
  rw [bits_4' f h]
  conv => lhs; arg 1; unfold sealB; rw [headL_4 f h]
  rw [headL_4 f h]; simp only [List.append_assoc, List.nil_append]
theorem seal_4 (f : FR) (h : f.K = 4) : (sealB [] (headL f)).length = 55 := by
  rw [sealB_length, headL_4 f h]; simp [numBits_length, bitsOf_length]
theorem bitsF_length (f : FR) (h : 1 ≤ f.K ∧ f.K ≤ 4) (hd : f.ds.length ≤ 8) (h0 : f.ds.length = 0 ∨ f.K = 2 ∨ f.K = 4) : ((bitsF f).length : Int) = sizeF f.K f.ds.length := by
  unfold sizeF
  rw [if_pos (by omega)]
  rcases (show f.K = 1 ∨ f.K = 2 ∨ f.K = 3 ∨ f.K = 4 by omega) with h1 | h1 | h1 | h1
  · rw [bits_1 f h1, h1, if_pos rfl, if_pos (show (f.ds.length : Int) = 0 by omega)]; simp [numBits_length]
  · rw [bits_2 f h1, h1]; simp [numBits_length, dataL_length]; omega
  · have hz : f.ds = [] := List.eq_nil_of_length_eq_zero (by omega)
    rw [bits_3 f h1, h1, hz]; simp [numBits_length, bitsOf_length]
  · rw [bits_4 f h1, h1]; simp [numBits_length, bitsOf_length, dataL_length]; omega
theorem mayC_T {c : CS} {n : Int} (h : mayC c n = true) : 0 ≤ c.T ∧ c.T ≤ 255 := by
  unfold mayC at h; simp only [decide_eq_true_eq] at h; omega
/-- A frame's bits are read as it. -/
theorem read_1 (f : FR) (hm : mayF f = true) (h : f.K = 1) (c : CS) : readL (bitsF f) c = (0, f) := by
  have hm' := hm
  unfold mayF at hm
  simp only [decide_eq_true_eq] at hm
  obtain ⟨hK1, hK4, hC, hR0, hR4, hd8, hd, h1, h2⟩ := hm
  have hT := mayC_T hC
  have hl := bitsF_length f ⟨hK1, hK4⟩ hd8 hd
  have hds : f.ds = [] := List.eq_nil_of_length_eq_zero (by omega)
  have hl40 : (bitsF f).length = 40 := by rw [h, hds] at hl; simp [sizeF] at hl; omega
  obtain ⟨hR, hF0, hF8, hP, hMo, hNx, hMe⟩ : f.R = 0 ∧ 0 ≤ f.F ∧ f.F < 8 ∧ f.C.P = 0 ∧ f.C.Mo = 0 ∧ f.C.Nx = 0 ∧ f.C.Me = 0 := by
    rcases h1 with h1 | h1
    · exact absurd h h1
    · exact h1
  have e := bits_1 f h
  have e2 : bitsF f = (numBits 0 2) ++ (numBits f.F.toNat 3 ++ (numBits f.C.T.toNat 8 ++ (numBits 0 3 ++ numBits (rem 0 (headL f)) 24))) := e
  have e3 : bitsF f = (numBits 0 2 ++ numBits f.F.toNat 3) ++ (numBits f.C.T.toNat 8 ++ (numBits 0 3 ++ numBits (rem 0 (headL f)) 24)) := by rw [e]; simp only [List.append_assoc]
  have e4 : bitsF f = (numBits 0 2 ++ numBits f.F.toNat 3 ++ numBits f.C.T.toNat 8) ++ (numBits 0 3 ++ numBits (rem 0 (headL f)) 24) := by rw [e]; simp only [List.append_assoc]
  have k : kindL (bitsF f) = 1 := by unfold kindL; rw [e, take_num _ (by decide)]
  have z : numOf (((bitsF f).drop 13).take 3) = 0 := by rw [e4]; exact part_num _ _ (by simp [numBits_length]) (by decide)
  have x : numOf (((bitsF f).drop 2).take 3) = f.F.toNat := by rw [e2]; exact part_num _ _ (by simp [numBits_length]) (by omega)
  have y : numOf (((bitsF f).drop 5).take 8) = f.C.T.toNat := by rw [e3]; exact part_num _ _ (by simp [numBits_length]) (by omega)
  have s : rem 0 (bitsF f) = 0 := by
    have := sealB_sum [] (headL f)
    rw [List.nil_append] at this
    unfold bitsF; rw [if_pos h]; exact this
  have t : toldF 1 (bitsF f) c = f := by
    unfold toldF
    rw [if_pos rfl, x, y, Int.toNat_of_nonneg hF0, Int.toNat_of_nonneg hT.1]
    obtain ⟨K, R, ⟨T, P, Mo, Nx, Me⟩, F, ds⟩ := f
    simp only at h hR hP hMo hNx hMe hds
    subst h hR hP hMo hNx hMe hds
    rfl
  unfold readL
  rw [k, hl40, if_pos ⟨rfl, by unfold zeroL; rw [if_pos rfl, z]; rfl⟩, if_pos (by unfold sumsL; rw [if_neg (by decide), if_neg (by decide), s]; rfl), t, if_pos hm']
theorem read_2 (f : FR) (hm : mayF f = true) (h : f.K = 2) : readL (bitsF f) f.C = (0, f) := by
  have hm' := hm
  unfold mayF at hm
  simp only [decide_eq_true_eq] at hm
  obtain ⟨hK1, hK4, hC, hR0, hR4, hd8, hd, h1, h2⟩ := hm
  have hl := bitsF_length f ⟨hK1, hK4⟩ hd8 hd
  have hl' : (bitsF f).length = 29 + 8 * f.ds.length := by rw [h] at hl; unfold sizeF at hl; rw [if_pos (by omega)] at hl; simp at hl; omega
  have e := bits_2 f h
  have e2 : bitsF f = (numBits 1 2 ++ numBits f.R.toNat 3) ++ (dataL f.ds ++ numBits (rem 0 (bitsOf f.C ++ (headL f ++ dataL f.ds))) 24) := by rw [e]; simp only [List.append_assoc]
  have k : kindL (bitsF f) = 2 := by unfold kindL; rw [e, take_num _ (by decide)]
  have x : numOf (((bitsF f).drop 2).take 3) = f.R.toNat := by rw [e]; exact part_num _ _ (by simp [numBits_length]) (by omega)
  have y : ((bitsF f).drop 5).take ((bitsF f).length - 29) = dataL f.ds := by
    rw [hl', e2]; exact part_app _ _ _ (by simp [numBits_length]) (by rw [dataL_length]; omega)
  have s : rem 0 (bitsOf f.C ++ bitsF f) = 0 := by
    have := sealB_sum (bitsOf f.C) (headL f ++ dataL f.ds)
    unfold bitsF; rw [if_neg (by omega), if_pos h]; exact this
  have t : toldF 2 (bitsF f) f.C = f := by
    unfold toldF
    rw [if_neg (by decide), if_pos rfl, x, y, bytes_data, Int.toNat_of_nonneg hR0]
    obtain ⟨K, R, C, F, ds⟩ := f
    simp only at h h2
    have hF : F = 0 := by rcases h2 with h2 | h2 <;> omega
    subst h hF
    rfl
  unfold readL
  rw [k, if_pos ⟨by unfold longF; rw [hl']; simp; omega, rfl⟩, if_pos (by unfold sumsL; rw [if_pos rfl, s]; rfl), t, if_pos hm']
theorem read_3 (f : FR) (hm : mayF f = true) (h : f.K = 3) (c : CS) : readL (bitsF f) c = (0, f) := by
  have hm' := hm
  unfold mayF at hm
  simp only [decide_eq_true_eq] at hm
  obtain ⟨hK1, hK4, hC, hR0, hR4, hd8, hd, h1, h2⟩ := hm
  have hl := bitsF_length f ⟨hK1, hK4⟩ hd8 hd
  have hds : f.ds = [] := List.eq_nil_of_length_eq_zero (by omega)
  have hl' : (bitsF f).length = 54 := by rw [h, hds] at hl; simp [sizeF] at hl; omega
  have e := bits_3 f h
  have e2 : bitsF f = (numBits 2 2 ++ numBits f.R.toNat 3) ++ (numBits 0 1 ++ (bitsOf f.C ++ numBits (rem 0 (headL f)) 24)) := by rw [e]; simp only [List.append_assoc]
  have e3 : bitsF f = (numBits 2 2 ++ numBits f.R.toNat 3 ++ numBits 0 1) ++ (bitsOf f.C ++ numBits (rem 0 (headL f)) 24) := by rw [e]; simp only [List.append_assoc]
  have k : kindL (bitsF f) = 3 := by unfold kindL; rw [e, take_num _ (by decide)]
  have x : numOf (((bitsF f).drop 2).take 3) = f.R.toNat := by rw [e]; exact part_num _ _ (by simp [numBits_length]) (by omega)
  have z : numOf (((bitsF f).drop 5).take 1) = 0 := by rw [e2]; exact part_num _ _ (by simp [numBits_length]) (by decide)
  have y : stateL 3 (bitsF f) = bitsOf f.C := by
    unfold stateL; rw [if_pos rfl, e3]; exact part_app _ _ _ (by simp [numBits_length]) (bitsOf_length _)
  have s : rem 0 (bitsF f) = 0 := by
    have := sealB_sum [] (headL f)
    rw [List.nil_append] at this
    unfold bitsF; rw [if_neg (by omega), if_neg (by omega), if_pos h]; exact this
  have t : toldF 3 (bitsF f) c = f := by
    unfold toldF
    rw [if_neg (by decide), if_neg (by decide), if_pos rfl, x, y, fields_bits hC, Int.toNat_of_nonneg hR0]
    obtain ⟨K, R, C, F, ds⟩ := f
    simp only at h h2 hds
    have hF : F = 0 := by rcases h2 with h2 | h2 <;> omega
    subst h hF hds
    rfl
  unfold readL
  rw [k, hl', if_pos ⟨rfl, by unfold zeroL; rw [if_neg (by decide), if_pos rfl, z]; rfl⟩, if_pos (by unfold sumsL; rw [if_neg (by decide), if_neg (by decide), s]; rfl), t, if_pos hm']
theorem read_4 (f : FR) (hm : mayF f = true) (h : f.K = 4) (c : CS) : readL (bitsF f) c = (0, f) := by
  have hm' := hm
  unfold mayF at hm
  simp only [decide_eq_true_eq] at hm
  obtain ⟨hK1, hK4, hC, hR0, hR4, hd8, hd, h1, h2⟩ := hm
  have hl := bitsF_length f ⟨hK1, hK4⟩ hd8 hd
  have hl' : (bitsF f).length = 79 + 8 * f.ds.length := by rw [h] at hl; unfold sizeF at hl; rw [if_pos (by omega)] at hl; simp at hl; omega
  have e := bits_4 f h
  have e2 : bitsF f = (numBits 3 2 ++ numBits f.R.toNat 3) ++ (numBits 0 2 ++ (bitsOf f.C ++ (numBits (rem 0 (headL f)) 24 ++ (dataL f.ds ++ numBits (rem 0 (bitsOf f.C ++ (sealB [] (headL f) ++ dataL f.ds))) 24)))) := by rw [e]; simp only [List.append_assoc]
  have e3 : bitsF f = (numBits 3 2 ++ numBits f.R.toNat 3 ++ numBits 0 2) ++ (bitsOf f.C ++ (numBits (rem 0 (headL f)) 24 ++ (dataL f.ds ++ numBits (rem 0 (bitsOf f.C ++ (sealB [] (headL f) ++ dataL f.ds))) 24))) := by rw [e]; simp only [List.append_assoc]
  have k : kindL (bitsF f) = 4 := by unfold kindL; rw [e, take_num _ (by decide)]
  have x : numOf (((bitsF f).drop 2).take 3) = f.R.toNat := by rw [e]; exact part_num _ _ (by simp [numBits_length]) (by omega)
  have z : numOf (((bitsF f).drop 5).take 2) = 0 := by rw [e2]; exact part_num _ _ (by simp [numBits_length]) (by decide)
  have y : stateL 4 (bitsF f) = bitsOf f.C := by
    unfold stateL; rw [if_neg (by decide), e3]; exact part_app _ _ _ (by simp [numBits_length]) (bitsOf_length _)
  have v : ((bitsF f).drop 55).take ((bitsF f).length - 79) = dataL f.ds := by
    rw [hl', bits_4' f h]; exact part_app _ _ _ (seal_4 f h) (by rw [dataL_length]; omega)
  have s1 : rem 0 ((bitsF f).take 55) = 0 := by
    rw [bits_4' f h, List.take_left' (seal_4 f h)]
    have := sealB_sum [] (headL f)
    rwa [List.nil_append] at this
  have s2 : rem 0 (stateL 4 (bitsF f) ++ bitsF f) = 0 := by
    rw [y]
    have := sealB_sum (bitsOf f.C) (sealB [] (headL f) ++ dataL f.ds)
    unfold bitsF; rw [if_neg (by omega), if_neg (by omega), if_neg (by omega)]; exact this
  have t : toldF 4 (bitsF f) c = f := by
    unfold toldF
    rw [if_neg (by decide), if_neg (by decide), if_neg (by decide), x, y, v, bytes_data, fields_bits hC, Int.toNat_of_nonneg hR0]
    obtain ⟨K, R, C, F, ds⟩ := f
    simp only at h h2
    have hF : F = 0 := by rcases h2 with h2 | h2 <;> omega
    subst h hF
    rfl
  unfold readL
  rw [k, if_pos ⟨by unfold longF; rw [hl']; simp; omega, by unfold zeroL; rw [if_neg (by decide), if_neg (by decide), if_pos rfl, z]; rfl⟩, if_pos (by unfold sumsL; rw [if_neg (by decide), if_pos rfl, s1, s2]; rfl), t, if_pos hm']
end Go.Proofs.YtcfbeelljhjnoaaDoor
