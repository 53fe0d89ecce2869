/-
  A list is read of its bytes as it was, in plain Lean, over no program. Condition: a list that may be.
-/
import Derived.Test.YtnmaelefcohogaaDoorMa
namespace Go.Proofs.YtnmaelefcohogaaDoor
open Go.RowKit

theorem beB1 (n : Nat) : beB n 1 = [UInt8.ofNat n] := by
  unfold beB; simp [List.range_succ]
theorem beB4 (n : Nat) : beB n 4 = [UInt8.ofNat (n / 2 ^ 24), UInt8.ofNat (n / 2 ^ 16), UInt8.ofNat (n / 2 ^ 8), UInt8.ofNat n] := by
  unfold beB; simp [List.range_succ]
theorem byte_back (n : Nat) (h : n < 256) : (UInt8.ofNat n).toNat = n := by simp; omega
theorem num4_back (n : Nat) (h : n < 2 ^ 32) : numB [UInt8.ofNat (n / 2 ^ 24), UInt8.ofNat (n / 2 ^ 16), UInt8.ofNat (n / 2 ^ 8), UInt8.ofNat n] = n := by
  unfold numB
  simp only [List.foldl_cons, List.foldl_nil, UInt8.toNat_ofNat']
  omega
theorem set_back (l : List Bool) : bitsN (setN l) l.length = l := by
  apply List.ext_getElem?
  intro i
  rcases Nat.lt_or_ge i l.length with h | h
  · have key : ∀ (l : List Bool) (i : Nat) (h : i < l.length), (setN l).testBit i = l[i]'h := by
      intro l
      induction l with
      | nil => intro i h; simp at h
      | cons b l ih =>
        intro i h
        cases i with
        | zero =>
          show (b.toNat + 2 * setN l).testBit 0 = b
          rw [Nat.testBit_zero]
          cases b <;> simp <;> omega
        | succ i =>
          show (b.toNat + 2 * setN l).testBit (i + 1) = l[i]'(by simpa using h)
          rw [Nat.testBit_succ]
          have e : (b.toNat + 2 * setN l) / 2 = setN l := by cases b <;> simp <;> omega
          rw [e]
          exact ih i (by simpa using h)
    rw [List.getElem?_eq_getElem h]
    unfold bitsN
    simp [h, key l i h]
  · rw [List.getElem?_eq_none h, List.getElem?_eq_none (by rw [bitsN_length]; exact h)]
theorem nums_back (d : List Int) (h : ∀ v ∈ d, 0 ≤ v ∧ v ≤ 8) : numsB (dataB d) = d := by
  induction d with
  | nil => rfl
  | cons v d ih =>
    have e : dataB (v :: d) = beB v.toNat 1 ++ dataB d := rfl
    have hv := h v (List.mem_cons_self ..)
    rw [e, beB1]
    show ((UInt8.ofNat v.toNat).toNat : Int) :: numsB (dataB d) = v :: d
    rw [ih fun x hx => h x (List.mem_cons_of_mem _ hx), byte_back _ (by omega)]
    congr 1
    omega
theorem drop_modes (N : Nat) (y : List UInt8) (ms : List Md) (h : ∀ o ∈ ms, o.d.length = N) : ∀ (i : Nat) (o : Md), ms[i]? = some o → ∃ t, (ms.flatMap modeB ++ y).drop (i * (N + 2)) = modeB o ++ t := by
  induction ms with
  | nil => intro i o hi; simp at hi
  | cons a ms ih =>
    intro i o hi
    cases i with
    | zero =>
      obtain rfl : a = o := by simpa using hi
      exact ⟨ms.flatMap modeB ++ y, by simp⟩
    | succ i =>
      obtain ⟨t, ht⟩ := ih (fun x hx => h x (List.mem_cons_of_mem _ hx)) i o (by simpa using hi)
      refine ⟨t, ?_⟩
      have hl : (modeB a).length = N + 2 := by rw [modeB_length, h a (List.mem_cons_self ..)]
      rw [List.flatMap_cons, List.append_assoc, Nat.add_mul, Nat.one_mul, Nat.add_comm, ← List.drop_drop, ← hl, List.drop_left]
      rw [hl]; exact ht
theorem data_mem {d : List Int} (h : dataOk d = true) : ∀ v ∈ d, 0 ≤ v ∧ v ≤ 8 := fun v hv => by
  unfold dataOk at h
  rw [List.all_eq_true] at h
  simpa using h v hv
/-- A mode is read of its bytes. -/
theorem mode_back (bs : List UInt8) (N M J : Nat) (o : Md) (t : List UInt8) (hd : bs.drop J = modeB o ++ t) (h1 : o.d.length = N) (h2 : o.x.length = N) (h3 : o.n.length = M) (hN : N ≤ 8) (hM : M ≤ 8) (hok : dataOk o.d = true) : modeR bs N M J = o := by
  have hld : (dataB o.d).length = N := by rw [dataB_length, h1]
  have hm : modeB o ++ t = dataB o.d ++ (UInt8.ofNat (setN o.x) :: UInt8.ofNat (setN o.n) :: t) := by
    unfold modeB; rw [beB1, beB1]; simp
  have hx : setN o.x < 256 := Nat.lt_of_lt_of_le (setN_lt o.x) (by rw [h2]; exact Nat.pow_le_pow_right (by decide) hN)
  have hn : setN o.n < 256 := Nat.lt_of_lt_of_le (setN_lt o.n) (by rw [h3]; exact Nat.pow_le_pow_right (by decide) hM)
  have e1 : (bs.drop J).take N = dataB o.d := by rw [hd, hm, ← hld, List.take_left]
  have e2 : byteN bs (J + N) = setN o.x := by
    unfold byteN
    rw [← List.getElem?_drop, hd, hm, List.getElem?_append_right (by omega), hld, Nat.sub_self]
    exact byte_back _ hx
  have e3 : byteN bs (J + N + 1) = setN o.n := by
    unfold byteN
    rw [Nat.add_assoc, ← List.getElem?_drop, hd, hm, List.getElem?_append_right (by omega), hld, show N + 1 - N = 1 by omega]
    exact byte_back _ hn
  unfold modeR
  rw [e1, e2, e3, nums_back _ (data_mem hok)]
  have a1 := set_back o.x
  have a2 := set_back o.n
  rw [h2] at a1; rw [h3] at a2
  rw [a1, a2]
/-- A list is read of its bytes. -/
theorem read_back {m : ML} (h : okM m) : readM (bytesM m) = m ∧ isLen (bytesM m) = true := by
  have hlen := bodyB_length h
  have hmd := fun o (ho : o ∈ m.ms) => okM_mode h ho
  have hmx := maxAir_range m.N m.ms
  obtain ⟨c1, c2, c3, -, c5, c6, c7, c8, c9⟩ := h
  have hprod : 16 ≤ m.W := by
    have := (mul_small (N := m.N) (D := m.D) (by omega) c1.2 c5.1 c5.2).1
    have e : 16 * m.N * m.D = 16 * (m.N * m.D) := Int.mul_assoc _ _ _
    omega
  obtain ⟨N, S, G, W, D, L, cold, ms⟩ := m
  dsimp only at *
  obtain ⟨N, rfl⟩ := Int.eq_ofNat_of_zero_le (show 0 ≤ N by omega)
  obtain ⟨S, rfl⟩ := Int.eq_ofNat_of_zero_le (show 0 ≤ S by omega)
  obtain ⟨G, rfl⟩ := Int.eq_ofNat_of_zero_le (show 0 ≤ G by omega)
  obtain ⟨W, rfl⟩ := Int.eq_ofNat_of_zero_le (show 0 ≤ W by omega)
  obtain ⟨D, rfl⟩ := Int.eq_ofNat_of_zero_le c5.1
  obtain ⟨L, rfl⟩ := Int.eq_ofNat_of_zero_le c6.1
  have hcl : cold.length = N := by omega
  have hcs : setN cold < 256 := Nat.lt_of_lt_of_le (setN_lt cold) (by rw [hcl]; exact Nat.le_trans (Nat.pow_le_pow_right (show 2 > 0 by decide) (show N ≤ 8 by omega)) (by decide))
  obtain ⟨y, hy⟩ : ∃ y, y = beB (sumN (bodyB ⟨N, S, G, W, D, L, cold, ms⟩)) 3 := ⟨_, rfl⟩
  have hly : y.length = 3 := by rw [hy, beB_length]
  have hb : bytesM ⟨N, S, G, W, D, L, cold, ms⟩ = [UInt8.ofNat 77, UInt8.ofNat N, UInt8.ofNat ms.length, UInt8.ofNat (S / 2 ^ 24), UInt8.ofNat (S / 2 ^ 16), UInt8.ofNat (S / 2 ^ 8), UInt8.ofNat S,
      UInt8.ofNat (G / 2 ^ 24), UInt8.ofNat (G / 2 ^ 16), UInt8.ofNat (G / 2 ^ 8), UInt8.ofNat G, UInt8.ofNat (W / 2 ^ 24), UInt8.ofNat (W / 2 ^ 16), UInt8.ofNat (W / 2 ^ 8), UInt8.ofNat W, UInt8.ofNat D, UInt8.ofNat L, UInt8.ofNat (setN cold)] ++ (ms.flatMap modeB ++ y) := by
    unfold bytesM
    rw [← hy]
    unfold bodyB headB
    simp only [Int.toNat_natCast]
    rw [beB1, beB1, beB1, beB4, beB4, beB4, beB1, beB1, beB1]
    simp
  have hlb : (bytesM ⟨N, S, G, W, D, L, cold, ms⟩).length = 18 + ms.length * (N + 2) + 3 := by
    rw [show bytesM ⟨N, S, G, W, D, L, cold, ms⟩ = bodyB ⟨N, S, G, W, D, L, cold, ms⟩ ++ y by rw [hy]; rfl, List.length_append, hlen, hly]
    simp
  obtain ⟨bs, hbs⟩ : ∃ bs, bs = ([UInt8.ofNat 77, UInt8.ofNat N, UInt8.ofNat ms.length, UInt8.ofNat (S / 2 ^ 24), UInt8.ofNat (S / 2 ^ 16), UInt8.ofNat (S / 2 ^ 8), UInt8.ofNat S,
      UInt8.ofNat (G / 2 ^ 24), UInt8.ofNat (G / 2 ^ 16), UInt8.ofNat (G / 2 ^ 8), UInt8.ofNat G, UInt8.ofNat (W / 2 ^ 24), UInt8.ofNat (W / 2 ^ 16), UInt8.ofNat (W / 2 ^ 8), UInt8.ofNat W, UInt8.ofNat D, UInt8.ofNat L, UInt8.ofNat (setN cold)] ++ (ms.flatMap modeB ++ y)) := ⟨_, rfl⟩
  rw [hb, ← hbs] at hlb
  rw [hb, ← hbs]
  have b1 : byteN bs 1 = N := by rw [hbs]; exact byte_back N (by omega)
  have b2 : byteN bs 2 = ms.length := by rw [hbs]; exact byte_back ms.length (by omega)
  have b15 : byteN bs 15 = D := by rw [hbs]; exact byte_back D (by omega)
  have b16 : byteN bs 16 = L := by rw [hbs]; exact byte_back L (by omega)
  have b17 : byteN bs 17 = setN cold := by rw [hbs]; exact byte_back (setN cold) hcs
  have n3 : numAt bs 3 4 = S := by rw [hbs]; exact num4_back S (by omega)
  have n7 : numAt bs 7 4 = G := by rw [hbs]; exact num4_back G (by omega)
  have n11 : numAt bs 11 4 = W := by rw [hbs]; exact num4_back W (by omega)
  have hdr : ∀ k, bs.drop (18 + k) = (ms.flatMap modeB ++ y).drop k := fun k => by
    rw [hbs, List.drop_append, List.drop_of_length_le (by simp), List.nil_append]
    congr 1
    simp
  refine ⟨?_, ?_⟩
  · unfold readM
    rw [b1, b2, b15, b16, b17, n3, n7, n11]
    have e9 := set_back cold
    rw [hcl] at e9
    have em : modesR bs N ms.length ms.length = ms := by
      apply List.ext_getElem?
      intro i
      rcases Nat.lt_or_ge i ms.length with hi | hi
      · obtain ⟨o, ho⟩ : ∃ o, ms[i]? = some o := ⟨_, List.getElem?_eq_getElem hi⟩
        obtain ⟨q1, q2, q3, q4, -⟩ := hmd o (List.mem_of_getElem? ho)
        obtain ⟨t, ht⟩ := drop_modes N y ms (fun x hx => by have := (hmd x hx).1; omega) i o ho
        rw [ho]
        unfold modesR
        simp only [List.getElem?_map, List.getElem?_range hi, Option.map_some]
        congr 1
        exact mode_back _ N ms.length _ o t (by rw [← ht]; exact hdr _) (by omega) (by omega) q3 (by omega) (by omega) q4
      · rw [List.getElem?_eq_none hi, List.getElem?_eq_none (by rw [modesR_length]; exact hi)]
    rw [em, e9]
  · unfold isLen
    rw [b1, b2, hlb]
    simp
    omega
end Go.Proofs.YtnmaelefcohogaaDoor
