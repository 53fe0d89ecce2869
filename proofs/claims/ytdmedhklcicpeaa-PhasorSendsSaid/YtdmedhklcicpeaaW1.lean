/-
  Bits by two and two as samples (over no program), and the program's point and points. Conditions: bits that may be, of an even number.
-/
import Derived.Test.YtdmedhklcicpeaaV4
import Derived.Test.YtdmedhklcicpeaaE5
namespace Go.Proofs.Ytdmedhklcicpeaa
open Go.RowKit

theorem Byt.on {w w' : World} {A : Option Addr} {bs : List UInt8} (h : Byt w.heap.size w A bs) (hb : Below w.heap.size w w') : Byt w'.heap.size w' A bs := (h.below hb).mono hb.size
/-- Bits by two and two. -/
def pairsS (amp : Int) : List Bool → List Sp
  | [] => []
  | [a] => [twoS a false amp]
  | a :: b :: l => twoS a b amp :: pairsS amp l
theorem pairsS_length (amp : Int) : ∀ l : List Bool, (pairsS amp l).length = (l.length + 1) / 2
  | [] => rfl
  | [a] => by simp [pairsS]
  | a :: b :: l => by
    have := pairsS_length amp l
    simp only [pairsS, List.length_cons, this]; omega
/-- The pair at a place, the bits behind the end as 0. -/
theorem pairs_snoc (amp : Int) : ∀ (l : List Bool) (k : Nat), 2 * k < l.length → (pairsS amp l).take (k + 1) = (pairsS amp l).take k ++ [twoS (l[2 * k]?.getD false) (l[2 * k + 1]?.getD false) amp]
  | [], k, h => by simp at h
  | [a], 0, _ => rfl
  | [a], k + 1, h => by simp at h
  | a :: b :: l, 0, _ => rfl
  | a :: b :: l, k + 1, h => by
    have := pairs_snoc amp l k (by simp at h; omega)
    simp only [pairsS, List.take_succ_cons]
    rw [this]
    rfl
/-- A sample amp times. -/
def scale (amp : Int) (s : Sp) : Sp := (s.1 * amp, s.2 * amp)
theorem two_scale (a b : Bool) (amp : Int) : twoS a b amp = scale amp (twoS a b 1) := by
  cases a <;> cases b <;> simp [twoS, scale]
theorem pairs_scale (amp : Int) : ∀ l : List Bool, pairsS amp l = (pairsS 1 l).map (scale amp)
  | [] => rfl
  | [a] => by simp [pairsS, ← two_scale]
  | a :: b :: l => by simp [pairsS, ← two_scale, pairs_scale amp l]
theorem pairs_pad (amp : Int) : ∀ l : List Bool, pairsS amp (l ++ List.replicate (l.length % 2) false) = pairsS amp l
  | [] => rfl
  | [a] => rfl
  | a :: b :: l => by
    have := pairs_pad amp l
    simp only [List.cons_append, pairsS]
    rw [show (a :: b :: l).length % 2 = l.length % 2 by simp; omega, this]
/-- What Encode makes of bits. -/
def encL (l : List Bool) (amp : Int) : List Sp := (pre ++ pairsS 1 (numBits l.length 12) ++ pairsS 1 l).map (scale amp)
theorem encL_length (l : List Bool) (amp : Int) : (encL l amp).length = 14 + (l.length + 1) / 2 := by
  simp only [encL, List.length_map, List.length_append, pairsS_length, numBits_length]
  rfl
/-- Encode, by the document. -/
def encodeS (N : Int) (bs : List UInt8) (amp : Int) : Int × List Sp :=
  if goodB N bs = true then
    if 1 ≤ amp ∧ amp ≤ 65536 then
      if N ≤ 4095 then (0, encL (listOf N bs) amp) else (3, [])
    else (30, [])
  else (10, [])

/-- Two bits as a complex number. -/
def pv (a b : Bool) : Value := .complex .f64 (if b then 13830554455654793216 else 4607182418800017408) (if a then 13830554455654793216 else 4607182418800017408)
def pvs : List Bool → List Value
  | [] => []
  | [a] => [pv a false]
  | a :: b :: l => pv a b :: pvs l
theorem pvs_length : ∀ l : List Bool, (pvs l).length = (l.length + 1) / 2
  | [] => rfl
  | [a] => by simp [pvs]
  | a :: b :: l => by
    have := pvs_length l
    simp only [pvs, List.length_cons, this]; omega
theorem pvs_snoc : ∀ (l : List Bool) (k : Nat), 2 * k < l.length → (pvs l).take (k + 1) = (pvs l).take k ++ [pv (l[2 * k]?.getD false) (l[2 * k + 1]?.getD false)]
  | [], k, h => by simp at h
  | [a], 0, _ => rfl
  | [a], k + 1, h => by simp at h
  | a :: b :: l, 0, _ => rfl
  | a :: b :: l, k + 1, h => by
    have := pvs_snoc l k (by simp at h; omega)
    simp only [pvs, List.take_succ_cons]
    rw [this]
    rfl
theorem pv_isF (a b : Bool) : ∃ x y, pv a b = .complex .f64 x y ∧ IsF x (twoS a b 1).1 ∧ IsF y (twoS a b 1).2 := by
  cases a <;> cases b
  · exact ⟨_, _, rfl, isF_one, isF_one⟩
  · exact ⟨_, _, rfl, isF_minus, isF_one⟩
  · exact ⟨_, _, rfl, isF_one, isF_minus⟩
  · exact ⟨_, _, rfl, isF_minus, isF_minus⟩
theorem pvs_one (l : List Bool) : ∀ u ∈ pvs l, u.oneCell' = true := by
  induction l using pvs.induct with
  | case1 => intro u hu; simp [pvs] at hu
  | case2 a => intro u hu; simp [pvs] at hu; subst hu; rfl
  | case3 a b l ih =>
    intro u hu
    simp only [pvs, List.mem_cons] at hu
    rcases hu with rfl | hu
    · rfl
    · exact ih u hu
/-- Values as complex numbers with whole parts. -/
def VRow (vs : List Value) (l : List Sp) : Prop := vs.length = l.length ∧ ∀ j, j < l.length → ∃ a b, vs[j]? = some (.complex .f64 a b) ∧ IsF a (l[j]?.getD (0, 0)).1 ∧ IsF b (l[j]?.getD (0, 0)).2
theorem VRow.append {vs us : List Value} {l m : List Sp} (h : VRow vs l) (k : VRow us m) : VRow (vs ++ us) (l ++ m) := by
  refine ⟨by simp [h.1, k.1], fun j hj => ?_⟩
  by_cases hl : j < l.length
  · obtain ⟨a, b, e, f⟩ := h.2 j hl
    refine ⟨a, b, ?_, ?_⟩
    · rw [List.getElem?_append_left (by rw [h.1]; exact hl)]; exact e
    · rw [List.getElem?_append_left hl]; exact f
  · rw [List.length_append] at hj
    obtain ⟨a, b, e, f⟩ := k.2 (j - l.length) (by omega)
    refine ⟨a, b, ?_, ?_⟩
    · rw [List.getElem?_append_right (by rw [h.1]; omega), h.1]; exact e
    · rw [List.getElem?_append_right (by omega)]; exact f
theorem VRow.nil : VRow [] [] := ⟨rfl, fun j hj => by simp at hj⟩
theorem VRow.cons {v : Value} {s : Sp} {vs : List Value} {l : List Sp} (hv : ∃ x y, v = .complex .f64 x y ∧ IsF x s.1 ∧ IsF y s.2) (h : VRow vs l) : VRow (v :: vs) (s :: l) := by
  refine ⟨by simp [h.1], fun j hj => ?_⟩
  cases j with
  | zero => obtain ⟨x, y, rfl, h1, h2⟩ := hv; exact ⟨x, y, rfl, h1, h2⟩
  | succ j => exact h.2 j (by simpa using hj)
theorem pvs_row : ∀ l : List Bool, VRow (pvs l) (pairsS 1 l)
  | [] => VRow.nil
  | [a] => VRow.cons (pv_isF a false) VRow.nil
  | a :: b :: l => VRow.cons (pv_isF a b) (pvs_row l)
theorem preC_vrow : VRow preC.toList pre := ⟨rfl, fun j hj => by
  obtain ⟨a, b, e, f⟩ := preC_row j hj
  exact ⟨a, b, by rw [Array.getElem?_toList]; exact e, f⟩⟩
theorem pre_unit : ∀ s ∈ pre, s.1.natAbs ≤ 1 ∧ s.2.natAbs ≤ 1 := by decide
theorem pairs_unit (l : List Bool) : ∀ s ∈ pairsS 1 l, s.1.natAbs ≤ 1 ∧ s.2.natAbs ≤ 1 := by
  induction l using pvs.induct with
  | case1 => intro u hu; simp [pairsS] at hu
  | case2 a => intro u hu; simp [pairsS] at hu; subst hu; cases a <;> decide
  | case3 a b l ih =>
    intro u hu
    simp only [pairsS, List.mem_cons] at hu
    rcases hu with rfl | hu
    · cases a <;> cases b <;> decide
    · exact ih u hu

theorem two_num (l : List Bool) (k : Nat) (h : 2 * k + 2 ≤ l.length) : numOf ((l.drop (2 * k)).take 2) = 2 * (l[2 * k]?.getD false).toNat + (l[2 * k + 1]?.getD false).toNat := by
  have e : (l.drop (2 * k)).take 2 = [l[2 * k]?.getD false, l[2 * k + 1]?.getD false] := by
    rw [List.drop_eq_getElem_cons (by omega), List.take_succ_cons, List.drop_eq_getElem_cons (by omega), List.take_succ_cons, List.take_zero, List.getElem?_eq_getElem (by omega), List.getElem?_eq_getElem (by omega)]
    rfl
  rw [e]
  generalize l[2 * k]?.getD false = a
  generalize l[2 * k + 1]?.getD false = b
  cases a <;> cases b <;> rfl

set_option maxRecDepth 4000 in
set_option maxHeartbeats 400000 in
theorem point_any (a b : Bool) (w : World) : Calls Try.prog 68 #[.int .u64 ((2 * a.toNat + b.toNat : Nat) : Int)] w fun e w' => e = .returned (pv a b) ∧ w = w' := by
  cases a <;> cases b <;> unfold pv
  all_goals
    dsimp only [Bool.toNat_true, Bool.toNat_false]
    go_enter Try.func68, Try.ntmps68
    go_wp2
    go_ret
    exact ⟨rfl, rfl⟩

theorem cell_one_new (w : World) (x : Value) (t : TypeId) : ∀ j u, [x][j]? = some u → (w.alloc (.cells #[x] t)).cell? ((⟨w.heap.size, 0, none⟩ : Addr).add j) = some u := by
  intro j u hj
  match j, hj with
  | 0, hj => simp at hj; subst hj; simp [Addr.add]
  | j + 1, hj => simp at hj

set_option maxRecDepth 4000 in
set_option maxHeartbeats 1000000 in
theorem points_any (l : List Bool) (A : Option Addr) (n c : Nat) (bs : List UInt8) (w : World) (hn : n = bs.length) (hbs : IsBits l bs) (hl : l.length ≤ 4096) (hev : l.length % 2 = 0) (hA : Byt w.heap.size w A bs) :
    Calls Try.prog 37 #[.agg #[.int .i64 l.length, .slice A n c]] w fun e w' => ∃ v, e = .returned v ∧ w'.ownsRow w.heap.size 63 1 v (pvs l).length (pvs l) ∧ Below w.heap.size w w' := by
  have hgood := isBits_good hbs hl
  have hlo := isBits_listOf hbs
  have hm : n ≤ maxLen := by rw [hn]; exact bytes_small hbs hl
  have hget := fun (k : Nat) (W : World) (hB : Below w.heap.size w W) => get_any (l.length : Int) (2 * k : Nat) 2 A n c bs W hn hm (hA.on hB)
  have HG := Lib.hid hget
  obtain ⟨N, hN⟩ : ∃ N, N = l.length := ⟨_, rfl⟩
  have HN := Lib.hid hN
  have HGOOD := Lib.hid hgood; have HLO := Lib.hid hlo; have HEV := Lib.hid hev
  have hl2 : N ≤ 4096 := by omega
  rw [← hN]
  clear hget hgood hlo hev hA hbs hm hn hl hN
  obtain ⟨i0, hi, hz0, hz1, hz2⟩ := info_parts Try.infoC
  go_enter Try.func37, Try.ntmps37
  go_wp2
  have hBb : Below w.heap.size w (w.alloc (.cells #[.int .i64 (N : Int), .slice A n c] 24)) := (Below.refl _ _).alloc (Nat.le_refl _) _
  go_loopw [3, 4] (fun ov i wr => ∃ k : Nat, 2 * k ≤ N ∧ i = .int .i64 (2 * k : Nat) ∧ wr.ownsRow (w.heap.size + 1) 63 1 ov k ((pvs l).take k) ∧ Below w.heap.size w wr ∧ Blk wr w.heap.size 24 #[.int .i64 (N : Int), .slice A n c])
    (fun _ i _ => N + 1 - (intOf i).toNat)
  case atStart => exact ⟨0, by omega, rfl, World.ownsRow_nil _ _ _ _, hBb, Blk.new w _ _⟩
  case round =>
    obtain ⟨k, hk, rfl, hrow, hBr, hbox⟩ := hrel
    obtain ⟨i, hik⟩ : ∃ i, i = 2 * k := ⟨_, rfl⟩
    rw [← hik]
    have hwr := hbox.lt
    have hb2 := hbox.two
    obtain ⟨hb0, hb1⟩ := hb2
    by_cases hlt : i < N
    · have hi2 : 2 * k + 2 ≤ l.length := by have := HN.out; have := HEV.out; omega
      have hsn := pvs_snoc l k (by omega)
      have hnum := two_num l k hi2
      have hg := HG.out k wr hBr
      have hgs : getS (l.length : Int) bs (2 * k : Nat) 2 = (0, 2 * (l[2 * k]?.getD false).toNat + (l[2 * k + 1]?.getD false).toNat) := by
        unfold getS
        rw [if_pos HGOOD.out, if_pos (by omega), HLO.out]
        rw [← hnum]; rfl
      rw [hgs, ← hik, ← HN.out] at hg
      rw [← hik] at hsn
      generalize l[i]?.getD false = x at *
      generalize l[i + 1]?.getD false = y at *
      rw [← hik] at hnum
      have hpt := fun w1 => point_any x y w1
      obtain ⟨p, q, hpq⟩ : ∃ p q, pv x y = .complex .f64 p q := ⟨_, _, rfl⟩
      simp only [hpq] at hpt hsn
      have HP := Lib.hid hpt; have HG2 := Lib.hid hg; have HSN := Lib.hid hsn; have HIK := Lib.hid hik
      have hd0 : decide ((i : Int) < (N : Int)) = true := by simpa using hlt
      have hd1 : decide (i < N) = true := by simpa using hlt
      clear hpt hg hsn hgs hnum hi2 hik hpq
      go_wp2_with fail
      refine HG2.out.mono ?_
      rintro e w2 ⟨rfl, hB2⟩
      have hbox2 := hbox.below hB2 hwr
      obtain ⟨hc0, hc1⟩ := hbox2.two
      have hrow2 := own_on hrow hB2
      have hs2 := hB2.size
      have hw2 : w.heap.size < w2.heap.size := by omega
      go_wp2_with fail
      refine (HP.out _).mono ?_
      rintro e w3 ⟨rfl, rfl⟩
      go_wp2_with (at_builtin; refine wpList_append_own _ rfl _ _ 66 rfl (w.heap.size + 1) 63 i0 (.complex .f64 0 0) 1 16 Try.underlying66 hi hz0 hz1 hz2 rfl (by decide) u3 _ _ rfl (hrow2.alloc _) ⟨w2.heap.size, 0, none⟩ 1 1 [.complex .f64 p q] rfl rfl (cell_one_new _ _ _) (by simp [Value.oneCell']) (by unfold maxLen; omega) (by omega) (by simp; omega) ?_; intro v' w4 hown' hgrow _)
      go_roundw
      case rel =>
        have hg1 : ∀ m, u3.ownBlock = some m → w.heap.size + 1 ≤ m := fun m hm => by
          rcases hrow2.2 with ⟨h1, _⟩ | ⟨g, cap, cur, h1, hb, _⟩
          · rw [h1] at hm; cases hm
          · rw [h1] at hm; simp [Value.ownBlock] at hm; omega
        have hB3 : Below (w.heap.size + 1) wr w4 := ((hB2.mono (by omega)).alloc (by omega) _).grown hgrow (by simp; omega) hg1
        refine ⟨k + 1, by have := HIK.out; have := HN.out; have := HEV.out; omega, by have := HIK.out; congr 1; omega, ?_, hBr.trans (hB3.mono (by omega)), hbox.below hB3 (by omega)⟩
        rw [HSN.out]
        exact hown'
      case measure => have := HIK.out; simp [intOf]; omega
    · have hk2 : k = (pvs l).length := by rw [pvs_length]; have := HN.out; have := HEV.out; omega
      have htk : (pvs l).take k = pvs l := List.take_of_length_le (by omega)
      rw [htk, hk2] at hrow
      have HR := Lib.hid hrow
      have hd0 : decide ((i : Int) < (N : Int)) = false := by simpa using hlt
      have hd1 : decide (i < N) = false := by simpa using hlt
      clear hrow htk hk2 hik
      go_wp2
      go_ret
      exact ⟨u3, rfl, own_mono HR.out (by omega), hBr⟩
end Go.Proofs.Ytdmedhklcicpeaa
