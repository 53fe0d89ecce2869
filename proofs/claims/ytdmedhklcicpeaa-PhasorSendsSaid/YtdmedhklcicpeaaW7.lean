/-
  PhasorTurns returns true and leaves all memory that was there as it was, for all samples, quarters and places. Condition: samples that can be read.
-/
import Derived.Test.YtdmedhklcicpeaaW6
namespace Go.Proofs.Ytdmedhklcicpeaa
open Go.RowKit

theorem turn1_add (s : Sp) (a b : Int) : turn1 (turn1 s a) b = turn1 s (a + b) := by
  obtain ⟨x, y⟩ := s
  have ha : a % 4 = 0 ∨ a % 4 = 1 ∨ a % 4 = 2 ∨ a % 4 = 3 := by omega
  have hb : b % 4 = 0 ∨ b % 4 = 1 ∨ b % 4 = 2 ∨ b % 4 = 3 := by omega
  unfold turn1
  rcases ha with h | h | h | h <;> rcases hb with k | k | k | k <;> rw [h, k]
  · rw [show (a + b) % 4 = 0 by omega]; rfl
  · rw [show (a + b) % 4 = 1 by omega]; rfl
  · rw [show (a + b) % 4 = 2 by omega]; rfl
  · rw [show (a + b) % 4 = 3 by omega]; rfl
  · rw [show (a + b) % 4 = 1 by omega]; rfl
  · rw [show (a + b) % 4 = 2 by omega]; rfl
  · rw [show (a + b) % 4 = 3 by omega]; simp
  · rw [show (a + b) % 4 = 0 by omega]; simp
  · rw [show (a + b) % 4 = 2 by omega]; rfl
  · rw [show (a + b) % 4 = 3 by omega]; simp
  · rw [show (a + b) % 4 = 0 by omega]; simp
  · rw [show (a + b) % 4 = 1 by omega]; simp
  · rw [show (a + b) % 4 = 3 by omega]; rfl
  · rw [show (a + b) % 4 = 0 by omega]; simp
  · rw [show (a + b) % 4 = 1 by omega]; simp
  · rw [show (a + b) % 4 = 2 by omega]; rfl
theorem turn1_four (s : Sp) : turn1 s 4 = s := rfl
theorem turn1_zero (q : Int) : turn1 (0, 0) q = (0, 0) := by
  unfold turn1
  split
  · rfl
  · split
    · rfl
    · split <;> rfl
theorem turn_get (l : List Sp) (q : Int) (k : Nat) : (l.map (turn1 · q))[k]?.getD (0, 0) = turn1 (l[k]?.getD (0, 0)) q := by
  rw [List.getElem?_map]
  cases l[k]? with
  | none => simp [turn1_zero]
  | some s => rfl
theorem corr_turn (l : List Sp) (q : Int) : ∀ k, corrS (l.map (turn1 · q)) k = ((turn1 ((corrS l k).1, (corrS l k).2.1) q).1, (turn1 ((corrS l k).1, (corrS l k).2.1) q).2, (corrS l k).2.2)
  | 0 => by simp [corrS, turn1_zero]
  | k + 1 => by
    unfold corrS
    rw [corr_turn l q k, turn_get]
    unfold accS
    generalize corrS l k = c
    generalize l[k]?.getD (0, 0) = s
    generalize pre[k]?.getD (0, 0) = p
    obtain ⟨c1, c2, c3⟩ := c
    obtain ⟨x, y⟩ := s
    obtain ⟨p1, p2⟩ := p
    have hq : q % 4 = 0 ∨ q % 4 = 1 ∨ q % 4 = 2 ∨ q % 4 = 3 := by omega
    unfold turn1
    dsimp only
    rcases hq with h | h | h | h <;> rw [h] <;> simp [Int.neg_mul, Int.mul_neg] <;> omega
theorem turn_all {l : List Sp} (h : l.all mayS = true) (q : Int) : (l.map (turn1 · q)).all mayS = true := by
  rw [List.all_map, List.all_eq_true]
  intro s hs
  exact turn1_may (List.all_eq_true.1 h s hs) q
theorem turn_sq (x y q : Int) : (turn1 (x, y) q).1 * (turn1 (x, y) q).1 + (turn1 (x, y) q).2 * (turn1 (x, y) q).2 = x * x + y * y := by
  unfold turn1
  split
  · dsimp only; rw [Int.neg_mul_neg]; omega
  · split
    · dsimp only; rw [Int.neg_mul_neg, Int.neg_mul_neg]
    · split
      · dsimp only; rw [Int.neg_mul_neg]; omega
      · rfl
theorem match_turn {l : List Sp} (h : l.all mayS = true) (q at_ : Int) : (matchS (l.map (turn1 · q)) at_).2 = (matchS l at_).2 := by
  unfold matchS
  have h8 : ((l.drop at_.toNat).take 8).all mayS = true := by
    rw [List.all_eq_true] at h ⊢
    exact fun s hs => h s (List.mem_of_mem_drop (List.mem_of_mem_take hs))
  have e8 : ((l.map (turn1 · q)).drop at_.toNat).take 8 = ((l.drop at_.toNat).take 8).map (turn1 · q) := by rw [List.map_take, List.map_drop]
  rw [e8, turn_all h8 q, h8, List.length_map]
  by_cases hc : at_ < 0 ∨ (l.length : Int) - 8 < at_
  · rw [if_pos (by rcases hc with h | h <;> simp [h]), if_pos (by rcases hc with h | h <;> simp [h])]
  · have hc' : ¬ (at_ < 0 ∨ (l.length : Int) - 8 < at_ ∨ true = false) := by simp; omega
    rw [if_neg hc', if_neg hc']
    dsimp only
    rw [corr_turn]
    dsimp only
    rw [turn_sq]

set_option maxRecDepth 8000 in
set_option maxHeartbeats 4000000 in
theorem turns_law (A : Option Addr) (n c : Nat) (l : List Sp) (a b at_ : Int) (w : World) (hn : n = l.length) (hm : n ≤ maxLen) (hcap : n ≤ c) (hA : Smps w.heap.size w A l) (ha0 : -128 ≤ a) (ha1 : a ≤ 127) (hb0 : -128 ≤ b) (hb1 : b ≤ 127) :
    Calls Try.prog 9 #[.slice A n c, .int .i8 a, .int .i8 b, .int .i64 at_] w fun e w' => e = .returned (.bool true) ∧ Below w.heap.size w w' := by
  have HBG := Lib.hid begun_any
  have HFW := Lib.hid (fun w1 => few_s A n c w1 hm)
  have HN := Lib.hid hn; have HA := Lib.hid hA
  clear hn hA hm
  have hwa : IntKind.i64.wrap a = a := IntWalk.i64_in _ (by omega)
  have hwb : IntKind.i64.wrap b = b := IntWalk.i64_in _ (by omega)
  have hwab : IntKind.i64.wrap (a + b) = a + b := IntWalk.i64_in _ (by omega)
  go_enter Try.func9, Try.ntmps9
  go_wp2_with fail
  refine (HBG.out _).mono ?_
  rintro e w1 ⟨rfl, b1⟩
  go_wp2_with fail
  refine (HFW.out _).mono ?_
  rintro e w2 ⟨rfl, rfl⟩
  have b2 := b1.alloc b1.size (.cells #[.slice A n c] 25)
  by_cases h5 : n ≤ 5000
  · have hd : decide (n ≤ 5000) = true := by simpa using h5
    rw [hd]
    have ht1 := fun w1 (h : Below w.heap.size w w1) => turn_s A n c l a w1 HN.out (by omega) (HA.out.on h)
    by_cases hall : l.all mayS = true
    · have et : ∀ q, turnS l q = (0, l.map (turn1 · q)) := fun q => by unfold turnS; rw [if_pos hall]
      have ht3 := fun w1 (h : Below w.heap.size w w1) => turn_s A n c l (a + b) w1 HN.out (by omega) (HA.out.on h)
      have ht4 := fun w1 (h : Below w.heap.size w w1) => turn_s A n c l 4 w1 HN.out (by omega) (HA.out.on h)
      rw [et] at ht1 ht3 ht4
      have e4 : l.map (turn1 · 4) = l := by simp [turn1_four]
      rw [e4] at ht4
      have hma := fun w1 (h : Below w.heap.size w w1) => match_any A n c l at_ w1 HN.out (by omega) hcap (HA.out.on h)
      have hmt := match_turn hall a at_
      have et2 : turnS (l.map (turn1 · a)) b = (0, l.map (turn1 · (a + b))) := by
        unfold turnS
        rw [if_pos (turn_all hall a), List.map_map]
        congr 2
        funext s
        exact turn1_add s a b
      have hl1 : (l.map (turn1 · a)).length = l.length := List.length_map _
      have hl3 : (l.map (turn1 · (a + b))).length = l.length := List.length_map _
      have ht2 := fun B m d w1 (hm1 : m = l.length) (h : Smps w1.heap.size w1 B (l.map (turn1 · a))) => turn_s B m d (l.map (turn1 · a)) b w1 (hm1.trans hl1.symm) (by have := HN.out; omega) h
      rw [et2] at ht2
      have hma2 := fun B m d w1 (hm1 : m = l.length) (hmd : m ≤ d) (h : Smps w1.heap.size w1 B (l.map (turn1 · a))) => match_any B m d (l.map (turn1 · a)) at_ w1 (hm1.trans hl1.symm) (by have := HN.out; omega) hmd h
      have hsm := fun B C d d' w1 (h : Smps w1.heap.size w1 B (l.map (turn1 · (a + b)))) (h' : Smps w1.heap.size w1 C (l.map (turn1 · (a + b)))) => rsames_yes B C n d d' (l.map (turn1 · (a + b))) w1 (HN.out.trans hl3.symm) (by unfold maxLen; omega) h h'
      have hsm2 := fun B d d' w1 (h : Smps w1.heap.size w1 B l) (h' : Smps w1.heap.size w1 A l) => rsames_yes B A n d d' l w1 HN.out (by unfold maxLen; omega) h h'
      generalize l.map (turn1 · a) = la at *
      generalize l.map (turn1 · (a + b)) = lab at *
      generalize matchS la at_ = m2 at *
      generalize matchS l at_ = m1 at *
      obtain ⟨⟨mI, mQ⟩, mn, mb⟩ := m1
      obtain ⟨⟨nI, nQ⟩, nn, nb⟩ := m2
      dsimp only at hmt
      injection hmt with hmt1 hmt2
      subst hmt1; subst hmt2
      dsimp only at hma hma2
      have HT1 := Lib.hid ht1; have HT2 := Lib.hid ht2; have HT3 := Lib.hid ht3; have HT4 := Lib.hid ht4; have HMA := Lib.hid hma; have HMA2 := Lib.hid hma2
      have HSM := Lib.hid hsm; have HSM2 := Lib.hid hsm2; have HL1 := Lib.hid hl1; have HL3 := Lib.hid hl3
      clear ht1 ht2 ht3 ht4 hma hma2 hsm hsm2 hl1 hl3 et et2 e4 hall
      go_wp2_with fail
      refine (HT1.out _ b2).mono ?_
      rintro e w3 ⟨X, xn, xc, rfl, hxn, hxc, hX, hB3, _⟩
      dsimp only at hxn hX
      obtain rfl : xn = n := by rw [hxn, HL1.out, ← HN.out]
      have b3 := b2.trans (hB3.mono b2.size)
      have HX := Lib.hid hX; clear hX hxn
      dsimp only
      go_wp2_with fail
      refine (HT2.out X _ xc _ HN.out HX.out).mono ?_
      rintro e w4 ⟨Y, yn, yc, rfl, hyn, _, hY, hB4, _⟩
      dsimp only at hyn hY
      obtain rfl : yn = xn := by rw [hyn, HL3.out, ← HN.out]
      have b4 := b3.trans (hB4.mono b3.size)
      have HX4 := Lib.hid (HX.out.on hB4); have HY := Lib.hid hY; clear hY hyn
      dsimp only
      go_wp2_with fail
      refine (HT3.out _ b4).mono ?_
      rintro e w5 ⟨Z, zn, zc, rfl, hzn, _, hZ, hB5, _⟩
      dsimp only at hzn hZ
      obtain rfl : zn = yn := by rw [hzn, HL3.out, ← HN.out]
      have b5 := b4.trans (hB5.mono b4.size)
      have HX5 := Lib.hid (HX4.out.on hB5); have HY5 := Lib.hid (HY.out.on hB5); have HZ := Lib.hid hZ; clear hZ hzn
      dsimp only
      go_wp2_with fail
      refine (HT4.out _ b5).mono ?_
      rintro e w6 ⟨V, vn, vc, rfl, hvn, _, hV, hB6, _⟩
      dsimp only at hvn hV
      obtain rfl : vn = zn := by rw [hvn, ← HN.out]
      have b6 := b5.trans (hB6.mono b5.size)
      have HX6 := Lib.hid (HX5.out.on hB6); have HY6 := Lib.hid (HY5.out.on hB6); have HZ6 := Lib.hid (HZ.out.on hB6); have HV := Lib.hid hV; clear hV hvn
      dsimp only
      go_wp2_with fail
      refine (HMA.out _ b6).mono ?_
      rintro e w7 ⟨rfl, hB7⟩
      have hB7' := hB7.alloc hB7.size (.cells #[.int .i64 mI, .int .i64 mQ] 38)
      have b7 := b6.trans (hB7'.mono b6.size)
      have HX7 := Lib.hid (HX6.out.on hB7'); have HY7 := Lib.hid (HY6.out.on hB7'); have HZ7 := Lib.hid (HZ6.out.on hB7'); have HV7 := Lib.hid (HV.out.on hB7')
      go_wp2_with fail
      refine (HMA2.out X _ xc _ HN.out hxc HX7.out).mono ?_
      rintro e w8 ⟨rfl, hB8⟩
      have hB8' := hB8.alloc hB8.size (.cells #[.int .i64 nI, .int .i64 nQ] 38)
      have b8 := b7.trans (hB8'.mono b7.size)
      have HY8 := Lib.hid (HY7.out.on hB8'); have HZ8 := Lib.hid (HZ7.out.on hB8'); have HV8 := Lib.hid (HV7.out.on hB8')
      go_wp2_with fail
      refine (HSM.out Y Z yc zc _ HY8.out HZ8.out).mono ?_
      rintro e w9 ⟨rfl, hB9⟩
      have b9 := b8.trans (hB9.mono b8.size)
      have HV9 := Lib.hid (HV8.out.on hB9)
      go_wp2_with fail
      refine (HSM2.out V vc c _ HV9.out (HA.out.on b9)).mono ?_
      rintro e w10 ⟨rfl, hB10⟩
      have b10 := b9.trans (hB10.mono b9.size)
      go_wp2
      go_ret
      exact ⟨rfl, b10⟩
    · have et : turnS l a = (31, []) := by unfold turnS; rw [if_neg hall]
      rw [et] at ht1
      have HT1 := Lib.hid ht1; clear ht1 et hall
      go_wp2_with fail
      refine (HT1.out _ b2).mono ?_
      rintro e w3 ⟨X, xn, xc, rfl, _, _, _, hB3, _⟩
      dsimp only
      go_wp2
      go_ret
      exact ⟨rfl, b2.trans (hB3.mono b2.size)⟩
  · have hd : decide (n ≤ 5000) = false := by simpa using h5
    rw [hd]
    go_wp2_with fail
    refine (HBG.out _).mono ?_
    rintro e w3 ⟨rfl, hB3⟩
    go_wp2
    go_ret
    exact ⟨rfl, b2.trans (hB3.mono b2.size)⟩
end Go.Proofs.Ytdmedhklcicpeaa
