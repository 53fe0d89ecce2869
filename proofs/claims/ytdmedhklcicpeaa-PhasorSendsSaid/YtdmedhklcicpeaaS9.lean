/-
  The document's Decode. Conditions: rows that can be read, of up to 65,536 samples.
-/
import Derived.Test.YtdmedhklcicpeaaS8
import Derived.Test.YtdmedhklcicpeaaH2
namespace Go.Proofs.Ytdmedhklcicpeaa
open Go.RowKit

/-- What a callee answered, stored in the box of the result. -/
theorem res_stored {w w1 w2 : World} {R : Int × List Bool} {A : Option Addr} {n c g : Nat} {bs : List UInt8} (hn : n = bs.length) (his : IsBits R.2 bs) (hl : R.2.length ≤ 4096) (hA : Byt w2.heap.size w2 A bs) (hB1 : Below w.heap.size w w1) (hB2 : Below w1.heap.size w1 w2) (hF : Fresh w1.heap.size A bs) (hg : w.heap.size ≤ g) (hg1 : g < w1.heap.size) :
    Res w R (.returned (.tuple #[.agg #[.int .i64 (R.2.length : Nat), .slice A n c], .int .i64 R.1])) ((w2.setCell ⟨g, 0, none⟩ (.int .i64 (R.2.length : Nat))).setCell ⟨g, 1, none⟩ (.slice A n c)) := by
  have hBw := hB1.trans (hB2.mono hB1.size)
  refine ⟨A, n, c, bs, rfl, hn, his, hl, ?_, (hBw.setCell (p := ⟨g, 0, none⟩) hg _).setCell (p := ⟨g, 1, none⟩) hg _, fun a ha hb => Nat.le_trans hB1.size (hF a ha hb)⟩
  have h2 := (hA.set_low hF (p := ⟨g, 0, none⟩) hg1 (.int .i64 (R.2.length : Nat))).set_low hF (p := ⟨g, 1, none⟩) hg1 (.slice A n c)
  simpa using h2

/-- A part of a row. -/
theorem Smps.sub {n₀ : Nat} {W : World} {b off : Nat} {l : List Sp} (h : Smps n₀ W (some ⟨b, off, none⟩) l) (f k : Nat) : Smps n₀ W (some ⟨b, off + f * 2, none⟩) ((l.drop f).take k) := fun hne => by
  obtain ⟨b', off', e, hlt, hc⟩ := h (by rintro rfl; simp at hne)
  injection e with e; injection e with e1 e2; subst e1; subst e2
  refine ⟨b, off + f * 2, rfl, hlt, fun j hj => ?_⟩
  have hj2 : j < k ∧ f + j < l.length := by simp at hj; omega
  have := hc (f + j) hj2.2
  rw [List.getElem?_take_of_lt hj2.1, List.getElem?_drop, show off + f * 2 + j * 2 = off + (f + j) * 2 by omega]
  exact this
/-- How many bits the six samples behind the preamble tell. -/
def lenS (l : List Sp) (a : Nat) (q : Int) : Nat := numOf (bitsS ((l.drop (a + 8)).take 6) q)
theorem lenS_lt (l : List Sp) (a : Nat) (q : Int) : lenS l a q < 4096 := by
  have h1 := numOf_lt (bitsS ((l.drop (a + 8)).take 6) q)
  rw [bitsS_length] at h1
  have h2 : ((l.drop (a + 8)).take 6).length ≤ 6 := List.length_take_le _ _
  exact Nat.lt_of_lt_of_le h1 (Nat.le_trans (Nat.pow_le_pow_right (by omega) (by omega : 2 * ((l.drop (a + 8)).take 6).length ≤ 12)) (by decide))
/-- Decode, by the document. -/
def decodeS (l : List Sp) (at_ q : Int) : Int × List Bool :=
  if at_ < 0 then (2, [])
  else if (l.length : Int) - 14 < at_ then (32, [])
  else if ((l.drop (at_.toNat + 8)).take 6).all mayS = false then (31, [])
  else if (l.length : Int) - (at_.toNat + 14) < ((lenS l at_.toNat q + 1) / 2 : Nat) then (32, [])
  else if ((l.drop (at_.toNat + 14)).take ((lenS l at_.toNat q + 1) / 2)).all mayS = false then (31, [])
  else if (bitsS ((l.drop (at_.toNat + 14)).take ((lenS l at_.toNat q + 1) / 2)) q)[lenS l at_.toNat q]?.getD false = true then (33, [])
  else (0, (bitsS ((l.drop (at_.toNat + 14)).take ((lenS l at_.toNat q + 1) / 2)) q).take (lenS l at_.toNat q))
theorem of_some {l : List Bool} (h : l.length ≤ 4096) : ofS l = (0, l) := by unfold ofS; rw [if_neg (by omega)]
theorem get_all {l : List Bool} {bs : List UInt8} (h : IsBits l bs) (hl : l.length = 12) : getS l.length bs 0 12 = (0, numOf l) := by
  rw [get_more h (by omega), if_pos (by omega)]
  simp [List.take_of_length_le (show l.length ≤ 12 by omega)]

set_option maxRecDepth 4000 in
set_option maxHeartbeats 4000000 in
theorem rdecode_any (A : Option Addr) (n c : Nat) (l : List Sp) (at_ q : Int) (w : World) (hn : n = l.length) (hm : n ≤ 65536) (hcap : n ≤ c) (hA : Smps w.heap.size w A l) :
    Calls Try.prog 29 #[.slice A n c, .int .i64 at_, .int .i64 q] w (Res w (decodeS l at_ q)) := by
  have k0 := Blk.new w 24 #[.int .i64 0, .slice none 0 0]
  have b0 : Below w.heap.size w (w.alloc (.cells #[.int .i64 0, .slice none 0 0] 24)) := (Below.refl _ _).alloc (Nat.le_refl _) _
  unfold decodeS
  by_cases h0 : at_ < 0
  · rw [if_pos h0]
    have hd : decide (at_ < 0) = true := by simpa using h0
    clear hA hn
    go_enter Try.func29, Try.ntmps29
    go_wp2
    exact bodyPost_ret (v := .tuple #[.agg #[.int .i64 0, .slice none 0 0], .int .i64 2]) (by simp [results, Try.results29, go_sem]) rfl (res_err 2 b0)
  · rw [if_neg h0]
    have hd : decide (at_ < 0) = false := by simpa using h0
    obtain ⟨a, rfl⟩ := Int.eq_ofNat_of_zero_le (show 0 ≤ at_ by omega)
    rw [Int.toNat_natCast]
    by_cases h1 : (l.length : Int) - 14 < a
    · rw [if_pos h1]
      have hd1 : decide ((n : Int) - 14 < (a : Int)) = true := by rw [hn]; simpa using h1
      clear hA hn
      go_enter Try.func29, Try.ntmps29
      go_wp2
      exact bodyPost_ret (v := .tuple #[.agg #[.int .i64 0, .slice none 0 0], .int .i64 32]) (by simp [results, Try.results29, go_sem]) rfl (res_err 32 b0)
    · rw [if_neg h1]
      have hd1 : decide ((n : Int) - 14 < (a : Int)) = false := by rw [hn]; simpa using h1
      have ha14 : a + 14 ≤ n := by omega
      obtain ⟨b, off, rfl, hbl, _⟩ := hA (by rintro rfl; simp at hn; omega)
      have hH := hA.sub (a + 8) 6
      have hHl : ((l.drop (a + 8)).take 6).length = 6 := by simp; omega
      have hms := fun (w1 : World) (h : Below w.heap.size w w1) (cc : Nat) => rmays_any (some ⟨b, off + (a + 8) * 2, none⟩) 6 cc ((l.drop (a + 8)).take 6) w1 hHl.symm (by decide) ((hH.below h).mono h.size)
      by_cases h2 : ((l.drop (a + 8)).take 6).all mayS = false
      · rw [if_pos h2]
        rw [h2] at hms
        have HMS := Lib.hid hms
        clear hms h2 hH hHl hA hn h1
        go_enter Try.func29, Try.ntmps29
        go_wp2_with fail
        refine (HMS.out _ b0 _).mono ?_
        rintro e w1 ⟨rfl, hB1⟩
        replace k0 := k0.on hB1
        replace b0 := b0.trans (hB1.mono b0.size)
        obtain ⟨c1, c2, f1, f2⟩ := k0.two
        have hlt := k0.lt
        go_wp2
        exact bodyPost_ret (v := .tuple #[.agg #[.int .i64 0, .slice none 0 0], .int .i64 31]) (by simp [results, Try.results29, go_sem, c1, c2]) rfl (res_err 31 ((b0.setCell (p := ⟨w.heap.size, 0, none⟩) (Nat.le_refl _) _).setCell (p := ⟨w.heap.size, 1, none⟩) (Nat.le_refl _) _))
      · rw [if_neg h2]
        rw [Bool.not_eq_false] at h2
        rw [h2] at hms
        have hbi := fun (w1 : World) (h : Below w.heap.size w w1) (cc : Nat) => rbits_any (some ⟨b, off + (a + 8) * 2, none⟩) 6 cc ((l.drop (a + 8)).take 6) q w1 hHl.symm (by omega) h2 ((hH.below h).mono h.size)
        have hbl12 := bitsS_length ((l.drop (a + 8)).take 6) q
        rw [hHl] at hbl12
        have hln : lenS l a q = numOf (bitsS ((l.drop (a + 8)).take 6) q) := rfl
        have hL4 := lenS_lt l a q
        generalize lenS l a q = L at *
        generalize bitsS ((l.drop (a + 8)).take 6) q = hb at *
        have HMS := Lib.hid hms; have HBI := Lib.hid hbi
        clear hms hbi hH hHl h2 h1
        obtain ⟨R, hR⟩ : ∃ R, R = (if (l.length : Int) - ((a : Nat) + 14) < ((L + 1) / 2 : Nat) then ((32 : Int), []) else if ((l.drop (a + 14)).take ((L + 1) / 2)).all mayS = false then (31, []) else if (bitsS ((l.drop (a + 14)).take ((L + 1) / 2)) q)[L]?.getD false = true then (33, []) else (0, (bitsS ((l.drop (a + 14)).take ((L + 1) / 2)) q).take L)) := ⟨_, rfl⟩
        rw [← hR]
        have HR := Lib.hid hR; clear hR
        have HA := Lib.hid hA; have HN := Lib.hid hn; have HLN := Lib.hid hln; have H12 := Lib.hid hbl12
        clear hA hn hln hbl12
        go_enter Try.func29, Try.ntmps29
        go_wp2_with fail
        refine (HMS.out _ b0 _).mono ?_
        rintro e w1 ⟨rfl, hB1⟩
        replace k0 := k0.on hB1
        replace b0 := b0.trans (hB1.mono b0.size)
        go_wp2_with fail
        refine (HBI.out _ b0 _).mono ?_
        rintro e w2 ⟨bv, rfl, hown2, hB2⟩
        replace k0 := k0.on hB2
        replace b0 := b0.trans (hB2.mono b0.size)
        obtain ⟨VA, vc, rfl, hVA⟩ := bools_of_own hown2
        have hof := rof_any VA hb.length vc hb w2 rfl (by have := H12.out; unfold maxLen; omega) hVA
        rw [of_some (by have := H12.out; omega)] at hof
        have HOF := Lib.hid hof; clear hof hVA hown2
        go_wp2_with fail
        refine HOF.out.mono ?_
        rintro e w3 ⟨A3, n3, c3, bs3, rfl, hn3, his3, hl3, y3, hB3, hF3⟩
        dsimp only at hn3 his3 hl3 y3 hB3 hF3
        replace k0 := k0.on hB3
        replace b0 := b0.trans (hB3.mono b0.size)
        have al3 : Below w3.heap.size w3 (w3.alloc (.cells #[.int .i64 (hb.length : Nat), .slice A3 n3 c3] 24)) := (Below.refl _ _).alloc (Nat.le_refl _) _
        have hge := rget_any (hb.length : Nat) 0 12 A3 n3 c3 bs3 (w3.alloc (.cells #[.int .i64 (hb.length : Nat), .slice A3 n3 c3] 24)) hn3 (by rw [hn3]; exact bytes_small his3 hl3) ((y3.below al3).mono al3.size)
        rw [get_all his3 H12.out, ← HLN.out] at hge
        have HGE := Lib.hid hge
        have HN3 := Lib.hid hn3; have HI3 := Lib.hid his3
        clear hge hn3 his3 y3
        replace k0 := k0.on al3
        replace b0 := b0.trans (al3.mono b0.size)
        go_wp2_with fail
        refine HGE.out.mono ?_
        rintro e w4 ⟨rfl, hB4⟩
        dsimp only
        replace k0 := k0.on hB4
        replace b0 := b0.trans (hB4.mono b0.size)
        obtain ⟨c1, c2, f1, f2⟩ := k0.two
        have hlt := k0.lt
        obtain ⟨P, hP⟩ : ∃ P, P = (L + 1) / 2 := ⟨_, rfl⟩
        have hPi : ((L : Int) + 1) / 2 = (P : Int) := by omega
        obtain ⟨M, hM⟩ : ∃ M, M = n - (a + 14) := ⟨_, rfl⟩
        by_cases hMP : M < P
        · have hd2 : decide ((M : Int) < (P : Int)) = true := by simp; omega
          have hd3 : decide (M < P) = true := by simpa using hMP
          have hRR : R = (32, []) := by rw [HR.out, if_pos (by have := HN.out; omega)]
          have HRR := Lib.hid hRR; have HP := Lib.hid hP
          clear hRR hP
          have hM2 := hM.symm
          have HM := Lib.hid hM; clear hM
          go_wp2
          all_goals
            rw [HRR.out]
            exact bodyPost_ret (v := .tuple #[.agg #[.int .i64 0, .slice none 0 0], .int .i64 32]) (by simp [results, Try.results29, go_sem, c1, c2]) rfl (res_err 32 ((b0.setCell (p := ⟨w.heap.size, 0, none⟩) (Nat.le_refl _) _).setCell (p := ⟨w.heap.size, 1, none⟩) (Nat.le_refl _) _))
        · have hd2 : decide ((M : Int) < (P : Int)) = false := by simp; omega
          have hd3 : decide (M < P) = false := by simpa using hMP
          have hHr := HA.out.sub (a + 14) P
          have hrl : ((l.drop (a + 14)).take P).length = P := by have := HN.out; simp; omega
          have hRR := HR.out
          rw [if_neg (by have := HN.out; omega), ← hP] at hRR
          have hb2l := bitsS_length ((l.drop (a + 14)).take P) q
          rw [hrl] at hb2l
          generalize (l.drop (a + 14)).take P = r at *
          have hsx : ∀ X : Addr, (X = ⟨b, off + (a + 14) * 2, none⟩ ∨ P = 0) → Smps w.heap.size w (some X) r := fun X hX => by
            rcases hX with rfl | h
            · exact hHr
            · exact fun hne => absurd (List.eq_nil_of_length_eq_zero (hrl.trans h)) hne
          have hms2 := fun (w1 : World) (h : Below w.heap.size w w1) (X : Addr) (cc : Nat) (hX : X = ⟨b, off + (a + 14) * 2, none⟩ ∨ P = 0) => rmays_any (some X) P cc r w1 hrl.symm (by unfold maxLen; omega) (((hsx X hX).below h).mono h.size)
          by_cases h5 : r.all mayS = false
          · rw [if_pos h5] at hRR
            rw [h5] at hms2
            have HMS2 := Lib.hid hms2; have HRR := Lib.hid hRR; have HP := Lib.hid hP
            clear hms2 hRR h5 hHr hrl hsx hb2l hP
            have hM2 := hM.symm
            have HM := Lib.hid hM; clear hM
            go_wp2_with fail
            all_goals
              refine (HMS2.out _ b0 _ _ (by first | exact .inl rfl | exact .inr (by omega))).mono ?_
              rintro e w5 ⟨rfl, hB5⟩
              clear c1 c2 f1 f2 hlt
              replace k0 := k0.on hB5
              replace b0 := b0.trans (hB5.mono b0.size)
              obtain ⟨c1, c2, f1, f2⟩ := k0.two
              have hlt := k0.lt
              go_wp2
              rw [HRR.out]
              exact bodyPost_ret (v := .tuple #[.agg #[.int .i64 0, .slice none 0 0], .int .i64 31]) (by simp [results, Try.results29, go_sem, c1, c2]) rfl (res_err 31 ((b0.setCell (p := ⟨w.heap.size, 0, none⟩) (Nat.le_refl _) _).setCell (p := ⟨w.heap.size, 1, none⟩) (Nat.le_refl _) _))
          · rw [if_neg h5] at hRR
            rw [Bool.not_eq_false] at h5
            rw [h5] at hms2
            have hbi2 := fun (w1 : World) (h : Below w.heap.size w w1) (X : Addr) (cc : Nat) (hX : X = ⟨b, off + (a + 14) * 2, none⟩ ∨ P = 0) => rbits_any (some X) P cc r q w1 hrl.symm (by omega) h5 (((hsx X hX).below h).mono h.size)
            generalize bitsS r q = b2 at *
            have HMS2 := Lib.hid hms2; have HBI2 := Lib.hid hbi2; have HRR := Lib.hid hRR; have HP := Lib.hid hP; have HB2 := Lib.hid hb2l
            clear hms2 hbi2 hRR h5 hHr hrl hsx hb2l hP
            have hM2 := hM.symm
            have HM := Lib.hid hM; clear hM
            go_wp2_with fail
            all_goals
              refine (HMS2.out _ b0 _ _ (by first | exact .inl rfl | exact .inr (by omega))).mono ?_
              rintro e w5 ⟨rfl, hB5⟩
              clear c1 c2 f1 f2 hlt
              replace k0 := k0.on hB5
              replace b0 := b0.trans (hB5.mono b0.size)
              go_wp2_with fail
              refine (HBI2.out _ b0 _ _ (by first | exact .inl rfl | exact .inr (by omega))).mono ?_
              rintro e w6 ⟨bv, rfl, hown6, hB6⟩
              replace k0 := k0.on hB6
              replace b0 := b0.trans (hB6.mono b0.size)
              obtain ⟨c1, c2, f1, f2⟩ := k0.two
              have hlt := k0.lt
              rcases own_bools hown6 with ⟨rfl, hb20⟩ | ⟨g2, cap2, rfl, hgb, hgl, hlc, hcm, hcell, _⟩
              · have hL0 : L = 0 := by have h1 := HB2.out; have h2 := HP.out; rw [hb20] at h1; simp at h1; omega
                have hR3 : R = (0, ([] : List Bool)) := by rw [HRR.out, hb20]; simp
                have hof2 := rof_any none 0 0 [] w6 rfl (by decide) (fun h => absurd rfl h)
                rw [of_some (by simp)] at hof2
                have HOF2 := Lib.hid hof2; have HR3 := Lib.hid hR3
                clear hof2 hR3 hb20 hown6
                subst hL0
                go_wp2_with fail
                refine HOF2.out.mono ?_
                rintro e w7 ⟨A7, n7, c7, bs7, rfl, hn7, his7, hl7, hA7, hB7, hF7⟩
                dsimp only at hn7 his7 hl7 hA7 hB7 hF7
                have HN7 := Lib.hid hn7; clear hn7
                clear c1 c2 f1 f2 hlt
                have hlt6 := k0.lt
                replace k0 := k0.on hB7
                obtain ⟨c1, c2, f1, f2⟩ := k0.two
                have hlt := k0.lt
                go_wp2
                rw [HR3.out]
                exact bodyPost_ret (v := .tuple #[.agg #[.int .i64 (([] : List Bool).length : Nat), .slice A7 n7 c7], .int .i64 0]) (by simp [results, Try.results29, go_sem, c1, c2]) rfl
                  (res_stored (R := (0, ([] : List Bool))) HN7.out his7 hl7 hA7 b0 hB7 hF7 (Nat.le_refl _) hlt6)
              · have hLt : Bools w6.heap.size w6 (some ⟨g2, 0, none⟩) (b2.take L) := fun _ => ⟨g2, 0, rfl, hgl, fun j hj => by
                  have hj2 : j < L ∧ j < b2.length := by simp at hj; omega
                  have := hcell j hj2.2
                  rw [Nat.zero_add, this, List.getElem?_take_of_lt hj2.1]⟩
                have hLb : L ≤ b2.length := by have h1 := HB2.out; have h2 := HP.out; omega
                have htl : (b2.take L).length = L := by rw [List.length_take]; omega
                have hof2 := rof_any (some ⟨g2, 0, none⟩) L cap2 (b2.take L) w6 htl.symm (by unfold maxLen; omega) hLt
                rw [of_some (by omega)] at hof2
                have HOF2 := Lib.hid hof2
                have hbl2 : b2.length ≤ 8192 := by have h1 := HB2.out; have h2 := HP.out; omega
                by_cases hLl : L < b2.length
                · have hce := hcell L hLl
                  have hd4 : decide ((L : Int) < (b2.length : Int)) = true := by simp; omega
                  have hd5 : decide (L < b2.length) = true := by simpa using hLl
                  by_cases hbit : b2[L]?.getD false = true
                  · rw [hbit] at hce
                    have hR3 : R = (33, []) := by rw [HRR.out, if_pos hbit]
                    have HR3 := Lib.hid hR3
                    clear hof2 hR3 hown6 hLt htl hcell hbit
                    go_wp2
                    rw [HR3.out]
                    exact bodyPost_ret (v := .tuple #[.agg #[.int .i64 0, .slice none 0 0], .int .i64 33]) (by simp [results, Try.results29, go_sem, c1, c2]) rfl (res_err 33 ((b0.setCell (p := ⟨w.heap.size, 0, none⟩) (Nat.le_refl _) _).setCell (p := ⟨w.heap.size, 1, none⟩) (Nat.le_refl _) _))
                  · rw [Bool.not_eq_true] at hbit
                    rw [hbit] at hce
                    have hR3 : R = (0, b2.take L) := by rw [HRR.out, if_neg (by rw [hbit]; decide)]
                    have HR3 := Lib.hid hR3
                    clear hof2 hR3 hown6 hLt htl hcell hbit
                    generalize b2.take L = T at *
                    go_wp2_with fail
                    refine HOF2.out.mono ?_
                    rintro e w7 ⟨A7, n7, c7, bs7, rfl, hn7, his7, hl7, hA7, hB7, hF7⟩
                    dsimp only at hn7 his7 hl7 hA7 hB7 hF7
                    have HN7 := Lib.hid hn7; clear hn7
                    clear c1 c2 f1 f2 hlt
                    have hlt6 := k0.lt
                    replace k0 := k0.on hB7
                    obtain ⟨c1, c2, f1, f2⟩ := k0.two
                    have hlt := k0.lt
                    go_wp2
                    rw [HR3.out]
                    exact bodyPost_ret (v := .tuple #[.agg #[.int .i64 (T.length : Nat), .slice A7 n7 c7], .int .i64 0]) (by simp [results, Try.results29, go_sem, c1, c2]) rfl
                      (res_stored (R := (0, T)) HN7.out his7 hl7 hA7 b0 hB7 hF7 (Nat.le_refl _) hlt6)
                · have hd4 : decide ((L : Int) < (b2.length : Int)) = false := by simp; omega
                  have hd5 : decide (L < b2.length) = false := by simpa using hLl
                  have hR3 : R = (0, b2.take L) := by rw [HRR.out, List.getElem?_eq_none (by omega)]; rfl
                  have HR3 := Lib.hid hR3
                  clear hof2 hR3 hown6 hLt htl hcell
                  generalize b2.take L = T at *
                  go_wp2_with fail
                  refine HOF2.out.mono ?_
                  rintro e w7 ⟨A7, n7, c7, bs7, rfl, hn7, his7, hl7, hA7, hB7, hF7⟩
                  dsimp only at hn7 his7 hl7 hA7 hB7 hF7
                  have HN7 := Lib.hid hn7; clear hn7
                  clear c1 c2 f1 f2 hlt
                  have hlt6 := k0.lt
                  replace k0 := k0.on hB7
                  obtain ⟨c1, c2, f1, f2⟩ := k0.two
                  have hlt := k0.lt
                  go_wp2
                  rw [HR3.out]
                  exact bodyPost_ret (v := .tuple #[.agg #[.int .i64 (T.length : Nat), .slice A7 n7 c7], .int .i64 0]) (by simp [results, Try.results29, go_sem, c1, c2]) rfl
                    (res_stored (R := (0, T)) HN7.out his7 hl7 hA7 b0 hB7 hF7 (Nat.le_refl _) hlt6)
end Go.Proofs.Ytdmedhklcicpeaa
