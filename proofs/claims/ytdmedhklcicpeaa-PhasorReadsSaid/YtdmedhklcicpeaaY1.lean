/-
  The program's Decode, label by label. Conditions: rows that can be read, of up to 65,536 samples.
-/
import Derived.Test.YtdmedhklcicpeaaW9
namespace Go.Proofs.Ytdmedhklcicpeaa
open Go.RowKit

theorem Bools.part {n₀ : Nat} {W : World} {b off : Nat} {l : List Bool} (h : Bools n₀ W (some ⟨b, off, none⟩) l) (f k : Nat) : Bools n₀ W (some ⟨b, off + f, none⟩) ((l.drop f).take k) := fun hne => by
  have hlen : 0 < ((l.drop f).take k).length := List.length_pos_iff.2 hne
  rw [List.length_take, List.length_drop] at hlen
  obtain ⟨b', off', e, hlt, hc⟩ := h (by rintro rfl; simp at hlen)
  injection e with e; injection e with e1 e2; subst e1; subst e2
  refine ⟨b, off + f, rfl, hlt, fun j hj => ?_⟩
  rw [List.length_take, List.length_drop] at hj
  have := hc (f + j) (by omega)
  rw [List.getElem?_take_of_lt (by omega), List.getElem?_drop, show off + f + j = off + (f + j) by omega]
  exact this

set_option maxRecDepth 100000 in
set_option maxHeartbeats 4000000 in
theorem decL2 (w : World) (D : List Sp) (n : Nat) (x0 x8 : Value) (at_ q : Int) (a : Act) (W : World) (Q : Exit → Act → World → Prop)
    (hn : n = numOf (bitsS (D.take 6) q)) (hn2 : n < 4096) (hK : 6 + (n + 1) / 2 ≤ D.length)
    (hR : ∀ a' w', bodyPost Try.prog Try.f28 (Res w (decD D q)) .ret a' w' → Q .ret a' w')
    (h0 : ∀ x0' x8' x9' x11' a' w', FrD x0' x8' x9' x11' at_ q w.heap.size a' → EndD w (decD D q) x11' w' → Q (.goto 0) a' w')
    (hF : FrD x0 x8 (.int .i64 n) (.int .i64 0) at_ q w.heap.size a) (hM : MidD w D q (6 + (n + 1) / 2) x8 W) : (restD 2).wp Try.prog Q a W := by
  obtain ⟨u12, u13, u14, u15, u16, u17, u18, u19, u20, u21, u22, u23, u24, u25, u26, u27, u28, u29, u30, u31, u32, u33, u34, u35, u36, u37, u38, u39, u40, u41, u42, u43, u44, u45, u46, u47, u48, u49, u50, u51, u52, u53, u54, u55, u56, u57, u58, u59, u60, u61, u62, u63, u64, u65, u66, u67, u68, u69, u70, u71, u72, u73, u74, u75, u76, u77, u78, rfl⟩ := hF
  have hfin := dec_fin q hn hK hM.may
  have hPl : (bitsS (D.take (6 + (n + 1) / 2)) q).length = 2 * (6 + (n + 1) / 2) := by rw [bitsS_length, List.length_take]; omega
  have hend := hM.end_
  obtain ⟨hout, hbox, bel, hrow, hmay⟩ := hM
  generalize bitsS (D.take (6 + (n + 1) / 2)) q = P at *
  obtain ⟨m, hm⟩ : ∃ m, m = 2 * (6 + (n + 1) / 2) := ⟨_, rfl⟩
  rw [← hm] at hrow hPl
  obtain ⟨RA, rc, hv, hBo⟩ := bools_of_own hrow
  rw [hPl] at hv
  subst hv
  have hrcap := own_cap hrow
  have hm12 : 12 + n ≤ m ∧ m ≤ 13 + n := by omega
  obtain ⟨g, off, hRA, hgl, _⟩ := hBo.at_ (k := 0) (by omega)
  subst hRA
  have HR := Lib.hid hR; have H0 := Lib.hid h0; have HFIN := Lib.hid hfin; have HPL := Lib.hid hPl; have HROW := Lib.hid hrow; have HBO := Lib.hid hBo; have HEND := Lib.hid hend
  clear hR h0 hfin hPl hrow hBo hmay hn hend hm
  have hw1 : IntKind.i64.wrap (12 + (n : Int)) = 12 + (n : Int) := IntWalk.i64_in _ (by omega)
  have hpl : ((P.drop 12).take n).length = n := by rw [List.length_take, List.length_drop, HPL.out]; omega
  have hbp : Bools W.heap.size W (some ⟨g, off + 12, none⟩) ((P.drop 12).take n) := HBO.out.part 12 n
  obtain ⟨L, hL⟩ : ∃ L, L = (P.drop 12).take n := ⟨_, rfl⟩
  rw [← hL] at hpl hbp
  have hfin2 : ¬ P[12 + n]?.getD false = true → decD D q = (0, L) := fun h => by rw [HFIN.out, if_neg h, hL]
  have hof := fun A' c' (h : Bools W.heap.size W A' L) => of_any A' n c' L W hpl.symm (by unfold maxLen; omega) h
  rw [of_some (by omega)] at hof
  have HOF := Lib.hid hof; have HPP := Lib.hid hpl; have HBP := Lib.hid hbp; have HFIN2 := Lib.hid hfin2
  clear hof hpl hbp hfin2 hL
  simp only [restD, codeD, Try.f28, findLabel, Nat.reduceBEq, Bool.false_eq_true, ↓reduceIte, beq_self_eq_true]
  by_cases hgt : 12 + n < m
  · have hd0 : decide (12 + (n : Int) < (m : Int)) = true := by simp; omega
    have hd1 : decide (12 + n < m) = true := by simpa using hgt
    obtain ⟨g', off', he, _, hc0⟩ := HBO.out.at_ (k := 12 + n) (by rw [HPL.out]; exact hgt)
    injection he with he; injection he with he1 he2; subst he1; subst he2
    by_cases hb : P[12 + n]?.getD false = true
    · rw [hb] at hc0
      go_wp2
      go_step3
      refine H0.out _ _ _ _ _ _ ⟨_, _, _, _, _, _, _, _, _, _, _, _, _, _, _, _, _, _, _, _, _, _, _, _, _, _, _, _, _, _, _, _, _, _, _, _, _, _, _, _, _, _, _, _, _, _, _, _, _, _, _, _, _, _, _, _, _, _, _, _, _, _, _, _, _, _, _, rfl⟩ ?_
      rw [HFIN.out, if_pos hb]
      exact HEND.out 33
    · have hbf : P[12 + n]?.getD false = false := by simpa using hb
      rw [hbf] at hc0
      go_wp2_with fail
      refine (HOF.out _ _ HBP.out).mono ?_
      rintro e w1 ⟨A1, n1, c1, bs1, rfl, hn1, his1, hl1, hA1, hB1, hF1⟩
      dsimp only at his1 hl1
      have ho1 := hout.on hB1
      have hb1 := hbox.on hB1
      obtain ⟨d1, d2, e1, e2⟩ := ho1.two
      obtain ⟨d3, d4, e3, e4⟩ := hb1.two
      have z1 := ho1.lt
      have z0 := hb1.lt
      have bel1 := bel.trans (hB1.mono bel.size)
      have hne : w.heap.size ≠ w.heap.size + 1 := by omega
      have HN1 := Lib.hid hn1; have HI1 := Lib.hid his1; have HL1 := Lib.hid hl1; have HA1 := Lib.hid hA1; have HF1 := Lib.hid hF1
      clear hn1 his1 hl1 hA1 hF1
      dsimp only
      go_wp2
      go_step3
      go_wp2
      refine HR.out _ _ (bodyPost_ret (v := .tuple #[.agg #[.int .i64 L.length, .slice A1 n1 c1], .int .i64 0]) (by simp [results, Try.results28, go_sem, d3, d4]) rfl ?_)
      rw [HFIN2.out (by first | exact hb | (rw [hbf]; decide))]
      refine ⟨A1, n1, c1, bs1, rfl, HN1.out, HI1.out, HL1.out, ?_, (((bel1.setCell (p := ⟨w.heap.size + 1, 0, none⟩) (by simp) _).setCell (p := ⟨w.heap.size + 1, 1, none⟩) (by simp) _).setCell (p := ⟨w.heap.size, 0, none⟩) (Nat.le_refl _) _).setCell (p := ⟨w.heap.size, 1, none⟩) (Nat.le_refl _) _, fun a ha hne => Nat.le_trans bel.size (HF1.out a ha hne)⟩
      have hz2 : w.heap.size + 1 < W.heap.size := hout.lt
      have hz3 : w.heap.size < W.heap.size := hbox.lt
      have h1 := (((HA1.out.set_low HF1.out (p := ⟨w.heap.size + 1, 0, none⟩) hz2 (.int .i64 L.length)).set_low HF1.out (p := ⟨w.heap.size + 1, 1, none⟩) hz2 (.slice A1 n1 c1)).set_low HF1.out (p := ⟨w.heap.size, 0, none⟩) hz3 (.int .i64 L.length)).set_low HF1.out (p := ⟨w.heap.size, 1, none⟩) hz3 (.slice A1 n1 c1)
      simpa using h1
  · have hd0 : decide (12 + (n : Int) < (m : Int)) = false := by simp; omega
    have hd1 : decide (12 + n < m) = false := by simpa using hgt
    have hbf : P[12 + n]?.getD false = false := by rw [List.getElem?_eq_none (by rw [HPL.out]; omega)]; rfl
    by_cases hrc : 12 < rc
    · have hrc2 : decide (12 < rc) = true := by simpa using hrc
      go_wp2_with fail
      refine (HOF.out _ _ HBP.out).mono ?_
      rintro e w1 ⟨A1, n1, c1, bs1, rfl, hn1, his1, hl1, hA1, hB1, hF1⟩
      dsimp only at his1 hl1
      have ho1 := hout.on hB1
      have hb1 := hbox.on hB1
      obtain ⟨d1, d2, e1, e2⟩ := ho1.two
      obtain ⟨d3, d4, e3, e4⟩ := hb1.two
      have z1 := ho1.lt
      have z0 := hb1.lt
      have bel1 := bel.trans (hB1.mono bel.size)
      have hne : w.heap.size ≠ w.heap.size + 1 := by omega
      have HN1 := Lib.hid hn1; have HI1 := Lib.hid his1; have HL1 := Lib.hid hl1; have HA1 := Lib.hid hA1; have HF1 := Lib.hid hF1
      clear hn1 his1 hl1 hA1 hF1
      dsimp only
      go_wp2
      go_step3
      go_wp2
      refine HR.out _ _ (bodyPost_ret (v := .tuple #[.agg #[.int .i64 L.length, .slice A1 n1 c1], .int .i64 0]) (by simp [results, Try.results28, go_sem, d3, d4]) rfl ?_)
      rw [HFIN2.out (by first | fail | (rw [hbf]; decide))]
      refine ⟨A1, n1, c1, bs1, rfl, HN1.out, HI1.out, HL1.out, ?_, (((bel1.setCell (p := ⟨w.heap.size + 1, 0, none⟩) (by simp) _).setCell (p := ⟨w.heap.size + 1, 1, none⟩) (by simp) _).setCell (p := ⟨w.heap.size, 0, none⟩) (Nat.le_refl _) _).setCell (p := ⟨w.heap.size, 1, none⟩) (Nat.le_refl _) _, fun a ha hne => Nat.le_trans bel.size (HF1.out a ha hne)⟩
      have hz2 : w.heap.size + 1 < W.heap.size := hout.lt
      have hz3 : w.heap.size < W.heap.size := hbox.lt
      have h1 := (((HA1.out.set_low HF1.out (p := ⟨w.heap.size + 1, 0, none⟩) hz2 (.int .i64 L.length)).set_low HF1.out (p := ⟨w.heap.size + 1, 1, none⟩) hz2 (.slice A1 n1 c1)).set_low HF1.out (p := ⟨w.heap.size, 0, none⟩) hz3 (.int .i64 L.length)).set_low HF1.out (p := ⟨w.heap.size, 1, none⟩) hz3 (.slice A1 n1 c1)
      simpa using h1
    · have hrc2 : decide (12 < rc) = false := by simpa using hrc
      have hLn : L = [] := List.eq_nil_of_length_eq_zero (by rw [HPP.out]; omega)
      have HLN := Lib.hid hLn; clear hLn
      go_wp2_with fail
      refine (HOF.out _ _ (fun h => absurd HLN.out h)).mono ?_
      rintro e w1 ⟨A1, n1, c1, bs1, rfl, hn1, his1, hl1, hA1, hB1, hF1⟩
      dsimp only at his1 hl1
      have ho1 := hout.on hB1
      have hb1 := hbox.on hB1
      obtain ⟨d1, d2, e1, e2⟩ := ho1.two
      obtain ⟨d3, d4, e3, e4⟩ := hb1.two
      have z1 := ho1.lt
      have z0 := hb1.lt
      have bel1 := bel.trans (hB1.mono bel.size)
      have hne : w.heap.size ≠ w.heap.size + 1 := by omega
      have HN1 := Lib.hid hn1; have HI1 := Lib.hid his1; have HL1 := Lib.hid hl1; have HA1 := Lib.hid hA1; have HF1 := Lib.hid hF1
      clear hn1 his1 hl1 hA1 hF1
      dsimp only
      go_wp2
      go_step3
      go_wp2
      refine HR.out _ _ (bodyPost_ret (v := .tuple #[.agg #[.int .i64 L.length, .slice A1 n1 c1], .int .i64 0]) (by simp [results, Try.results28, go_sem, d3, d4]) rfl ?_)
      rw [HFIN2.out (by first | fail | (rw [hbf]; decide))]
      refine ⟨A1, n1, c1, bs1, rfl, HN1.out, HI1.out, HL1.out, ?_, (((bel1.setCell (p := ⟨w.heap.size + 1, 0, none⟩) (by simp) _).setCell (p := ⟨w.heap.size + 1, 1, none⟩) (by simp) _).setCell (p := ⟨w.heap.size, 0, none⟩) (Nat.le_refl _) _).setCell (p := ⟨w.heap.size, 1, none⟩) (Nat.le_refl _) _, fun a ha hne => Nat.le_trans bel.size (HF1.out a ha hne)⟩
      have hz2 : w.heap.size + 1 < W.heap.size := hout.lt
      have hz3 : w.heap.size < W.heap.size := hbox.lt
      have h1 := (((HA1.out.set_low HF1.out (p := ⟨w.heap.size + 1, 0, none⟩) hz2 (.int .i64 L.length)).set_low HF1.out (p := ⟨w.heap.size + 1, 1, none⟩) hz2 (.slice A1 n1 c1)).set_low HF1.out (p := ⟨w.heap.size, 0, none⟩) hz3 (.int .i64 L.length)).set_low HF1.out (p := ⟨w.heap.size, 1, none⟩) hz3 (.slice A1 n1 c1)
      simpa using h1
end Go.Proofs.Ytdmedhklcicpeaa
