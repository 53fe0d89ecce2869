/-
  The program's Decode, its labels that read, and the whole. Conditions: rows that can be read, of up to 65,536 samples.
-/
import Derived.Test.YtdmedhklcicpeaaY1
namespace Go.Proofs.Ytdmedhklcicpeaa
open Go.RowKit

theorem MidD.more {w : World} {D : List Sp} {q : Int} {k : Nat} {x8 v' : Value} {W W' : World} (h : MidD w D q k x8 W) (hk : k < D.length) (hm : mayS (D[k]?.getD (0, 0)) = true) (hB : Below (w.heap.size + 2) W W')
    (ho : W'.ownsRow (w.heap.size + 2) 4 1 v' (2 * (k + 1)) ((bitsS (D.take k) q ++ bits1 q (D[k]?.getD (0, 0))).map Value.bool)) : MidD w D q (k + 1) v' W' :=
  ⟨h.out.below hB (by omega), h.box.below hB (by omega), h.bel.trans (hB.mono (by omega)), by rw [bits_snoc D q k hk]; exact ho, by rw [all_take_may D k hk, h.may, hm]; rfl⟩
theorem MidD.err {w : World} {D : List Sp} {q : Int} {k : Nat} {x8 : Value} {W W' : World} (h : MidD w D q k x8 W) (hB : Below (w.heap.size + 2) W W') (e : Int) : EndD w (e, []) (.int .i64 e) W' :=
  ⟨rfl, ⟨none, 0, 0, [], h.out.below hB (by omega), rfl, isBits_nil, by simp, fun h => absurd rfl h, fun _ h => by cases h⟩, h.box.below hB (by omega), h.bel.trans (hB.mono (by omega))⟩

set_option maxRecDepth 100000 in
set_option maxHeartbeats 4000000 in
theorem decL3 (w : World) (D : List Sp) (n k : Nat) (SA : Option Addr) (sn sc : Nat) (x8 : Value) (at_ q : Int) (a : Act) (W : World) (Q : Exit → Act → World → Prop)
    (hn : n = numOf (bitsS (D.take 6) q)) (hn2 : n < 4096) (hK : 6 + (n + 1) / 2 ≤ D.length) (hk0 : 6 ≤ k) (hk1 : k ≤ 6 + (n + 1) / 2) (hsn : sn = D.length) (hsm : sn ≤ 65536) (hS : Smps w.heap.size w SA D)
    (h0 : ∀ x0' x8' x9' x11' a' w', FrD x0' x8' x9' x11' at_ q w.heap.size a' → EndD w (decD D q) x11' w' → Q (.goto 0) a' w')
    (h2 : ∀ x0' x8' a' w', FrD x0' x8' (.int .i64 n) (.int .i64 0) at_ q w.heap.size a' → MidD w D q (6 + (n + 1) / 2) x8' w' → Q (.goto 2) a' w')
    (h3 : ∀ x8' a' w', FrD (.slice SA sn sc) x8' (.int .i64 n) (.int .i64 0) at_ q w.heap.size a' → MidD w D q (k + 1) x8' w' → k + 1 ≤ 6 + (n + 1) / 2 → Q (.goto 3) a' w')
    (hF : FrD (.slice SA sn sc) x8 (.int .i64 n) (.int .i64 0) at_ q w.heap.size a) (hM : MidD w D q k x8 W) : (restD 3).wp Try.prog Q a W := by
  obtain ⟨u12, u13, u14, u15, u16, u17, u18, u19, u20, u21, u22, u23, u24, u25, u26, u27, u28, u29, u30, u31, u32, u33, u34, u35, u36, u37, u38, u39, u40, u41, u42, u43, u44, u45, u46, u47, u48, u49, u50, u51, u52, u53, u54, u55, u56, u57, u58, u59, u60, u61, u62, u63, u64, u65, u66, u67, u68, u69, u70, u71, u72, u73, u74, u75, u76, u77, u78, rfl⟩ := hF
  have hPl : (bitsS (D.take k) q).length = 2 * k := by rw [bitsS_length, List.length_take]; omega
  obtain ⟨RA, rc, hv, _⟩ := bools_of_own hM.row
  rw [hPl] at hv
  subst hv
  have hw1 : IntKind.i64.wrap (12 + (n : Int)) = 12 + (n : Int) := IntWalk.i64_in _ (by omega)
  have H0 := Lib.hid h0; have H2 := Lib.hid h2; have H3 := Lib.hid h3; have HN := Lib.hid hn; have HM := Lib.hid hM; have HSN := Lib.hid hsn; have HS := Lib.hid hS; have HK := Lib.hid hK
  clear h0 h2 h3 hn hM hsn hS hPl hK
  obtain ⟨m, hm⟩ : ∃ m, m = 2 * k := ⟨_, rfl⟩
  simp only [restD, codeD, Try.f28, findLabel, Nat.reduceBEq, Bool.false_eq_true, ↓reduceIte, beq_self_eq_true]
  by_cases hge : 12 + n ≤ m
  · have hd0 : decide (12 + (n : Int) ≤ (m : Int)) = true := by simp; omega
    have hd1 : decide (12 + n ≤ m) = true := by simpa using hge
    have hkk : 6 + (n + 1) / 2 = k := by omega
    have HKK := Lib.hid hkk; have HMM := Lib.hid hm
    rw [← hm]
    clear hkk hm
    go_wp2
    go_step3
    refine H2.out _ _ _ _ ⟨_, _, _, _, _, _, _, _, _, _, _, _, _, _, _, _, _, _, _, _, _, _, _, _, _, _, _, _, _, _, _, _, _, _, _, _, _, _, _, _, _, _, _, _, _, _, _, _, _, _, _, _, _, _, _, _, _, _, _, _, _, _, _, _, _, _, _, rfl⟩ ?_
    rw [HKK.out, HMM.out]
    exact HM.out
  · have hd0 : decide (12 + (n : Int) ≤ (m : Int)) = false := by simp; omega
    have hd1 : decide (12 + n ≤ m) = false := by simpa using hge
    have hks : k < sn := by have := HSN.out; have := HK.out; omega
    have hrd := readNext_any (w.heap.size + 2) (.slice RA (2 * k) rc) k (bitsS (D.take k) q) SA sn sc D q W HM.out.row (by have := HM.out.out.lt; omega) HSN.out hsm ((HS.out.below HM.out.bel).mono (by omega)) hks
    rw [← hm] at hrd
    have HRD := Lib.hid hrd; have HMM := Lib.hid hm
    rw [← hm]
    clear hrd hm
    go_wp2_with fail
    refine HRD.out.mono ?_
    rintro e w1 ⟨hB1, hb1, hif⟩
    by_cases hms : mayS (D[k]?.getD (0, 0)) = true
    · rw [if_pos hms] at hif
      obtain ⟨v', rfl, hown⟩ := hif
      have hmid := HM.out.more (by have := HSN.out; omega) hms hB1 hown
      have HMID := Lib.hid hmid
      clear hown hmid
      go_wp2
      go_step3
      exact H3.out _ _ _ ⟨_, _, _, _, _, _, _, _, _, _, _, _, _, _, _, _, _, _, _, _, _, _, _, _, _, _, _, _, _, _, _, _, _, _, _, _, _, _, _, _, _, _, _, _, _, _, _, _, _, _, _, _, _, _, _, _, _, _, _, _, _, _, _, _, _, _, _, rfl⟩ HMID.out (by have := HMM.out; omega)
    · rw [if_neg hms] at hif
      subst hif
      have hmf : mayS (D[k]?.getD (0, 0)) = false := by simpa using hms
      have hend := HM.out.err hB1 31
      rw [← dec_e3 q (by
        have hmy := HM.out.may
        rw [List.all_eq_true] at hmy ⊢
        exact fun s hs => hmy s (by
          have e : D.take 6 = (D.take k).take 6 := by rw [List.take_take, Nat.min_eq_left (by omega)]
          rw [e] at hs; exact List.mem_of_mem_take hs)) (by rw [← HN.out]; exact HK.out) hk0 (by rw [← HN.out]; have := HMM.out; omega) hmf] at hend
      have HEND := Lib.hid hend
      clear hend
      go_wp2
      go_step3
      exact H0.out _ _ _ _ _ _ ⟨_, _, _, _, _, _, _, _, _, _, _, _, _, _, _, _, _, _, _, _, _, _, _, _, _, _, _, _, _, _, _, _, _, _, _, _, _, _, _, _, _, _, _, _, _, _, _, _, _, _, _, _, _, _, _, _, _, _, _, _, _, _, _, _, _, _, _, rfl⟩ HEND.out
end Go.Proofs.Ytdmedhklcicpeaa
