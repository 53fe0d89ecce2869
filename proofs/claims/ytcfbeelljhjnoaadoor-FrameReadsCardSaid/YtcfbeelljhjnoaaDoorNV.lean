/-
  The law of who agrees: a frame is good for those with its state, and for no others. Conditions: that the bytes can be read, and that the program's tables hold what its text lays.
-/
import Derived.Test.YtcfbeelljhjnoaaDoorNU
namespace Go.Proofs.YtcfbeelljhjnoaaDoor
open Go.RowKit

/-- Parse, Good, Explicit, by the document, of bits that may be. -/
def readX (X : List Bool) (C : CS) : Int × FR := if mayC C 8 = true then readL X C else (40, zeroF)
def goodX (X : List Bool) (C : CS) : Bool × FR := if (readX X C).1 = 0 ∧ (readX X C).2.K ≠ 1 ∧ sameC (readX X C).2.C C = true then (true, (readX X C).2) else (false, zeroF)
def explX (X : List Bool) : Bool × FR := if (readX X zeroC).1 = 0 ∧ (readX X zeroC).2.K ≠ 2 then (true, (readX X zeroC).2) else (false, zeroF)
theorem readF_X {X : List Bool} {bs : List UInt8} (h6 : goodB X.length bs = true) (h7 : listOf X.length bs = X) (C : CS) : readF X.length bs C = readX X C := by
  unfold readF readX; rw [if_pos h6, h7]
theorem parseX_at {w : World} {X : List Bool} {A : Option Addr} {n : Nat} (h : Bv w X A n) (c : Nat) (C : CS) (hT : Tab w) (hW : WTab w) :
    Calls Tryd.prog 18 #[.agg #[.int .i64 X.length, .slice A n c], .agg C.cells] w (ResF w (readX X C)) := by
  obtain ⟨bs, h1, h2, h3, h4, h5, h6, h7⟩ := h.parts
  have hp := parse_any X.length A n c bs C w h1 h2 h5 hT hW
  rwa [readF_X h6 h7] at hp
theorem goodX_at {w : World} {X : List Bool} {A : Option Addr} {n : Nat} (h : Bv w X A n) (c : Nat) (C : CS) (hT : Tab w) (hW : WTab w) :
    Calls Tryd.prog 20 #[.agg #[.int .i64 X.length, .slice A n c], .agg C.cells] w (ResG w (goodX X C)) := by
  obtain ⟨bs, h1, h2, h3, h4, h5, h6, h7⟩ := h.parts
  have hp := good_any X.length A n c bs C w h1 h2 h5 hT hW
  unfold goodF at hp
  rwa [readF_X h6 h7] at hp
theorem explX_at {w : World} {X : List Bool} {A : Option Addr} {n : Nat} (h : Bv w X A n) (c : Nat) (hT : Tab w) (hW : WTab w) :
    Calls Tryd.prog 22 #[.agg #[.int .i64 X.length, .slice A n c]] w (ResG w (explX X)) := by
  obtain ⟨bs, h1, h2, h3, h4, h5, h6, h7⟩ := h.parts
  have hp := expl_any X.length A n c bs w h1 h2 h5 hT hW
  unfold explF at hp
  rwa [readF_X h6 h7] at hp
theorem mayF_C {f : FR} (hm : mayF f = true) : mayC f.C 8 = true := ((mayF_iff f).1 hm).2.2.1
theorem good_own {f : FR} (hm : mayF f = true) : (goodX (bitsF f) f.C).1 = !(f.K == 1) := by
  unfold goodX readX
  rw [if_pos (mayF_C hm), read_own hm]
  by_cases h : f.K = 1
  · rw [if_neg (fun hx => hx.2.1 h), h]; rfl
  · rw [if_pos ⟨rfl, h, (sameC_iff _ _).2 rfl⟩]; simp [h]
theorem good_cold {f : FR} (hm : mayF f = true) (hk : f.K = 1) (C : CS) : (goodX (bitsF f) C).1 = false := by
  unfold goodX readX
  by_cases hC : mayC C 8 = true
  · rw [if_pos hC, read_1 f hm hk C, if_neg (fun hx => hx.2.1 hk)]
  · rw [if_neg hC, if_neg (fun hx => absurd hx.1 (by decide))]
theorem good_other {f : FR} (hm : mayF f = true) (hk : f.K ≠ 1) {C : CS} (hC : mayC C 8 = true) : (goodX (bitsF f) C).1 = sameC C f.C := by
  have h := agree_L hm hC hk
  unfold goodX readX
  rw [if_pos hC]
  by_cases he : C = f.C
  · rw [if_pos (h.2 he), (sameC_iff _ _).2 he]
  · rw [if_neg (fun hx => he (h.1 hx))]; exact (Bool.eq_false_iff.2 (fun hx => he ((sameC_iff _ _).1 hx))).symm
set_option maxRecDepth 8000 in
set_option maxHeartbeats 8000000 in
theorem agree_law (f : FR) (A : Option Addr) (n c : Nat) (C : CS) (w : World) (hn : n = f.ds.length) (hA : Byt w.heap.size w A f.ds) (hT : Tab w) (hW : WTab w) :
    Calls Tryd.prog 6 #[.agg (f.cells A n c), .agg C.cells] w fun e w' => e = .returned (.bool true) ∧ Below w.heap.size w w' := by
  have h1 := fun (W : World) (hb : Below w.heap.size w W) => encode_any f A n c W hn (hA.on hb) (hT.on hb) (hW.on hb)
  have h2 := fun (W : World) (hb : Below w.heap.size w W) => begun_any W (hT.on hb) (hW.on hb)
  have h3 := fun (X : List Bool) (A' : Option Addr) (n' c' : Nat) (D : CS) (W : World) (hb : Below w.heap.size w W) (hv : Bv W X A' n') => goodX_at hv c' D (hT.on hb) (hW.on hb)
  have h4 := fun (W : World) => rcheckC_any C 8 W
  have H2 := Lib.hid h2; clear h2 hn hA
  by_cases hm : mayF f = true
  rotate_left
  · rw [show encF f = (50, []) from if_neg hm] at h1
    clear h3 h4 hm
    obtain ⟨fK, fR, ⟨fT, fP, fM, fN, fE⟩, fF, fd⟩ := f
    obtain ⟨C0, C1, C2, C3, C4⟩ := C
    unfold FR.cells CS.cells at *
    dsimp only at h1 ⊢
    have H1 := Lib.hid h1; clear h1
    obtain ⟨kf, kc, bc⟩ := bx2 w #[.int .i64 fK, .int .i64 fR, .int .i64 fT, .int .i64 fP, .int .i64 fM, .int .i64 fN, .int .i64 fE, .int .i64 fF, .slice A n c] #[.int .i64 C0, .int .i64 C1, .int .i64 C2, .int .i64 C3, .int .i64 C4] 26 23
    go_enter Tryd.func6, Tryd.ntmps6
    go_wp2_with fail
    generalize (w.alloc (.cells #[.int .i64 fK, .int .i64 fR, .int .i64 fT, .int .i64 fP, .int .i64 fM, .int .i64 fN, .int .i64 fE, .int .i64 fF, .slice A n c] 26)).alloc (.cells #[.int .i64 C0, .int .i64 C1, .int .i64 C2, .int .i64 C3, .int .i64 C4] 23) = u1 at *
    refine (H1.out _ bc).mono ?_
    rintro e w1 ⟨A1, n1, c1, rfl, v1, hC⟩
    dsimp only at v1 ⊢
    replace kf := kf.on hC; replace kc := kc.on hC; replace bc := bc.trans (hC.mono bc.size); clear hC
    have z_kb_kf := kf.lt
    have z_kb_kc := kc.lt
    have zb_kb := bc.size
    have kb := Blk.new w1 28 #[.int .i64 0, .slice A1 n1 c1]
    have al := Below.al w1 (.cells #[.int .i64 0, .slice A1 n1 c1] 28)
    replace kf := kf.on al; replace kc := kc.on al; replace v1 := v1.on al; replace bc := bc.trans (al.mono bc.size); clear al
    obtain ⟨pkf_0, pkf_1, pkf_2, pkf_3, pkf_4, pkf_5, pkf_6, pkf_7, pkf_8⟩ := kf.nine
    obtain ⟨pkf_0f, pkf_1f, pkf_2f, pkf_3f, pkf_4f, pkf_5f, pkf_6f, pkf_7f, pkf_8f⟩ := kf.nineF
    obtain ⟨⟨pkc_0, pkc_1, pkc_2, pkc_3, pkc_4⟩, pkc_0f, pkc_1f, pkc_2f, pkc_3f, pkc_4f⟩ := kc.five
    obtain ⟨pkb_0, pkb_1, pkb_0f, pkb_1f⟩ := kb.two
    go_wp2_with fail
    clear pkf_0 pkf_1 pkf_2 pkf_3 pkf_4 pkf_5 pkf_6 pkf_7 pkf_8 pkf_0f pkf_1f pkf_2f pkf_3f pkf_4f pkf_5f pkf_6f pkf_7f pkf_8f pkc_0 pkc_1 pkc_2 pkc_3 pkc_4 pkc_0f pkc_1f pkc_2f pkc_3f pkc_4f pkb_0 pkb_1 pkb_0f pkb_1f
    generalize w1.alloc (.cells #[.int .i64 0, .slice A1 n1 c1] 28) = u2 at *
    generalize w1.heap.size = g2 at *
    refine (H2.out _ bc).mono ?_
    rintro e w2 ⟨rfl, hC⟩
    dsimp only
    replace kf := kf.on hC; replace kc := kc.on hC; replace kb := kb.on hC; replace v1 := v1.on hC; replace bc := bc.trans (hC.mono bc.size); clear hC
    go_wp2_with fail
    refine (H2.out _ bc).mono ?_
    rintro e w3 ⟨rfl, hC⟩
    dsimp only
    replace kf := kf.on hC; replace kc := kc.on hC; replace kb := kb.on hC; replace v1 := v1.on hC; replace bc := bc.trans (hC.mono bc.size); clear hC
    go_wp2
    go_ret
    exact ⟨rfl, bc⟩
  rw [show encF f = (0, bitsF f) from if_pos hm] at h1
  have h5 := h3 (bitsF f)
  clear h3
  have go := good_own hm
  have gc := good_cold hm (C := C)
  have ga := good_other hm (C := C)
  have h6 := fun (A' : Option Addr) (n' c' : Nat) => h5 A' n' c' f.C
  have h7 := fun (A' : Option Addr) (n' c' : Nat) => h5 A' n' c' C
  clear h5
  generalize goodX (bitsF f) f.C = G1 at *
  generalize goodX (bitsF f) C = G2 at *
  generalize bitsF f = X at *
  have hck : checkC C 8 = if mayC C 8 = true then 0 else 40 := by unfold checkC; rw [if_neg (by decide)]
  generalize checkC C 8 = ck at *
  generalize hpc : mayC C 8 = pc at *
  obtain ⟨b1, pK, pR, ⟨pT, pP, pM, pN, pE⟩, pF, pd⟩ := G1
  obtain ⟨b2, qK, qR, ⟨qT, qP, qM, qN, qE⟩, qF, qd⟩ := G2
  obtain ⟨fK, fR, ⟨fT, fP, fM, fN, fE⟩, fF, fd⟩ := f
  obtain ⟨C0, C1, C2, C3, C4⟩ := C
  unfold ResG at h6 h7
  unfold FR.cells CS.cells at *
  dsimp only at h1 h6 h7 h4 go gc ga ⊢
  have H1 := Lib.hid h1; have H4 := Lib.hid h4; have H6 := Lib.hid h6; have H7 := Lib.hid h7; clear h1 h4 h6 h7 hm hpc
  by_cases hk : fK = 1
  · subst hk
    have e1 : b1 = false := by simpa using go
    have e2 := gc rfl
    subst e1 e2
    clear go gc ga hck
    obtain ⟨kf, kc, bc⟩ := bx2 w #[.int .i64 1, .int .i64 fR, .int .i64 fT, .int .i64 fP, .int .i64 fM, .int .i64 fN, .int .i64 fE, .int .i64 fF, .slice A n c] #[.int .i64 C0, .int .i64 C1, .int .i64 C2, .int .i64 C3, .int .i64 C4] 26 23
    go_enter Tryd.func6, Tryd.ntmps6
    go_wp2_with fail
    generalize (w.alloc (.cells #[.int .i64 1, .int .i64 fR, .int .i64 fT, .int .i64 fP, .int .i64 fM, .int .i64 fN, .int .i64 fE, .int .i64 fF, .slice A n c] 26)).alloc (.cells #[.int .i64 C0, .int .i64 C1, .int .i64 C2, .int .i64 C3, .int .i64 C4] 23) = u1 at *
    refine (H1.out _ bc).mono ?_
    rintro e w1 ⟨A1, n1, c1, rfl, v1, hC⟩
    dsimp only at v1 ⊢
    replace kf := kf.on hC; replace kc := kc.on hC; replace bc := bc.trans (hC.mono bc.size); clear hC
    have z_kb_kf := kf.lt
    have z_kb_kc := kc.lt
    have zb_kb := bc.size
    have kb := Blk.new w1 28 #[.int .i64 X.length, .slice A1 n1 c1]
    have al := Below.al w1 (.cells #[.int .i64 X.length, .slice A1 n1 c1] 28)
    replace kf := kf.on al; replace kc := kc.on al; replace v1 := v1.on al; replace bc := bc.trans (al.mono bc.size); clear al
    obtain ⟨pkf_0, pkf_1, pkf_2, pkf_3, pkf_4, pkf_5, pkf_6, pkf_7, pkf_8⟩ := kf.nine
    obtain ⟨pkf_0f, pkf_1f, pkf_2f, pkf_3f, pkf_4f, pkf_5f, pkf_6f, pkf_7f, pkf_8f⟩ := kf.nineF
    obtain ⟨⟨pkc_0, pkc_1, pkc_2, pkc_3, pkc_4⟩, pkc_0f, pkc_1f, pkc_2f, pkc_3f, pkc_4f⟩ := kc.five
    obtain ⟨pkb_0, pkb_1, pkb_0f, pkb_1f⟩ := kb.two
    go_wp2_with fail
    clear pkf_0 pkf_1 pkf_2 pkf_3 pkf_4 pkf_5 pkf_6 pkf_7 pkf_8 pkf_0f pkf_1f pkf_2f pkf_3f pkf_4f pkf_5f pkf_6f pkf_7f pkf_8f pkc_0 pkc_1 pkc_2 pkc_3 pkc_4 pkc_0f pkc_1f pkc_2f pkc_3f pkc_4f pkb_0 pkb_1 pkb_0f pkb_1f
    generalize w1.alloc (.cells #[.int .i64 X.length, .slice A1 n1 c1] 28) = u2 at *
    generalize w1.heap.size = g2 at *
    refine (H2.out _ bc).mono ?_
    rintro e w2 ⟨rfl, hC⟩
    dsimp only
    replace kf := kf.on hC; replace kc := kc.on hC; replace kb := kb.on hC; replace v1 := v1.on hC; replace bc := bc.trans (hC.mono bc.size); clear hC
    obtain ⟨pkf_0, pkf_1, pkf_2, pkf_3, pkf_4, pkf_5, pkf_6, pkf_7, pkf_8⟩ := kf.nine
    obtain ⟨pkf_0f, pkf_1f, pkf_2f, pkf_3f, pkf_4f, pkf_5f, pkf_6f, pkf_7f, pkf_8f⟩ := kf.nineF
    obtain ⟨⟨pkc_0, pkc_1, pkc_2, pkc_3, pkc_4⟩, pkc_0f, pkc_1f, pkc_2f, pkc_3f, pkc_4f⟩ := kc.five
    obtain ⟨pkb_0, pkb_1, pkb_0f, pkb_1f⟩ := kb.two
    go_wp2_with fail
    clear pkf_0 pkf_1 pkf_2 pkf_3 pkf_4 pkf_5 pkf_6 pkf_7 pkf_8 pkf_0f pkf_1f pkf_2f pkf_3f pkf_4f pkf_5f pkf_6f pkf_7f pkf_8f pkc_0 pkc_1 pkc_2 pkc_3 pkc_4 pkc_0f pkc_1f pkc_2f pkc_3f pkc_4f pkb_0 pkb_1 pkb_0f pkb_1f
    refine (H6.out A1 n1 c1 _ bc v1).mono ?_
    rintro e w3 ⟨A3, n3, c3, rfl, -, -, hC⟩
    dsimp only
    replace kf := kf.on hC; replace kc := kc.on hC; replace kb := kb.on hC; replace v1 := v1.on hC; replace bc := bc.trans (hC.mono bc.size); clear hC
    have z_kp_kf := kf.lt
    have z_kp_kc := kc.lt
    have z_kp_kb := kb.lt
    have zb_kp := bc.size
    have kp := Blk.new w3 26 #[.int .i64 pK, .int .i64 pR, .int .i64 pT, .int .i64 pP, .int .i64 pM, .int .i64 pN, .int .i64 pE, .int .i64 pF, .slice A3 n3 c3]
    have al := Below.al w3 (.cells #[.int .i64 pK, .int .i64 pR, .int .i64 pT, .int .i64 pP, .int .i64 pM, .int .i64 pN, .int .i64 pE, .int .i64 pF, .slice A3 n3 c3] 26)
    replace kf := kf.on al; replace kc := kc.on al; replace kb := kb.on al; replace v1 := v1.on al; replace bc := bc.trans (al.mono bc.size); clear al
    obtain ⟨pkf_0, pkf_1, pkf_2, pkf_3, pkf_4, pkf_5, pkf_6, pkf_7, pkf_8⟩ := kf.nine
    obtain ⟨pkf_0f, pkf_1f, pkf_2f, pkf_3f, pkf_4f, pkf_5f, pkf_6f, pkf_7f, pkf_8f⟩ := kf.nineF
    obtain ⟨⟨pkc_0, pkc_1, pkc_2, pkc_3, pkc_4⟩, pkc_0f, pkc_1f, pkc_2f, pkc_3f, pkc_4f⟩ := kc.five
    obtain ⟨pkb_0, pkb_1, pkb_0f, pkb_1f⟩ := kb.two
    go_wp2_with fail
    clear pkf_0 pkf_1 pkf_2 pkf_3 pkf_4 pkf_5 pkf_6 pkf_7 pkf_8 pkf_0f pkf_1f pkf_2f pkf_3f pkf_4f pkf_5f pkf_6f pkf_7f pkf_8f pkc_0 pkc_1 pkc_2 pkc_3 pkc_4 pkc_0f pkc_1f pkc_2f pkc_3f pkc_4f pkb_0 pkb_1 pkb_0f pkb_1f
    generalize w3.alloc (.cells #[.int .i64 pK, .int .i64 pR, .int .i64 pT, .int .i64 pP, .int .i64 pM, .int .i64 pN, .int .i64 pE, .int .i64 pF, .slice A3 n3 c3] 26) = u3 at *
    generalize w3.heap.size = g3 at *
    refine (H7.out A1 n1 c1 _ bc v1).mono ?_
    rintro e w4 ⟨A4, n4, c4, rfl, -, -, hC⟩
    dsimp only
    replace kf := kf.on hC; replace kc := kc.on hC; replace kb := kb.on hC; replace kp := kp.on hC; replace v1 := v1.on hC; replace bc := bc.trans (hC.mono bc.size); clear hC
    have z_kq_kf := kf.lt
    have z_kq_kc := kc.lt
    have z_kq_kb := kb.lt
    have z_kq_kp := kp.lt
    have zb_kq := bc.size
    have kq := Blk.new w4 26 #[.int .i64 qK, .int .i64 qR, .int .i64 qT, .int .i64 qP, .int .i64 qM, .int .i64 qN, .int .i64 qE, .int .i64 qF, .slice A4 n4 c4]
    have al := Below.al w4 (.cells #[.int .i64 qK, .int .i64 qR, .int .i64 qT, .int .i64 qP, .int .i64 qM, .int .i64 qN, .int .i64 qE, .int .i64 qF, .slice A4 n4 c4] 26)
    replace kf := kf.on al; replace kc := kc.on al; replace kb := kb.on al; replace kp := kp.on al; replace v1 := v1.on al; replace bc := bc.trans (al.mono bc.size); clear al
    obtain ⟨pkf_0, pkf_1, pkf_2, pkf_3, pkf_4, pkf_5, pkf_6, pkf_7, pkf_8⟩ := kf.nine
    obtain ⟨pkf_0f, pkf_1f, pkf_2f, pkf_3f, pkf_4f, pkf_5f, pkf_6f, pkf_7f, pkf_8f⟩ := kf.nineF
    obtain ⟨⟨pkc_0, pkc_1, pkc_2, pkc_3, pkc_4⟩, pkc_0f, pkc_1f, pkc_2f, pkc_3f, pkc_4f⟩ := kc.five
    obtain ⟨pkb_0, pkb_1, pkb_0f, pkb_1f⟩ := kb.two
    go_wp2
    go_ret
    exact ⟨rfl, bc⟩
  have dk : (fK == 1) = false := by simpa using hk
  have e1 : b1 = true := by rw [go, dk]; rfl
  subst e1
  clear go gc
  cases pc
  · have e3 : ck = 40 := by simpa using hck
    subst e3
    clear ga hck hk
    obtain ⟨kf, kc, bc⟩ := bx2 w #[.int .i64 fK, .int .i64 fR, .int .i64 fT, .int .i64 fP, .int .i64 fM, .int .i64 fN, .int .i64 fE, .int .i64 fF, .slice A n c] #[.int .i64 C0, .int .i64 C1, .int .i64 C2, .int .i64 C3, .int .i64 C4] 26 23
    go_enter Tryd.func6, Tryd.ntmps6
    go_wp2_with fail
    generalize (w.alloc (.cells #[.int .i64 fK, .int .i64 fR, .int .i64 fT, .int .i64 fP, .int .i64 fM, .int .i64 fN, .int .i64 fE, .int .i64 fF, .slice A n c] 26)).alloc (.cells #[.int .i64 C0, .int .i64 C1, .int .i64 C2, .int .i64 C3, .int .i64 C4] 23) = u1 at *
    refine (H1.out _ bc).mono ?_
    rintro e w1 ⟨A1, n1, c1, rfl, v1, hC⟩
    dsimp only at v1 ⊢
    replace kf := kf.on hC; replace kc := kc.on hC; replace bc := bc.trans (hC.mono bc.size); clear hC
    have z_kb_kf := kf.lt
    have z_kb_kc := kc.lt
    have zb_kb := bc.size
    have kb := Blk.new w1 28 #[.int .i64 X.length, .slice A1 n1 c1]
    have al := Below.al w1 (.cells #[.int .i64 X.length, .slice A1 n1 c1] 28)
    replace kf := kf.on al; replace kc := kc.on al; replace v1 := v1.on al; replace bc := bc.trans (al.mono bc.size); clear al
    obtain ⟨pkf_0, pkf_1, pkf_2, pkf_3, pkf_4, pkf_5, pkf_6, pkf_7, pkf_8⟩ := kf.nine
    obtain ⟨pkf_0f, pkf_1f, pkf_2f, pkf_3f, pkf_4f, pkf_5f, pkf_6f, pkf_7f, pkf_8f⟩ := kf.nineF
    obtain ⟨⟨pkc_0, pkc_1, pkc_2, pkc_3, pkc_4⟩, pkc_0f, pkc_1f, pkc_2f, pkc_3f, pkc_4f⟩ := kc.five
    obtain ⟨pkb_0, pkb_1, pkb_0f, pkb_1f⟩ := kb.two
    go_wp2_with fail
    clear pkf_0 pkf_1 pkf_2 pkf_3 pkf_4 pkf_5 pkf_6 pkf_7 pkf_8 pkf_0f pkf_1f pkf_2f pkf_3f pkf_4f pkf_5f pkf_6f pkf_7f pkf_8f pkc_0 pkc_1 pkc_2 pkc_3 pkc_4 pkc_0f pkc_1f pkc_2f pkc_3f pkc_4f pkb_0 pkb_1 pkb_0f pkb_1f
    generalize w1.alloc (.cells #[.int .i64 X.length, .slice A1 n1 c1] 28) = u2 at *
    generalize w1.heap.size = g2 at *
    refine (H2.out _ bc).mono ?_
    rintro e w2 ⟨rfl, hC⟩
    dsimp only
    replace kf := kf.on hC; replace kc := kc.on hC; replace kb := kb.on hC; replace v1 := v1.on hC; replace bc := bc.trans (hC.mono bc.size); clear hC
    obtain ⟨pkf_0, pkf_1, pkf_2, pkf_3, pkf_4, pkf_5, pkf_6, pkf_7, pkf_8⟩ := kf.nine
    obtain ⟨pkf_0f, pkf_1f, pkf_2f, pkf_3f, pkf_4f, pkf_5f, pkf_6f, pkf_7f, pkf_8f⟩ := kf.nineF
    obtain ⟨⟨pkc_0, pkc_1, pkc_2, pkc_3, pkc_4⟩, pkc_0f, pkc_1f, pkc_2f, pkc_3f, pkc_4f⟩ := kc.five
    obtain ⟨pkb_0, pkb_1, pkb_0f, pkb_1f⟩ := kb.two
    go_wp2_with fail
    clear pkf_0 pkf_1 pkf_2 pkf_3 pkf_4 pkf_5 pkf_6 pkf_7 pkf_8 pkf_0f pkf_1f pkf_2f pkf_3f pkf_4f pkf_5f pkf_6f pkf_7f pkf_8f pkc_0 pkc_1 pkc_2 pkc_3 pkc_4 pkc_0f pkc_1f pkc_2f pkc_3f pkc_4f pkb_0 pkb_1 pkb_0f pkb_1f
    refine (H6.out A1 n1 c1 _ bc v1).mono ?_
    rintro e w3 ⟨A3, n3, c3, rfl, -, -, hC⟩
    dsimp only
    replace kf := kf.on hC; replace kc := kc.on hC; replace kb := kb.on hC; replace v1 := v1.on hC; replace bc := bc.trans (hC.mono bc.size); clear hC
    have z_kp_kf := kf.lt
    have z_kp_kc := kc.lt
    have z_kp_kb := kb.lt
    have zb_kp := bc.size
    have kp := Blk.new w3 26 #[.int .i64 pK, .int .i64 pR, .int .i64 pT, .int .i64 pP, .int .i64 pM, .int .i64 pN, .int .i64 pE, .int .i64 pF, .slice A3 n3 c3]
    have al := Below.al w3 (.cells #[.int .i64 pK, .int .i64 pR, .int .i64 pT, .int .i64 pP, .int .i64 pM, .int .i64 pN, .int .i64 pE, .int .i64 pF, .slice A3 n3 c3] 26)
    replace kf := kf.on al; replace kc := kc.on al; replace kb := kb.on al; replace v1 := v1.on al; replace bc := bc.trans (al.mono bc.size); clear al
    obtain ⟨pkf_0, pkf_1, pkf_2, pkf_3, pkf_4, pkf_5, pkf_6, pkf_7, pkf_8⟩ := kf.nine
    obtain ⟨pkf_0f, pkf_1f, pkf_2f, pkf_3f, pkf_4f, pkf_5f, pkf_6f, pkf_7f, pkf_8f⟩ := kf.nineF
    obtain ⟨⟨pkc_0, pkc_1, pkc_2, pkc_3, pkc_4⟩, pkc_0f, pkc_1f, pkc_2f, pkc_3f, pkc_4f⟩ := kc.five
    obtain ⟨pkb_0, pkb_1, pkb_0f, pkb_1f⟩ := kb.two
    go_wp2_with fail
    clear pkf_0 pkf_1 pkf_2 pkf_3 pkf_4 pkf_5 pkf_6 pkf_7 pkf_8 pkf_0f pkf_1f pkf_2f pkf_3f pkf_4f pkf_5f pkf_6f pkf_7f pkf_8f pkc_0 pkc_1 pkc_2 pkc_3 pkc_4 pkc_0f pkc_1f pkc_2f pkc_3f pkc_4f pkb_0 pkb_1 pkb_0f pkb_1f
    generalize w3.alloc (.cells #[.int .i64 pK, .int .i64 pR, .int .i64 pT, .int .i64 pP, .int .i64 pM, .int .i64 pN, .int .i64 pE, .int .i64 pF, .slice A3 n3 c3] 26) = u3 at *
    generalize w3.heap.size = g3 at *
    refine (H7.out A1 n1 c1 _ bc v1).mono ?_
    rintro e w4 ⟨A4, n4, c4, rfl, -, -, hC⟩
    dsimp only
    replace kf := kf.on hC; replace kc := kc.on hC; replace kb := kb.on hC; replace kp := kp.on hC; replace v1 := v1.on hC; replace bc := bc.trans (hC.mono bc.size); clear hC
    have z_kq_kf := kf.lt
    have z_kq_kc := kc.lt
    have z_kq_kb := kb.lt
    have z_kq_kp := kp.lt
    have zb_kq := bc.size
    have kq := Blk.new w4 26 #[.int .i64 qK, .int .i64 qR, .int .i64 qT, .int .i64 qP, .int .i64 qM, .int .i64 qN, .int .i64 qE, .int .i64 qF, .slice A4 n4 c4]
    have al := Below.al w4 (.cells #[.int .i64 qK, .int .i64 qR, .int .i64 qT, .int .i64 qP, .int .i64 qM, .int .i64 qN, .int .i64 qE, .int .i64 qF, .slice A4 n4 c4] 26)
    replace kf := kf.on al; replace kc := kc.on al; replace kb := kb.on al; replace kp := kp.on al; replace v1 := v1.on al; replace bc := bc.trans (al.mono bc.size); clear al
    obtain ⟨pkf_0, pkf_1, pkf_2, pkf_3, pkf_4, pkf_5, pkf_6, pkf_7, pkf_8⟩ := kf.nine
    obtain ⟨pkf_0f, pkf_1f, pkf_2f, pkf_3f, pkf_4f, pkf_5f, pkf_6f, pkf_7f, pkf_8f⟩ := kf.nineF
    obtain ⟨⟨pkc_0, pkc_1, pkc_2, pkc_3, pkc_4⟩, pkc_0f, pkc_1f, pkc_2f, pkc_3f, pkc_4f⟩ := kc.five
    obtain ⟨pkb_0, pkb_1, pkb_0f, pkb_1f⟩ := kb.two
    go_wp2_with fail
    generalize w4.alloc (.cells #[.int .i64 qK, .int .i64 qR, .int .i64 qT, .int .i64 qP, .int .i64 qM, .int .i64 qN, .int .i64 qE, .int .i64 qF, .slice A4 n4 c4] 26) = u4 at *
    generalize w4.heap.size = g4 at *
    refine (H4.out _).mono ?_
    rintro e w5 ⟨rfl, hC⟩
    dsimp only
    replace kf := kf.on hC; replace kc := kc.on hC; replace kb := kb.on hC; replace kp := kp.on hC; replace kq := kq.on hC; replace v1 := v1.on hC; replace bc := bc.trans (hC.mono bc.size); clear hC
    obtain ⟨pkf_0, pkf_1, pkf_2, pkf_3, pkf_4, pkf_5, pkf_6, pkf_7, pkf_8⟩ := kf.nine
    obtain ⟨pkf_0f, pkf_1f, pkf_2f, pkf_3f, pkf_4f, pkf_5f, pkf_6f, pkf_7f, pkf_8f⟩ := kf.nineF
    obtain ⟨⟨pkc_0, pkc_1, pkc_2, pkc_3, pkc_4⟩, pkc_0f, pkc_1f, pkc_2f, pkc_3f, pkc_4f⟩ := kc.five
    go_wp2
    go_ret
    exact ⟨rfl, bc⟩
  · have e3 : ck = 0 := by simpa using hck
    subst e3
    have ga := ga hk rfl
    clear hck hk
    by_cases e2 : C0 = fT ∧ C1 = fP ∧ C2 = fM ∧ C3 = fN ∧ C4 = fE
    · obtain ⟨rfl, rfl, rfl, rfl, rfl⟩ := e2
      have e4 : b2 = true := by rw [ga]; simp [sameC]
      subst e4
      clear ga
      obtain ⟨kf, kc, bc⟩ := bx2 w #[.int .i64 fK, .int .i64 fR, .int .i64 C0, .int .i64 C1, .int .i64 C2, .int .i64 C3, .int .i64 C4, .int .i64 fF, .slice A n c] #[.int .i64 C0, .int .i64 C1, .int .i64 C2, .int .i64 C3, .int .i64 C4] 26 23
      go_enter Tryd.func6, Tryd.ntmps6
      go_wp2_with fail
      generalize (w.alloc (.cells #[.int .i64 fK, .int .i64 fR, .int .i64 C0, .int .i64 C1, .int .i64 C2, .int .i64 C3, .int .i64 C4, .int .i64 fF, .slice A n c] 26)).alloc (.cells #[.int .i64 C0, .int .i64 C1, .int .i64 C2, .int .i64 C3, .int .i64 C4] 23) = u1 at *
      refine (H1.out _ bc).mono ?_
      rintro e w1 ⟨A1, n1, c1, rfl, v1, hC⟩
      dsimp only at v1 ⊢
      replace kf := kf.on hC; replace kc := kc.on hC; replace bc := bc.trans (hC.mono bc.size); clear hC
      have z_kb_kf := kf.lt
      have z_kb_kc := kc.lt
      have zb_kb := bc.size
      have kb := Blk.new w1 28 #[.int .i64 X.length, .slice A1 n1 c1]
      have al := Below.al w1 (.cells #[.int .i64 X.length, .slice A1 n1 c1] 28)
      replace kf := kf.on al; replace kc := kc.on al; replace v1 := v1.on al; replace bc := bc.trans (al.mono bc.size); clear al
      obtain ⟨pkf_0, pkf_1, pkf_2, pkf_3, pkf_4, pkf_5, pkf_6, pkf_7, pkf_8⟩ := kf.nine
      obtain ⟨pkf_0f, pkf_1f, pkf_2f, pkf_3f, pkf_4f, pkf_5f, pkf_6f, pkf_7f, pkf_8f⟩ := kf.nineF
      obtain ⟨⟨pkc_0, pkc_1, pkc_2, pkc_3, pkc_4⟩, pkc_0f, pkc_1f, pkc_2f, pkc_3f, pkc_4f⟩ := kc.five
      obtain ⟨pkb_0, pkb_1, pkb_0f, pkb_1f⟩ := kb.two
      go_wp2_with fail
      clear pkf_0 pkf_1 pkf_2 pkf_3 pkf_4 pkf_5 pkf_6 pkf_7 pkf_8 pkf_0f pkf_1f pkf_2f pkf_3f pkf_4f pkf_5f pkf_6f pkf_7f pkf_8f pkc_0 pkc_1 pkc_2 pkc_3 pkc_4 pkc_0f pkc_1f pkc_2f pkc_3f pkc_4f pkb_0 pkb_1 pkb_0f pkb_1f
      generalize w1.alloc (.cells #[.int .i64 X.length, .slice A1 n1 c1] 28) = u2 at *
      generalize w1.heap.size = g2 at *
      refine (H2.out _ bc).mono ?_
      rintro e w2 ⟨rfl, hC⟩
      dsimp only
      replace kf := kf.on hC; replace kc := kc.on hC; replace kb := kb.on hC; replace v1 := v1.on hC; replace bc := bc.trans (hC.mono bc.size); clear hC
      obtain ⟨pkf_0, pkf_1, pkf_2, pkf_3, pkf_4, pkf_5, pkf_6, pkf_7, pkf_8⟩ := kf.nine
      obtain ⟨pkf_0f, pkf_1f, pkf_2f, pkf_3f, pkf_4f, pkf_5f, pkf_6f, pkf_7f, pkf_8f⟩ := kf.nineF
      obtain ⟨⟨pkc_0, pkc_1, pkc_2, pkc_3, pkc_4⟩, pkc_0f, pkc_1f, pkc_2f, pkc_3f, pkc_4f⟩ := kc.five
      obtain ⟨pkb_0, pkb_1, pkb_0f, pkb_1f⟩ := kb.two
      go_wp2_with fail
      clear pkf_0 pkf_1 pkf_2 pkf_3 pkf_4 pkf_5 pkf_6 pkf_7 pkf_8 pkf_0f pkf_1f pkf_2f pkf_3f pkf_4f pkf_5f pkf_6f pkf_7f pkf_8f pkc_0 pkc_1 pkc_2 pkc_3 pkc_4 pkc_0f pkc_1f pkc_2f pkc_3f pkc_4f pkb_0 pkb_1 pkb_0f pkb_1f
      refine (H6.out A1 n1 c1 _ bc v1).mono ?_
      rintro e w3 ⟨A3, n3, c3, rfl, -, -, hC⟩
      dsimp only
      replace kf := kf.on hC; replace kc := kc.on hC; replace kb := kb.on hC; replace v1 := v1.on hC; replace bc := bc.trans (hC.mono bc.size); clear hC
      have z_kp_kf := kf.lt
      have z_kp_kc := kc.lt
      have z_kp_kb := kb.lt
      have zb_kp := bc.size
      have kp := Blk.new w3 26 #[.int .i64 pK, .int .i64 pR, .int .i64 pT, .int .i64 pP, .int .i64 pM, .int .i64 pN, .int .i64 pE, .int .i64 pF, .slice A3 n3 c3]
      have al := Below.al w3 (.cells #[.int .i64 pK, .int .i64 pR, .int .i64 pT, .int .i64 pP, .int .i64 pM, .int .i64 pN, .int .i64 pE, .int .i64 pF, .slice A3 n3 c3] 26)
      replace kf := kf.on al; replace kc := kc.on al; replace kb := kb.on al; replace v1 := v1.on al; replace bc := bc.trans (al.mono bc.size); clear al
      obtain ⟨pkf_0, pkf_1, pkf_2, pkf_3, pkf_4, pkf_5, pkf_6, pkf_7, pkf_8⟩ := kf.nine
      obtain ⟨pkf_0f, pkf_1f, pkf_2f, pkf_3f, pkf_4f, pkf_5f, pkf_6f, pkf_7f, pkf_8f⟩ := kf.nineF
      obtain ⟨⟨pkc_0, pkc_1, pkc_2, pkc_3, pkc_4⟩, pkc_0f, pkc_1f, pkc_2f, pkc_3f, pkc_4f⟩ := kc.five
      obtain ⟨pkb_0, pkb_1, pkb_0f, pkb_1f⟩ := kb.two
      go_wp2_with fail
      clear pkf_0 pkf_1 pkf_2 pkf_3 pkf_4 pkf_5 pkf_6 pkf_7 pkf_8 pkf_0f pkf_1f pkf_2f pkf_3f pkf_4f pkf_5f pkf_6f pkf_7f pkf_8f pkc_0 pkc_1 pkc_2 pkc_3 pkc_4 pkc_0f pkc_1f pkc_2f pkc_3f pkc_4f pkb_0 pkb_1 pkb_0f pkb_1f
      generalize w3.alloc (.cells #[.int .i64 pK, .int .i64 pR, .int .i64 pT, .int .i64 pP, .int .i64 pM, .int .i64 pN, .int .i64 pE, .int .i64 pF, .slice A3 n3 c3] 26) = u3 at *
      generalize w3.heap.size = g3 at *
      refine (H7.out A1 n1 c1 _ bc v1).mono ?_
      rintro e w4 ⟨A4, n4, c4, rfl, -, -, hC⟩
      dsimp only
      replace kf := kf.on hC; replace kc := kc.on hC; replace kb := kb.on hC; replace kp := kp.on hC; replace v1 := v1.on hC; replace bc := bc.trans (hC.mono bc.size); clear hC
      have z_kq_kf := kf.lt
      have z_kq_kc := kc.lt
      have z_kq_kb := kb.lt
      have z_kq_kp := kp.lt
      have zb_kq := bc.size
      have kq := Blk.new w4 26 #[.int .i64 qK, .int .i64 qR, .int .i64 qT, .int .i64 qP, .int .i64 qM, .int .i64 qN, .int .i64 qE, .int .i64 qF, .slice A4 n4 c4]
      have al := Below.al w4 (.cells #[.int .i64 qK, .int .i64 qR, .int .i64 qT, .int .i64 qP, .int .i64 qM, .int .i64 qN, .int .i64 qE, .int .i64 qF, .slice A4 n4 c4] 26)
      replace kf := kf.on al; replace kc := kc.on al; replace kb := kb.on al; replace kp := kp.on al; replace v1 := v1.on al; replace bc := bc.trans (al.mono bc.size); clear al
      obtain ⟨pkf_0, pkf_1, pkf_2, pkf_3, pkf_4, pkf_5, pkf_6, pkf_7, pkf_8⟩ := kf.nine
      obtain ⟨pkf_0f, pkf_1f, pkf_2f, pkf_3f, pkf_4f, pkf_5f, pkf_6f, pkf_7f, pkf_8f⟩ := kf.nineF
      obtain ⟨⟨pkc_0, pkc_1, pkc_2, pkc_3, pkc_4⟩, pkc_0f, pkc_1f, pkc_2f, pkc_3f, pkc_4f⟩ := kc.five
      obtain ⟨pkb_0, pkb_1, pkb_0f, pkb_1f⟩ := kb.two
      go_wp2_with fail
      generalize w4.alloc (.cells #[.int .i64 qK, .int .i64 qR, .int .i64 qT, .int .i64 qP, .int .i64 qM, .int .i64 qN, .int .i64 qE, .int .i64 qF, .slice A4 n4 c4] 26) = u4 at *
      generalize w4.heap.size = g4 at *
      refine (H4.out _).mono ?_
      rintro e w5 ⟨rfl, hC⟩
      dsimp only
      replace kf := kf.on hC; replace kc := kc.on hC; replace kb := kb.on hC; replace kp := kp.on hC; replace kq := kq.on hC; replace v1 := v1.on hC; replace bc := bc.trans (hC.mono bc.size); clear hC
      obtain ⟨pkf_0, pkf_1, pkf_2, pkf_3, pkf_4, pkf_5, pkf_6, pkf_7, pkf_8⟩ := kf.nine
      obtain ⟨pkf_0f, pkf_1f, pkf_2f, pkf_3f, pkf_4f, pkf_5f, pkf_6f, pkf_7f, pkf_8f⟩ := kf.nineF
      obtain ⟨⟨pkc_0, pkc_1, pkc_2, pkc_3, pkc_4⟩, pkc_0f, pkc_1f, pkc_2f, pkc_3f, pkc_4f⟩ := kc.five
      go_wp2
      go_ret
      exact ⟨rfl, bc⟩
    · have hop := fun W => agg_ne (s0 := C0) (t0 := fT) (s1 := C1) (t1 := fP) (s2 := C2) (t2 := fM) (s3 := C3) (t3 := fN) (s4 := C4) (t4 := fE) e2 W
      have e4 : b2 = false := by rw [ga]; simpa [sameC] using e2
      subst e4
      clear ga e2
      obtain ⟨kf, kc, bc⟩ := bx2 w #[.int .i64 fK, .int .i64 fR, .int .i64 fT, .int .i64 fP, .int .i64 fM, .int .i64 fN, .int .i64 fE, .int .i64 fF, .slice A n c] #[.int .i64 C0, .int .i64 C1, .int .i64 C2, .int .i64 C3, .int .i64 C4] 26 23
      go_enter Tryd.func6, Tryd.ntmps6
      go_wp2_with fail
      generalize (w.alloc (.cells #[.int .i64 fK, .int .i64 fR, .int .i64 fT, .int .i64 fP, .int .i64 fM, .int .i64 fN, .int .i64 fE, .int .i64 fF, .slice A n c] 26)).alloc (.cells #[.int .i64 C0, .int .i64 C1, .int .i64 C2, .int .i64 C3, .int .i64 C4] 23) = u1 at *
      refine (H1.out _ bc).mono ?_
      rintro e w1 ⟨A1, n1, c1, rfl, v1, hC⟩
      dsimp only at v1 ⊢
      replace kf := kf.on hC; replace kc := kc.on hC; replace bc := bc.trans (hC.mono bc.size); clear hC
      have z_kb_kf := kf.lt
      have z_kb_kc := kc.lt
      have zb_kb := bc.size
      have kb := Blk.new w1 28 #[.int .i64 X.length, .slice A1 n1 c1]
      have al := Below.al w1 (.cells #[.int .i64 X.length, .slice A1 n1 c1] 28)
      replace kf := kf.on al; replace kc := kc.on al; replace v1 := v1.on al; replace bc := bc.trans (al.mono bc.size); clear al
      obtain ⟨pkf_0, pkf_1, pkf_2, pkf_3, pkf_4, pkf_5, pkf_6, pkf_7, pkf_8⟩ := kf.nine
      obtain ⟨pkf_0f, pkf_1f, pkf_2f, pkf_3f, pkf_4f, pkf_5f, pkf_6f, pkf_7f, pkf_8f⟩ := kf.nineF
      obtain ⟨⟨pkc_0, pkc_1, pkc_2, pkc_3, pkc_4⟩, pkc_0f, pkc_1f, pkc_2f, pkc_3f, pkc_4f⟩ := kc.five
      obtain ⟨pkb_0, pkb_1, pkb_0f, pkb_1f⟩ := kb.two
      go_wp2_with fail
      clear pkf_0 pkf_1 pkf_2 pkf_3 pkf_4 pkf_5 pkf_6 pkf_7 pkf_8 pkf_0f pkf_1f pkf_2f pkf_3f pkf_4f pkf_5f pkf_6f pkf_7f pkf_8f pkc_0 pkc_1 pkc_2 pkc_3 pkc_4 pkc_0f pkc_1f pkc_2f pkc_3f pkc_4f pkb_0 pkb_1 pkb_0f pkb_1f
      generalize w1.alloc (.cells #[.int .i64 X.length, .slice A1 n1 c1] 28) = u2 at *
      generalize w1.heap.size = g2 at *
      refine (H2.out _ bc).mono ?_
      rintro e w2 ⟨rfl, hC⟩
      dsimp only
      replace kf := kf.on hC; replace kc := kc.on hC; replace kb := kb.on hC; replace v1 := v1.on hC; replace bc := bc.trans (hC.mono bc.size); clear hC
      obtain ⟨pkf_0, pkf_1, pkf_2, pkf_3, pkf_4, pkf_5, pkf_6, pkf_7, pkf_8⟩ := kf.nine
      obtain ⟨pkf_0f, pkf_1f, pkf_2f, pkf_3f, pkf_4f, pkf_5f, pkf_6f, pkf_7f, pkf_8f⟩ := kf.nineF
      obtain ⟨⟨pkc_0, pkc_1, pkc_2, pkc_3, pkc_4⟩, pkc_0f, pkc_1f, pkc_2f, pkc_3f, pkc_4f⟩ := kc.five
      obtain ⟨pkb_0, pkb_1, pkb_0f, pkb_1f⟩ := kb.two
      go_wp2_with fail
      clear pkf_0 pkf_1 pkf_2 pkf_3 pkf_4 pkf_5 pkf_6 pkf_7 pkf_8 pkf_0f pkf_1f pkf_2f pkf_3f pkf_4f pkf_5f pkf_6f pkf_7f pkf_8f pkc_0 pkc_1 pkc_2 pkc_3 pkc_4 pkc_0f pkc_1f pkc_2f pkc_3f pkc_4f pkb_0 pkb_1 pkb_0f pkb_1f
      refine (H6.out A1 n1 c1 _ bc v1).mono ?_
      rintro e w3 ⟨A3, n3, c3, rfl, -, -, hC⟩
      dsimp only
      replace kf := kf.on hC; replace kc := kc.on hC; replace kb := kb.on hC; replace v1 := v1.on hC; replace bc := bc.trans (hC.mono bc.size); clear hC
      have z_kp_kf := kf.lt
      have z_kp_kc := kc.lt
      have z_kp_kb := kb.lt
      have zb_kp := bc.size
      have kp := Blk.new w3 26 #[.int .i64 pK, .int .i64 pR, .int .i64 pT, .int .i64 pP, .int .i64 pM, .int .i64 pN, .int .i64 pE, .int .i64 pF, .slice A3 n3 c3]
      have al := Below.al w3 (.cells #[.int .i64 pK, .int .i64 pR, .int .i64 pT, .int .i64 pP, .int .i64 pM, .int .i64 pN, .int .i64 pE, .int .i64 pF, .slice A3 n3 c3] 26)
      replace kf := kf.on al; replace kc := kc.on al; replace kb := kb.on al; replace v1 := v1.on al; replace bc := bc.trans (al.mono bc.size); clear al
      obtain ⟨pkf_0, pkf_1, pkf_2, pkf_3, pkf_4, pkf_5, pkf_6, pkf_7, pkf_8⟩ := kf.nine
      obtain ⟨pkf_0f, pkf_1f, pkf_2f, pkf_3f, pkf_4f, pkf_5f, pkf_6f, pkf_7f, pkf_8f⟩ := kf.nineF
      obtain ⟨⟨pkc_0, pkc_1, pkc_2, pkc_3, pkc_4⟩, pkc_0f, pkc_1f, pkc_2f, pkc_3f, pkc_4f⟩ := kc.five
      obtain ⟨pkb_0, pkb_1, pkb_0f, pkb_1f⟩ := kb.two
      go_wp2_with fail
      clear pkf_0 pkf_1 pkf_2 pkf_3 pkf_4 pkf_5 pkf_6 pkf_7 pkf_8 pkf_0f pkf_1f pkf_2f pkf_3f pkf_4f pkf_5f pkf_6f pkf_7f pkf_8f pkc_0 pkc_1 pkc_2 pkc_3 pkc_4 pkc_0f pkc_1f pkc_2f pkc_3f pkc_4f pkb_0 pkb_1 pkb_0f pkb_1f
      generalize w3.alloc (.cells #[.int .i64 pK, .int .i64 pR, .int .i64 pT, .int .i64 pP, .int .i64 pM, .int .i64 pN, .int .i64 pE, .int .i64 pF, .slice A3 n3 c3] 26) = u3 at *
      generalize w3.heap.size = g3 at *
      refine (H7.out A1 n1 c1 _ bc v1).mono ?_
      rintro e w4 ⟨A4, n4, c4, rfl, -, -, hC⟩
      dsimp only
      replace kf := kf.on hC; replace kc := kc.on hC; replace kb := kb.on hC; replace kp := kp.on hC; replace v1 := v1.on hC; replace bc := bc.trans (hC.mono bc.size); clear hC
      have z_kq_kf := kf.lt
      have z_kq_kc := kc.lt
      have z_kq_kb := kb.lt
      have z_kq_kp := kp.lt
      have zb_kq := bc.size
      have kq := Blk.new w4 26 #[.int .i64 qK, .int .i64 qR, .int .i64 qT, .int .i64 qP, .int .i64 qM, .int .i64 qN, .int .i64 qE, .int .i64 qF, .slice A4 n4 c4]
      have al := Below.al w4 (.cells #[.int .i64 qK, .int .i64 qR, .int .i64 qT, .int .i64 qP, .int .i64 qM, .int .i64 qN, .int .i64 qE, .int .i64 qF, .slice A4 n4 c4] 26)
      replace kf := kf.on al; replace kc := kc.on al; replace kb := kb.on al; replace kp := kp.on al; replace v1 := v1.on al; replace bc := bc.trans (al.mono bc.size); clear al
      obtain ⟨pkf_0, pkf_1, pkf_2, pkf_3, pkf_4, pkf_5, pkf_6, pkf_7, pkf_8⟩ := kf.nine
      obtain ⟨pkf_0f, pkf_1f, pkf_2f, pkf_3f, pkf_4f, pkf_5f, pkf_6f, pkf_7f, pkf_8f⟩ := kf.nineF
      obtain ⟨⟨pkc_0, pkc_1, pkc_2, pkc_3, pkc_4⟩, pkc_0f, pkc_1f, pkc_2f, pkc_3f, pkc_4f⟩ := kc.five
      obtain ⟨pkb_0, pkb_1, pkb_0f, pkb_1f⟩ := kb.two
      go_wp2_with fail
      generalize w4.alloc (.cells #[.int .i64 qK, .int .i64 qR, .int .i64 qT, .int .i64 qP, .int .i64 qM, .int .i64 qN, .int .i64 qE, .int .i64 qF, .slice A4 n4 c4] 26) = u4 at *
      generalize w4.heap.size = g4 at *
      refine (H4.out _).mono ?_
      rintro e w5 ⟨rfl, hC⟩
      dsimp only
      replace kf := kf.on hC; replace kc := kc.on hC; replace kb := kb.on hC; replace kp := kp.on hC; replace kq := kq.on hC; replace v1 := v1.on hC; replace bc := bc.trans (hC.mono bc.size); clear hC
      obtain ⟨pkf_0, pkf_1, pkf_2, pkf_3, pkf_4, pkf_5, pkf_6, pkf_7, pkf_8⟩ := kf.nine
      obtain ⟨pkf_0f, pkf_1f, pkf_2f, pkf_3f, pkf_4f, pkf_5f, pkf_6f, pkf_7f, pkf_8f⟩ := kf.nineF
      obtain ⟨⟨pkc_0, pkc_1, pkc_2, pkc_3, pkc_4⟩, pkc_0f, pkc_1f, pkc_2f, pkc_3f, pkc_4f⟩ := kc.five
      go_wp2
      go_ret
      exact ⟨rfl, bc⟩
end Go.Proofs.YtcfbeelljhjnoaaDoor
