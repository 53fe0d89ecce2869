/-
  The law of back: a frame is read as it was, by those with its state, and what is read has those bits. Conditions: that the bytes can be read, and that the program's tables hold what its text lays.
-/
import Derived.Test.YtcfbeelljhjnoaaDoorNW
namespace Go.Proofs.YtcfbeelljhjnoaaDoor
open Go.RowKit

theorem readX_own {f : FR} (hm : mayF f = true) : readX (bitsF f) f.C = (0, f) := by
  unfold readX; rw [if_pos (mayF_C hm), read_own hm]
/-- What is read of bits has those bits. -/
theorem read_backF {N : Int} {bs : List UInt8} {C : CS} (h : (readF N bs C).1 = 0) : goodB N bs = true ∧ encF (readF N bs C).2 = (0, listOf N bs) := by
  unfold readF at h ⊢
  by_cases hg : goodB N bs = true
  · rw [if_pos hg] at h ⊢
    by_cases hC : mayC C 8 = true
    · rw [if_pos hC] at h ⊢
      obtain ⟨h1, h2⟩ := back_L h
      exact ⟨hg, by unfold encF; rw [if_pos h1, h2]⟩
    · rw [if_neg hC] at h; exact absurd h (by decide)
  · rw [if_neg hg] at h; exact absurd h (by decide)
set_option maxRecDepth 8000 in
theorem sameB_list {w : World} {N : Int} {B : Option Addr} {m d : Nat} {bs : List UInt8} {A : Option Addr} {n c : Nat} (hn : m = bs.length) (hB : Byt w.heap.size w B bs) (hg : goodB N bs = true) (hv : Bv w (listOf N bs) A n) :
    Calls Tryd.prog 15 #[.agg #[.int .i64 (listOf N bs).length, .slice A n c], .agg #[.int .i64 N, .slice B m d]] w fun e w' => e = .returned (.bool true) ∧ Below w.heap.size w w' := by
  obtain ⟨hv2, hN⟩ := Bv.of_good hn hB hg
  have h := sameX_at hv hv2 c d
  rw [decide_eq_true rfl] at h
  have key : ∀ M : Int, M = ((listOf N bs).length : Int) → Calls Tryd.prog 15 #[.agg #[.int .i64 (listOf N bs).length, .slice A n c], .agg #[.int .i64 M, .slice B m d]] w fun e w' => e = .returned (.bool true) ∧ Below w.heap.size w w' := by
    rintro M rfl
    exact h
  exact key N hN
set_option maxRecDepth 8000 in
set_option maxHeartbeats 16000000 in
theorem back_law5 (f : FR) (A : Option Addr) (n c : Nat) (N : Int) (B : Option Addr) (m d : Nat) (bs : List UInt8) (C : CS) (w : World) (hn : n = f.ds.length) (hA : Byt w.heap.size w A f.ds) (hm : m = bs.length) (hm2 : m ≤ maxLen) (hB : Byt w.heap.size w B bs) (hT : Tab w) (hW : WTab w) :
    Calls Tryd.prog 5 #[.agg (f.cells A n c), .agg #[.int .i64 N, .slice B m d], .agg C.cells] w fun e w' => e = .returned (.bool true) ∧ Below w.heap.size w w' := by
  have h1 := fun (W : World) (hb : Below w.heap.size w W) => encode_any f A n c W hn (hA.on hb) (hT.on hb) (hW.on hb)
  have h2 := fun (W : World) (hb : Below w.heap.size w W) => begun_any W (hT.on hb) (hW.on hb)
  have h3 := fun (X : List Bool) (A' : Option Addr) (n' c' : Nat) (W : World) (hb : Below w.heap.size w W) (hv : Bv W X A' n') => parseX_at hv c' f.C (hT.on hb) (hW.on hb)
  have h4 := fun (W : World) (hb : Below w.heap.size w W) => parse_any N B m d bs C W hm hm2 (hB.on hb) (hT.on hb) (hW.on hb)
  have h5 := fun (g : FR) (A' : Option Addr) (n' c' : Nat) (W : World) (hb : Below w.heap.size w W) (hn' : n' = g.ds.length) (hA' : Byt W.heap.size W A' g.ds) => encode_any g A' n' c' W hn' hA' (hT.on hb) (hW.on hb)
  have h6 := fun (A' : Option Addr) (n' c' : Nat) (W : World) (hb : Below w.heap.size w W) (hn' : n' = f.ds.length) (hA' : Byt W.heap.size W A' f.ds) => rsamef_any f f A n c A' n' c' W hn hn' (hA.on hb) hA'
  rw [sameF_self] at h6
  have h7 := fun (hg : goodB N bs = true) (A' : Option Addr) (n' c' : Nat) (W : World) (hb : Below w.heap.size w W) (hv : Bv W (listOf N bs) A' n') => sameB_list (c := c') (d := d) hm (hB.on hb) hg hv
  have h8 := fun (W : World) => size_any f.K n W
  have hz := fun (hm : mayF f = true) => bitsF_length f ⟨((mayF_iff f).1 hm).1, ((mayF_iff f).1 hm).2.1⟩ ((mayF_iff f).1 hm).2.2.2.2.2.1 ((mayF_iff f).1 hm).2.2.2.2.2.2.1
  rw [← hn] at hz
  have hr := fun (h : (readF N bs C).1 = 0) => read_backF h
  have H2 := Lib.hid h2; have HN := Lib.hid hn; clear h2 hm hm2 hA hB
  generalize readF N bs C = R at *
  generalize listOf N bs = L at *
  have h5 := h5 R.2
  generalize hpg : goodB N bs = pg at *
  clear hpg
  obtain ⟨er, rK, rR, ⟨rT, rP, rM, rN, rE⟩, rF, rd⟩ := R
  dsimp only at h5 hr
  generalize encF ⟨rK, rR, ⟨rT, rP, rM, rN, rE⟩, rF, rd⟩ = E at *
  unfold ResF at h4
  have H5 := Lib.hid h5; clear h5
  by_cases hm : mayF f = true
  rotate_left
  · rw [show encF f = (50, []) from if_neg hm] at h1
    clear h3 h6 h8 hz hm hn
    obtain ⟨fK, fR, ⟨fT, fP, fM, fN, fE⟩, fF, fd⟩ := f
    obtain ⟨C0, C1, C2, C3, C4⟩ := C
    unfold FR.cells CS.cells at *
    dsimp only at h1 h4 ⊢
    have H1 := Lib.hid h1; have H4 := Lib.hid h4; have H7 := Lib.hid h7; clear h1 h4 h7
    obtain ⟨kf, kb, kc, bc⟩ := bx3 w #[.int .i64 fK, .int .i64 fR, .int .i64 fT, .int .i64 fP, .int .i64 fM, .int .i64 fN, .int .i64 fE, .int .i64 fF, .slice A n c] #[.int .i64 N, .slice B m d] #[.int .i64 C0, .int .i64 C1, .int .i64 C2, .int .i64 C3, .int .i64 C4] 26 28 23
    go_enter Tryd.func5, Tryd.ntmps5
    go_wp2_with fail
    generalize ((w.alloc (.cells #[.int .i64 fK, .int .i64 fR, .int .i64 fT, .int .i64 fP, .int .i64 fM, .int .i64 fN, .int .i64 fE, .int .i64 fF, .slice A n c] 26)).alloc (.cells #[.int .i64 N, .slice B m d] 28)).alloc (.cells #[.int .i64 C0, .int .i64 C1, .int .i64 C2, .int .i64 C3, .int .i64 C4] 23) = u1 at *
    refine (H2.out _ bc).mono ?_
    rintro e w1 ⟨rfl, hC⟩
    dsimp only
    replace kf := kf.on hC; replace kb := kb.on hC; replace kc := kc.on hC; replace bc := bc.trans (hC.mono bc.size); clear hC
    obtain ⟨pkf_0, pkf_1, pkf_2, pkf_3, pkf_4, pkf_5, pkf_6, pkf_7, pkf_8⟩ := kf.nine
    obtain ⟨pkf_0f, pkf_1f, pkf_2f, pkf_3f, pkf_4f, pkf_5f, pkf_6f, pkf_7f, pkf_8f⟩ := kf.nineF
    obtain ⟨pkb_0, pkb_1, pkb_0f, pkb_1f⟩ := kb.two
    obtain ⟨⟨pkc_0, pkc_1, pkc_2, pkc_3, pkc_4⟩, pkc_0f, pkc_1f, pkc_2f, pkc_3f, pkc_4f⟩ := kc.five
    go_wp2_with fail
    clear pkf_0 pkf_1 pkf_2 pkf_3 pkf_4 pkf_5 pkf_6 pkf_7 pkf_8 pkf_0f pkf_1f pkf_2f pkf_3f pkf_4f pkf_5f pkf_6f pkf_7f pkf_8f pkb_0 pkb_1 pkb_0f pkb_1f pkc_0 pkc_1 pkc_2 pkc_3 pkc_4 pkc_0f pkc_1f pkc_2f pkc_3f pkc_4f
    refine (H1.out _ bc).mono ?_
    rintro e w2 ⟨A2, n2, c2, rfl, v2, hC⟩
    dsimp only at v2 ⊢
    replace kf := kf.on hC; replace kb := kb.on hC; replace kc := kc.on hC; replace bc := bc.trans (hC.mono bc.size); clear hC
    have z_kx_kf := kf.lt
    have z_kx_kb := kb.lt
    have z_kx_kc := kc.lt
    have zb_kx := bc.size
    have kx := Blk.new w2 28 #[.int .i64 0, .slice A2 n2 c2]
    have al := Below.al w2 (.cells #[.int .i64 0, .slice A2 n2 c2] 28)
    replace kf := kf.on al; replace kb := kb.on al; replace kc := kc.on al; replace v2 := v2.on al; replace bc := bc.trans (al.mono bc.size); clear al
    obtain ⟨pkf_0, pkf_1, pkf_2, pkf_3, pkf_4, pkf_5, pkf_6, pkf_7, pkf_8⟩ := kf.nine
    obtain ⟨pkf_0f, pkf_1f, pkf_2f, pkf_3f, pkf_4f, pkf_5f, pkf_6f, pkf_7f, pkf_8f⟩ := kf.nineF
    obtain ⟨pkb_0, pkb_1, pkb_0f, pkb_1f⟩ := kb.two
    obtain ⟨⟨pkc_0, pkc_1, pkc_2, pkc_3, pkc_4⟩, pkc_0f, pkc_1f, pkc_2f, pkc_3f, pkc_4f⟩ := kc.five
    obtain ⟨pkx_0, pkx_1, pkx_0f, pkx_1f⟩ := kx.two
    go_wp2_with fail
    clear pkf_0 pkf_1 pkf_2 pkf_3 pkf_4 pkf_5 pkf_6 pkf_7 pkf_8 pkf_0f pkf_1f pkf_2f pkf_3f pkf_4f pkf_5f pkf_6f pkf_7f pkf_8f pkb_0 pkb_1 pkb_0f pkb_1f pkc_0 pkc_1 pkc_2 pkc_3 pkc_4 pkc_0f pkc_1f pkc_2f pkc_3f pkc_4f pkx_0 pkx_1 pkx_0f pkx_1f
    generalize w2.alloc (.cells #[.int .i64 0, .slice A2 n2 c2] 28) = u2 at *
    generalize w2.heap.size = g2 at *
    refine (H4.out _ bc).mono ?_
    rintro e w5 ⟨A5, n5, c5, rfl, hn5, y5, hC⟩
    dsimp only at y5 ⊢
    replace kf := kf.on hC; replace kb := kb.on hC; replace kc := kc.on hC; replace kx := kx.on hC; replace v2 := v2.on hC; replace bc := bc.trans (hC.mono bc.size); clear hC
    have HN5 := Lib.hid hn5; clear hn5
    have z_kr_kf := kf.lt
    have z_kr_kb := kb.lt
    have z_kr_kc := kc.lt
    have z_kr_kx := kx.lt
    have zb_kr := bc.size
    have kr := Blk.new w5 26 #[.int .i64 rK, .int .i64 rR, .int .i64 rT, .int .i64 rP, .int .i64 rM, .int .i64 rN, .int .i64 rE, .int .i64 rF, .slice A5 n5 c5]
    have al := Below.al w5 (.cells #[.int .i64 rK, .int .i64 rR, .int .i64 rT, .int .i64 rP, .int .i64 rM, .int .i64 rN, .int .i64 rE, .int .i64 rF, .slice A5 n5 c5] 26)
    replace kf := kf.on al; replace kb := kb.on al; replace kc := kc.on al; replace kx := kx.on al; replace v2 := v2.on al; replace y5 := y5.on al; replace bc := bc.trans (al.mono bc.size); clear al
    by_cases e0 : er = 0
    rotate_left
    · have d1 : (er == 0) = false := by simpa using e0
      have d2 : decide (er = 0) = false := by simpa using e0
      obtain ⟨pkf_0, pkf_1, pkf_2, pkf_3, pkf_4, pkf_5, pkf_6, pkf_7, pkf_8⟩ := kf.nine
      obtain ⟨pkf_0f, pkf_1f, pkf_2f, pkf_3f, pkf_4f, pkf_5f, pkf_6f, pkf_7f, pkf_8f⟩ := kf.nineF
      obtain ⟨pkb_0, pkb_1, pkb_0f, pkb_1f⟩ := kb.two
      obtain ⟨⟨pkc_0, pkc_1, pkc_2, pkc_3, pkc_4⟩, pkc_0f, pkc_1f, pkc_2f, pkc_3f, pkc_4f⟩ := kc.five
      obtain ⟨pkx_0, pkx_1, pkx_0f, pkx_1f⟩ := kx.two
      obtain ⟨pkr_0, pkr_1, pkr_2, pkr_3, pkr_4, pkr_5, pkr_6, pkr_7, pkr_8⟩ := kr.nine
      obtain ⟨pkr_0f, pkr_1f, pkr_2f, pkr_3f, pkr_4f, pkr_5f, pkr_6f, pkr_7f, pkr_8f⟩ := kr.nineF
      go_wp2
      go_ret
      exact ⟨by rfl, bc⟩
    subst e0
    obtain ⟨hg, he⟩ := hr rfl
    subst hg
    have h5 := H5.out
    rw [he] at h5
    have h7 := fun (B1 : Option Addr) (m1 d1 : Nat) (W : World) (hb : Below w.heap.size w W) (hv : Bv W L B1 m1) => H7.out (by simp) B1 m1 d1 W hb hv
    have H5b := Lib.hid h5; have H7b := Lib.hid h7
    clear h5 h7 he hr H5 H7
    obtain ⟨pkf_0, pkf_1, pkf_2, pkf_3, pkf_4, pkf_5, pkf_6, pkf_7, pkf_8⟩ := kf.nine
    obtain ⟨pkf_0f, pkf_1f, pkf_2f, pkf_3f, pkf_4f, pkf_5f, pkf_6f, pkf_7f, pkf_8f⟩ := kf.nineF
    obtain ⟨pkb_0, pkb_1, pkb_0f, pkb_1f⟩ := kb.two
    obtain ⟨⟨pkc_0, pkc_1, pkc_2, pkc_3, pkc_4⟩, pkc_0f, pkc_1f, pkc_2f, pkc_3f, pkc_4f⟩ := kc.five
    obtain ⟨pkx_0, pkx_1, pkx_0f, pkx_1f⟩ := kx.two
    obtain ⟨pkr_0, pkr_1, pkr_2, pkr_3, pkr_4, pkr_5, pkr_6, pkr_7, pkr_8⟩ := kr.nine
    obtain ⟨pkr_0f, pkr_1f, pkr_2f, pkr_3f, pkr_4f, pkr_5f, pkr_6f, pkr_7f, pkr_8f⟩ := kr.nineF
    go_wp2_with fail
    clear pkf_0 pkf_1 pkf_2 pkf_3 pkf_4 pkf_5 pkf_6 pkf_7 pkf_8 pkf_0f pkf_1f pkf_2f pkf_3f pkf_4f pkf_5f pkf_6f pkf_7f pkf_8f pkb_0 pkb_1 pkb_0f pkb_1f pkc_0 pkc_1 pkc_2 pkc_3 pkc_4 pkc_0f pkc_1f pkc_2f pkc_3f pkc_4f pkx_0 pkx_1 pkx_0f pkx_1f pkr_0 pkr_1 pkr_2 pkr_3 pkr_4 pkr_5 pkr_6 pkr_7 pkr_8 pkr_0f pkr_1f pkr_2f pkr_3f pkr_4f pkr_5f pkr_6f pkr_7f pkr_8f
    generalize w5.alloc (.cells #[.int .i64 rK, .int .i64 rR, .int .i64 rT, .int .i64 rP, .int .i64 rM, .int .i64 rN, .int .i64 rE, .int .i64 rF, .slice A5 n5 c5] 26) = u3 at *
    generalize w5.heap.size = g3 at *
    refine (H5b.out A5 n5 c5 _ bc HN5.out y5).mono ?_
    rintro e w6 ⟨A6, n6, c6, rfl, v6, hC⟩
    dsimp only at v6 ⊢
    replace kf := kf.on hC; replace kb := kb.on hC; replace kc := kc.on hC; replace kx := kx.on hC; replace kr := kr.on hC; replace v2 := v2.on hC; replace y5 := y5.on hC; replace bc := bc.trans (hC.mono bc.size); clear hC
    have z_ke_kf := kf.lt
    have z_ke_kb := kb.lt
    have z_ke_kc := kc.lt
    have z_ke_kx := kx.lt
    have z_ke_kr := kr.lt
    have zb_ke := bc.size
    have ke := Blk.new w6 28 #[.int .i64 L.length, .slice A6 n6 c6]
    have al := Below.al w6 (.cells #[.int .i64 L.length, .slice A6 n6 c6] 28)
    replace kf := kf.on al; replace kb := kb.on al; replace kc := kc.on al; replace kx := kx.on al; replace kr := kr.on al; replace v2 := v2.on al; replace y5 := y5.on al; replace v6 := v6.on al; replace bc := bc.trans (al.mono bc.size); clear al
    obtain ⟨pkb_0, pkb_1, pkb_0f, pkb_1f⟩ := kb.two
    obtain ⟨pke_0, pke_1, pke_0f, pke_1f⟩ := ke.two
    go_wp2_with fail
    clear pkb_0 pkb_1 pkb_0f pkb_1f pke_0 pke_1 pke_0f pke_1f
    generalize w6.alloc (.cells #[.int .i64 L.length, .slice A6 n6 c6] 28) = u4 at *
    generalize w6.heap.size = g4 at *
    refine (H7b.out A6 n6 c6 _ bc v6).mono ?_
    rintro e w7 ⟨rfl, hC⟩
    dsimp only
    replace kf := kf.on hC; replace kb := kb.on hC; replace kc := kc.on hC; replace kx := kx.on hC; replace kr := kr.on hC; replace ke := ke.on hC; replace v2 := v2.on hC; replace y5 := y5.on hC; replace v6 := v6.on hC; replace bc := bc.trans (hC.mono bc.size); clear hC
    go_wp2
    go_ret
    exact ⟨by rfl, bc⟩
  rw [show encF f = (0, bitsF f) from if_pos hm] at h1
  have hz := hz hm
  have h3 := h3 (bitsF f)
  rw [readX_own hm] at h3
  rw [← hz] at h8
  generalize bitsF f = X at *
  clear hz hm hn
  obtain ⟨fK, fR, ⟨fT, fP, fM, fN, fE⟩, fF, fd⟩ := f
  obtain ⟨C0, C1, C2, C3, C4⟩ := C
  unfold FR.cells CS.cells at *
  unfold ResF at h3
  unfold FR.cells at h3
  dsimp only at h1 h3 h4 h6 h8 HN ⊢
  have H1 := Lib.hid h1; have H3 := Lib.hid h3; have H4 := Lib.hid h4; have H6 := Lib.hid h6; have H7 := Lib.hid h7; have H8 := Lib.hid h8; clear h1 h3 h4 h6 h7 h8
  obtain ⟨kf, kb, kc, bc⟩ := bx3 w #[.int .i64 fK, .int .i64 fR, .int .i64 fT, .int .i64 fP, .int .i64 fM, .int .i64 fN, .int .i64 fE, .int .i64 fF, .slice A n c] #[.int .i64 N, .slice B m d] #[.int .i64 C0, .int .i64 C1, .int .i64 C2, .int .i64 C3, .int .i64 C4] 26 28 23
  go_enter Tryd.func5, Tryd.ntmps5
  go_wp2_with fail
  generalize ((w.alloc (.cells #[.int .i64 fK, .int .i64 fR, .int .i64 fT, .int .i64 fP, .int .i64 fM, .int .i64 fN, .int .i64 fE, .int .i64 fF, .slice A n c] 26)).alloc (.cells #[.int .i64 N, .slice B m d] 28)).alloc (.cells #[.int .i64 C0, .int .i64 C1, .int .i64 C2, .int .i64 C3, .int .i64 C4] 23) = u1 at *
  refine (H2.out _ bc).mono ?_
  rintro e w1 ⟨rfl, hC⟩
  dsimp only
  replace kf := kf.on hC; replace kb := kb.on hC; replace kc := kc.on hC; replace bc := bc.trans (hC.mono bc.size); clear hC
  obtain ⟨pkf_0, pkf_1, pkf_2, pkf_3, pkf_4, pkf_5, pkf_6, pkf_7, pkf_8⟩ := kf.nine
  obtain ⟨pkf_0f, pkf_1f, pkf_2f, pkf_3f, pkf_4f, pkf_5f, pkf_6f, pkf_7f, pkf_8f⟩ := kf.nineF
  obtain ⟨pkb_0, pkb_1, pkb_0f, pkb_1f⟩ := kb.two
  obtain ⟨⟨pkc_0, pkc_1, pkc_2, pkc_3, pkc_4⟩, pkc_0f, pkc_1f, pkc_2f, pkc_3f, pkc_4f⟩ := kc.five
  go_wp2_with fail
  clear pkf_0 pkf_1 pkf_2 pkf_3 pkf_4 pkf_5 pkf_6 pkf_7 pkf_8 pkf_0f pkf_1f pkf_2f pkf_3f pkf_4f pkf_5f pkf_6f pkf_7f pkf_8f pkb_0 pkb_1 pkb_0f pkb_1f pkc_0 pkc_1 pkc_2 pkc_3 pkc_4 pkc_0f pkc_1f pkc_2f pkc_3f pkc_4f
  refine (H1.out _ bc).mono ?_
  rintro e w2 ⟨A2, n2, c2, rfl, v2, hC⟩
  dsimp only at v2 ⊢
  replace kf := kf.on hC; replace kb := kb.on hC; replace kc := kc.on hC; replace bc := bc.trans (hC.mono bc.size); clear hC
  have z_kx_kf := kf.lt
  have z_kx_kb := kb.lt
  have z_kx_kc := kc.lt
  have zb_kx := bc.size
  have kx := Blk.new w2 28 #[.int .i64 X.length, .slice A2 n2 c2]
  have al := Below.al w2 (.cells #[.int .i64 X.length, .slice A2 n2 c2] 28)
  replace kf := kf.on al; replace kb := kb.on al; replace kc := kc.on al; replace v2 := v2.on al; replace bc := bc.trans (al.mono bc.size); clear al
  obtain ⟨pkf_0, pkf_1, pkf_2, pkf_3, pkf_4, pkf_5, pkf_6, pkf_7, pkf_8⟩ := kf.nine
  obtain ⟨pkf_0f, pkf_1f, pkf_2f, pkf_3f, pkf_4f, pkf_5f, pkf_6f, pkf_7f, pkf_8f⟩ := kf.nineF
  obtain ⟨pkb_0, pkb_1, pkb_0f, pkb_1f⟩ := kb.two
  obtain ⟨⟨pkc_0, pkc_1, pkc_2, pkc_3, pkc_4⟩, pkc_0f, pkc_1f, pkc_2f, pkc_3f, pkc_4f⟩ := kc.five
  obtain ⟨pkx_0, pkx_1, pkx_0f, pkx_1f⟩ := kx.two
  go_wp2_with fail
  clear pkf_0 pkf_1 pkf_2 pkf_3 pkf_4 pkf_5 pkf_6 pkf_7 pkf_8 pkf_0f pkf_1f pkf_2f pkf_3f pkf_4f pkf_5f pkf_6f pkf_7f pkf_8f pkb_0 pkb_1 pkb_0f pkb_1f pkc_0 pkc_1 pkc_2 pkc_3 pkc_4 pkc_0f pkc_1f pkc_2f pkc_3f pkc_4f pkx_0 pkx_1 pkx_0f pkx_1f
  generalize w2.alloc (.cells #[.int .i64 X.length, .slice A2 n2 c2] 28) = u2 at *
  generalize w2.heap.size = g2 at *
  refine (H3.out A2 n2 c2 _ bc v2).mono ?_
  rintro e w3 ⟨A3, n3, c3, rfl, hn3, y3, hC⟩
  dsimp only at y3 ⊢
  replace kf := kf.on hC; replace kb := kb.on hC; replace kc := kc.on hC; replace kx := kx.on hC; replace v2 := v2.on hC; replace bc := bc.trans (hC.mono bc.size); clear hC
  have HN3 := Lib.hid hn3; clear hn3
  have z_kp_kf := kf.lt
  have z_kp_kb := kb.lt
  have z_kp_kc := kc.lt
  have z_kp_kx := kx.lt
  have zb_kp := bc.size
  have kp := Blk.new w3 26 #[.int .i64 fK, .int .i64 fR, .int .i64 fT, .int .i64 fP, .int .i64 fM, .int .i64 fN, .int .i64 fE, .int .i64 fF, .slice A3 n3 c3]
  have al := Below.al w3 (.cells #[.int .i64 fK, .int .i64 fR, .int .i64 fT, .int .i64 fP, .int .i64 fM, .int .i64 fN, .int .i64 fE, .int .i64 fF, .slice A3 n3 c3] 26)
  replace kf := kf.on al; replace kb := kb.on al; replace kc := kc.on al; replace kx := kx.on al; replace v2 := v2.on al; replace y3 := y3.on al; replace bc := bc.trans (al.mono bc.size); clear al
  obtain ⟨pkf_0, pkf_1, pkf_2, pkf_3, pkf_4, pkf_5, pkf_6, pkf_7, pkf_8⟩ := kf.nine
  obtain ⟨pkf_0f, pkf_1f, pkf_2f, pkf_3f, pkf_4f, pkf_5f, pkf_6f, pkf_7f, pkf_8f⟩ := kf.nineF
  obtain ⟨pkb_0, pkb_1, pkb_0f, pkb_1f⟩ := kb.two
  obtain ⟨⟨pkc_0, pkc_1, pkc_2, pkc_3, pkc_4⟩, pkc_0f, pkc_1f, pkc_2f, pkc_3f, pkc_4f⟩ := kc.five
  obtain ⟨pkx_0, pkx_1, pkx_0f, pkx_1f⟩ := kx.two
  obtain ⟨pkp_0, pkp_1, pkp_2, pkp_3, pkp_4, pkp_5, pkp_6, pkp_7, pkp_8⟩ := kp.nine
  obtain ⟨pkp_0f, pkp_1f, pkp_2f, pkp_3f, pkp_4f, pkp_5f, pkp_6f, pkp_7f, pkp_8f⟩ := kp.nineF
  go_wp2_with fail
  clear pkf_0 pkf_1 pkf_2 pkf_3 pkf_4 pkf_5 pkf_6 pkf_7 pkf_8 pkf_0f pkf_1f pkf_2f pkf_3f pkf_4f pkf_5f pkf_6f pkf_7f pkf_8f pkb_0 pkb_1 pkb_0f pkb_1f pkc_0 pkc_1 pkc_2 pkc_3 pkc_4 pkc_0f pkc_1f pkc_2f pkc_3f pkc_4f pkx_0 pkx_1 pkx_0f pkx_1f pkp_0 pkp_1 pkp_2 pkp_3 pkp_4 pkp_5 pkp_6 pkp_7 pkp_8 pkp_0f pkp_1f pkp_2f pkp_3f pkp_4f pkp_5f pkp_6f pkp_7f pkp_8f
  generalize w3.alloc (.cells #[.int .i64 fK, .int .i64 fR, .int .i64 fT, .int .i64 fP, .int .i64 fM, .int .i64 fN, .int .i64 fE, .int .i64 fF, .slice A3 n3 c3] 26) = u3 at *
  generalize w3.heap.size = g3 at *
  have hdr : Below u3.heap.size u3 u3.drew := (Below.refl _ _).drew
  replace kf := kf.on hdr; replace kb := kb.on hdr; replace kc := kc.on hdr; replace kx := kx.on hdr; replace kp := kp.on hdr; replace v2 := v2.on hdr; replace y3 := y3.on hdr; replace bc := bc.trans (hdr.mono bc.size)
  clear hdr
  obtain ⟨pkx_0, pkx_1, pkx_0f, pkx_1f⟩ := kx.two
  obtain ⟨pkf_0, pkf_1, pkf_2, pkf_3, pkf_4, pkf_5, pkf_6, pkf_7, pkf_8⟩ := kf.nine
  obtain ⟨pkf_0f, pkf_1f, pkf_2f, pkf_3f, pkf_4f, pkf_5f, pkf_6f, pkf_7f, pkf_8f⟩ := kf.nineF
  obtain ⟨pkp_0, pkp_1, pkp_2, pkp_3, pkp_4, pkp_5, pkp_6, pkp_7, pkp_8⟩ := kp.nine
  obtain ⟨pkp_0f, pkp_1f, pkp_2f, pkp_3f, pkp_4f, pkp_5f, pkp_6f, pkp_7f, pkp_8f⟩ := kp.nineF
  go_region_held3 (fun w' => w'.cell? ⟨g2, 0, none⟩ = some (.int .i64 X.length) ∧ w'.cell? ⟨w.heap.size, 0, none⟩ = some (.int .i64 fK) ∧ w'.cell? ⟨w.heap.size, 1, none⟩ = some (.int .i64 fR) ∧ w'.cell? ⟨w.heap.size, 2, none⟩ = some (.int .i64 fT) ∧ w'.cell? ⟨w.heap.size, 3, none⟩ = some (.int .i64 fP) ∧ w'.cell? ⟨w.heap.size, 4, none⟩ = some (.int .i64 fM) ∧ w'.cell? ⟨w.heap.size, 5, none⟩ = some (.int .i64 fN) ∧ w'.cell? ⟨w.heap.size, 6, none⟩ = some (.int .i64 fE) ∧ w'.cell? ⟨w.heap.size, 7, none⟩ = some (.int .i64 fF) ∧ w'.cell? ⟨w.heap.size, 8, none⟩ = some (.slice A n c) ∧ w'.cell? ⟨g3, 0, none⟩ = some (.int .i64 fK) ∧ w'.cell? ⟨g3, 1, none⟩ = some (.int .i64 fR) ∧ w'.cell? ⟨g3, 2, none⟩ = some (.int .i64 fT) ∧ w'.cell? ⟨g3, 3, none⟩ = some (.int .i64 fP) ∧ w'.cell? ⟨g3, 4, none⟩ = some (.int .i64 fM) ∧ w'.cell? ⟨g3, 5, none⟩ = some (.int .i64 fN) ∧ w'.cell? ⟨g3, 6, none⟩ = some (.int .i64 fE) ∧ w'.cell? ⟨g3, 7, none⟩ = some (.int .i64 fF) ∧ w'.cell? ⟨g3, 8, none⟩ = some (.slice A3 n3 c3)) (first | exact ⟨zkx_0, zkf_0, zkf_1, zkf_2, zkf_3, zkf_4, zkf_5, zkf_6, zkf_7, zkf_8, zkp_0, zkp_1, zkp_2, zkp_3, zkp_4, zkp_5, zkp_6, zkp_7, zkp_8⟩ | exact ⟨qkx_0, qkf_0, qkf_1, qkf_2, qkf_3, qkf_4, qkf_5, qkf_6, qkf_7, qkf_8, qkp_0, qkp_1, qkp_2, qkp_3, qkp_4, qkp_5, qkp_6, qkp_7, qkp_8⟩ | exact ⟨pkx_0, pkf_0, pkf_1, pkf_2, pkf_3, pkf_4, pkf_5, pkf_6, pkf_7, pkf_8, pkp_0, pkp_1, pkp_2, pkp_3, pkp_4, pkp_5, pkp_6, pkp_7, pkp_8⟩) (first | (go_at_call 17; refine (H6.out A3 n3 c3 _ bc HN3.out y3).mono ?_; rintro e w4 ⟨rfl, hC⟩; dsimp only; replace kf := kf.on hC; replace kb := kb.on hC; replace kc := kc.on hC; replace kx := kx.on hC; replace kp := kp.on hC; replace v2 := v2.on hC; replace y3 := y3.on hC; replace bc := bc.trans (hC.mono bc.size); clear hC; clear pkx_0 pkx_1 pkx_0f pkx_1f pkf_0 pkf_1 pkf_2 pkf_3 pkf_4 pkf_5 pkf_6 pkf_7 pkf_8 pkf_0f pkf_1f pkf_2f pkf_3f pkf_4f pkf_5f pkf_6f pkf_7f pkf_8f pkp_0 pkp_1 pkp_2 pkp_3 pkp_4 pkp_5 pkp_6 pkp_7 pkp_8 pkp_0f pkp_1f pkp_2f pkp_3f pkp_4f pkp_5f pkp_6f pkp_7f pkp_8f; obtain ⟨pkx_0, pkx_1, pkx_0f, pkx_1f⟩ := kx.two; obtain ⟨pkf_0, pkf_1, pkf_2, pkf_3, pkf_4, pkf_5, pkf_6, pkf_7, pkf_8⟩ := kf.nine; obtain ⟨pkf_0f, pkf_1f, pkf_2f, pkf_3f, pkf_4f, pkf_5f, pkf_6f, pkf_7f, pkf_8f⟩ := kf.nineF; obtain ⟨pkp_0, pkp_1, pkp_2, pkp_3, pkp_4, pkp_5, pkp_6, pkp_7, pkp_8⟩ := kp.nine; obtain ⟨pkp_0f, pkp_1f, pkp_2f, pkp_3f, pkp_4f, pkp_5f, pkp_6f, pkp_7f, pkp_8f⟩ := kp.nineF) | (go_at_call 13; refine (H8.out _).mono ?_; rintro e w8 ⟨rfl, hC⟩; dsimp only; replace kf := kf.on hC; replace kb := kb.on hC; replace kc := kc.on hC; replace kx := kx.on hC; replace kp := kp.on hC; replace v2 := v2.on hC; replace y3 := y3.on hC; replace bc := bc.trans (hC.mono bc.size); clear hC; clear pkx_0 pkx_1 pkx_0f pkx_1f pkf_0 pkf_1 pkf_2 pkf_3 pkf_4 pkf_5 pkf_6 pkf_7 pkf_8 pkf_0f pkf_1f pkf_2f pkf_3f pkf_4f pkf_5f pkf_6f pkf_7f pkf_8f pkp_0 pkp_1 pkp_2 pkp_3 pkp_4 pkp_5 pkp_6 pkp_7 pkp_8 pkp_0f pkp_1f pkp_2f pkp_3f pkp_4f pkp_5f pkp_6f pkp_7f pkp_8f; obtain ⟨pkx_0, pkx_1, pkx_0f, pkx_1f⟩ := kx.two; obtain ⟨pkf_0, pkf_1, pkf_2, pkf_3, pkf_4, pkf_5, pkf_6, pkf_7, pkf_8⟩ := kf.nine; obtain ⟨pkf_0f, pkf_1f, pkf_2f, pkf_3f, pkf_4f, pkf_5f, pkf_6f, pkf_7f, pkf_8f⟩ := kf.nineF; obtain ⟨pkp_0, pkp_1, pkp_2, pkp_3, pkp_4, pkp_5, pkp_6, pkp_7, pkp_8⟩ := kp.nine; obtain ⟨pkp_0f, pkp_1f, pkp_2f, pkp_3f, pkp_4f, pkp_5f, pkp_6f, pkp_7f, pkp_8f⟩ := kp.nineF))
  all_goals
    obtain ⟨pkf_0, pkf_1, pkf_2, pkf_3, pkf_4, pkf_5, pkf_6, pkf_7, pkf_8⟩ := kf.nine
    obtain ⟨pkf_0f, pkf_1f, pkf_2f, pkf_3f, pkf_4f, pkf_5f, pkf_6f, pkf_7f, pkf_8f⟩ := kf.nineF
    obtain ⟨pkb_0, pkb_1, pkb_0f, pkb_1f⟩ := kb.two
    obtain ⟨⟨pkc_0, pkc_1, pkc_2, pkc_3, pkc_4⟩, pkc_0f, pkc_1f, pkc_2f, pkc_3f, pkc_4f⟩ := kc.five
    obtain ⟨pkx_0, pkx_1, pkx_0f, pkx_1f⟩ := kx.two
    obtain ⟨pkp_0, pkp_1, pkp_2, pkp_3, pkp_4, pkp_5, pkp_6, pkp_7, pkp_8⟩ := kp.nine
    obtain ⟨pkp_0f, pkp_1f, pkp_2f, pkp_3f, pkp_4f, pkp_5f, pkp_6f, pkp_7f, pkp_8f⟩ := kp.nineF
    go_wp2_with fail
    clear pkf_0 pkf_1 pkf_2 pkf_3 pkf_4 pkf_5 pkf_6 pkf_7 pkf_8 pkf_0f pkf_1f pkf_2f pkf_3f pkf_4f pkf_5f pkf_6f pkf_7f pkf_8f pkb_0 pkb_1 pkb_0f pkb_1f pkc_0 pkc_1 pkc_2 pkc_3 pkc_4 pkc_0f pkc_1f pkc_2f pkc_3f pkc_4f pkx_0 pkx_1 pkx_0f pkx_1f pkp_0 pkp_1 pkp_2 pkp_3 pkp_4 pkp_5 pkp_6 pkp_7 pkp_8 pkp_0f pkp_1f pkp_2f pkp_3f pkp_4f pkp_5f pkp_6f pkp_7f pkp_8f
    refine (H4.out _ bc).mono ?_
    rintro e w5 ⟨A5, n5, c5, rfl, hn5, y5, hC⟩
    dsimp only at y5 ⊢
    replace kf := kf.on hC; replace kb := kb.on hC; replace kc := kc.on hC; replace kx := kx.on hC; replace kp := kp.on hC; replace v2 := v2.on hC; replace y3 := y3.on hC; replace bc := bc.trans (hC.mono bc.size); clear hC
    have HN5 := Lib.hid hn5; clear hn5
    have z_kr_kf := kf.lt
    have z_kr_kb := kb.lt
    have z_kr_kc := kc.lt
    have z_kr_kx := kx.lt
    have z_kr_kp := kp.lt
    have zb_kr := bc.size
    have kr := Blk.new w5 26 #[.int .i64 rK, .int .i64 rR, .int .i64 rT, .int .i64 rP, .int .i64 rM, .int .i64 rN, .int .i64 rE, .int .i64 rF, .slice A5 n5 c5]
    have al := Below.al w5 (.cells #[.int .i64 rK, .int .i64 rR, .int .i64 rT, .int .i64 rP, .int .i64 rM, .int .i64 rN, .int .i64 rE, .int .i64 rF, .slice A5 n5 c5] 26)
    replace kf := kf.on al; replace kb := kb.on al; replace kc := kc.on al; replace kx := kx.on al; replace kp := kp.on al; replace v2 := v2.on al; replace y3 := y3.on al; replace y5 := y5.on al; replace bc := bc.trans (al.mono bc.size); clear al
    by_cases e0 : er = 0
    rotate_left
    · have d1 : (er == 0) = false := by simpa using e0
      have d2 : decide (er = 0) = false := by simpa using e0
      obtain ⟨pkf_0, pkf_1, pkf_2, pkf_3, pkf_4, pkf_5, pkf_6, pkf_7, pkf_8⟩ := kf.nine
      obtain ⟨pkf_0f, pkf_1f, pkf_2f, pkf_3f, pkf_4f, pkf_5f, pkf_6f, pkf_7f, pkf_8f⟩ := kf.nineF
      obtain ⟨pkb_0, pkb_1, pkb_0f, pkb_1f⟩ := kb.two
      obtain ⟨⟨pkc_0, pkc_1, pkc_2, pkc_3, pkc_4⟩, pkc_0f, pkc_1f, pkc_2f, pkc_3f, pkc_4f⟩ := kc.five
      obtain ⟨pkx_0, pkx_1, pkx_0f, pkx_1f⟩ := kx.two
      obtain ⟨pkp_0, pkp_1, pkp_2, pkp_3, pkp_4, pkp_5, pkp_6, pkp_7, pkp_8⟩ := kp.nine
      obtain ⟨pkp_0f, pkp_1f, pkp_2f, pkp_3f, pkp_4f, pkp_5f, pkp_6f, pkp_7f, pkp_8f⟩ := kp.nineF
      obtain ⟨pkr_0, pkr_1, pkr_2, pkr_3, pkr_4, pkr_5, pkr_6, pkr_7, pkr_8⟩ := kr.nine
      obtain ⟨pkr_0f, pkr_1f, pkr_2f, pkr_3f, pkr_4f, pkr_5f, pkr_6f, pkr_7f, pkr_8f⟩ := kr.nineF
      go_wp2
      go_ret
      exact ⟨by rfl, bc⟩
    subst e0
    obtain ⟨hg, he⟩ := hr rfl
    subst hg
    have h5 := H5.out
    rw [he] at h5
    have h7 := fun (B1 : Option Addr) (m1 d1 : Nat) (W : World) (hb : Below w.heap.size w W) (hv : Bv W L B1 m1) => H7.out (by simp) B1 m1 d1 W hb hv
    have H5b := Lib.hid h5; have H7b := Lib.hid h7
    clear h5 h7 he hr H5 H7
    obtain ⟨pkf_0, pkf_1, pkf_2, pkf_3, pkf_4, pkf_5, pkf_6, pkf_7, pkf_8⟩ := kf.nine
    obtain ⟨pkf_0f, pkf_1f, pkf_2f, pkf_3f, pkf_4f, pkf_5f, pkf_6f, pkf_7f, pkf_8f⟩ := kf.nineF
    obtain ⟨pkb_0, pkb_1, pkb_0f, pkb_1f⟩ := kb.two
    obtain ⟨⟨pkc_0, pkc_1, pkc_2, pkc_3, pkc_4⟩, pkc_0f, pkc_1f, pkc_2f, pkc_3f, pkc_4f⟩ := kc.five
    obtain ⟨pkx_0, pkx_1, pkx_0f, pkx_1f⟩ := kx.two
    obtain ⟨pkp_0, pkp_1, pkp_2, pkp_3, pkp_4, pkp_5, pkp_6, pkp_7, pkp_8⟩ := kp.nine
    obtain ⟨pkp_0f, pkp_1f, pkp_2f, pkp_3f, pkp_4f, pkp_5f, pkp_6f, pkp_7f, pkp_8f⟩ := kp.nineF
    obtain ⟨pkr_0, pkr_1, pkr_2, pkr_3, pkr_4, pkr_5, pkr_6, pkr_7, pkr_8⟩ := kr.nine
    obtain ⟨pkr_0f, pkr_1f, pkr_2f, pkr_3f, pkr_4f, pkr_5f, pkr_6f, pkr_7f, pkr_8f⟩ := kr.nineF
    go_wp2_with fail
    clear pkf_0 pkf_1 pkf_2 pkf_3 pkf_4 pkf_5 pkf_6 pkf_7 pkf_8 pkf_0f pkf_1f pkf_2f pkf_3f pkf_4f pkf_5f pkf_6f pkf_7f pkf_8f pkb_0 pkb_1 pkb_0f pkb_1f pkc_0 pkc_1 pkc_2 pkc_3 pkc_4 pkc_0f pkc_1f pkc_2f pkc_3f pkc_4f pkx_0 pkx_1 pkx_0f pkx_1f pkp_0 pkp_1 pkp_2 pkp_3 pkp_4 pkp_5 pkp_6 pkp_7 pkp_8 pkp_0f pkp_1f pkp_2f pkp_3f pkp_4f pkp_5f pkp_6f pkp_7f pkp_8f pkr_0 pkr_1 pkr_2 pkr_3 pkr_4 pkr_5 pkr_6 pkr_7 pkr_8 pkr_0f pkr_1f pkr_2f pkr_3f pkr_4f pkr_5f pkr_6f pkr_7f pkr_8f
    generalize w5.alloc (.cells #[.int .i64 rK, .int .i64 rR, .int .i64 rT, .int .i64 rP, .int .i64 rM, .int .i64 rN, .int .i64 rE, .int .i64 rF, .slice A5 n5 c5] 26) = u4 at *
    generalize w5.heap.size = g4 at *
    refine (H5b.out A5 n5 c5 _ bc HN5.out y5).mono ?_
    rintro e w6 ⟨A6, n6, c6, rfl, v6, hC⟩
    dsimp only at v6 ⊢
    replace kf := kf.on hC; replace kb := kb.on hC; replace kc := kc.on hC; replace kx := kx.on hC; replace kp := kp.on hC; replace kr := kr.on hC; replace v2 := v2.on hC; replace y3 := y3.on hC; replace y5 := y5.on hC; replace bc := bc.trans (hC.mono bc.size); clear hC
    have z_ke_kf := kf.lt
    have z_ke_kb := kb.lt
    have z_ke_kc := kc.lt
    have z_ke_kx := kx.lt
    have z_ke_kp := kp.lt
    have z_ke_kr := kr.lt
    have zb_ke := bc.size
    have ke := Blk.new w6 28 #[.int .i64 L.length, .slice A6 n6 c6]
    have al := Below.al w6 (.cells #[.int .i64 L.length, .slice A6 n6 c6] 28)
    replace kf := kf.on al; replace kb := kb.on al; replace kc := kc.on al; replace kx := kx.on al; replace kp := kp.on al; replace kr := kr.on al; replace v2 := v2.on al; replace y3 := y3.on al; replace y5 := y5.on al; replace v6 := v6.on al; replace bc := bc.trans (al.mono bc.size); clear al
    obtain ⟨pkb_0, pkb_1, pkb_0f, pkb_1f⟩ := kb.two
    obtain ⟨pke_0, pke_1, pke_0f, pke_1f⟩ := ke.two
    go_wp2_with fail
    clear pkb_0 pkb_1 pkb_0f pkb_1f pke_0 pke_1 pke_0f pke_1f
    generalize w6.alloc (.cells #[.int .i64 L.length, .slice A6 n6 c6] 28) = u5 at *
    generalize w6.heap.size = g5 at *
    refine (H7b.out A6 n6 c6 _ bc v6).mono ?_
    rintro e w7 ⟨rfl, hC⟩
    dsimp only
    replace kf := kf.on hC; replace kb := kb.on hC; replace kc := kc.on hC; replace kx := kx.on hC; replace kp := kp.on hC; replace kr := kr.on hC; replace ke := ke.on hC; replace v2 := v2.on hC; replace y3 := y3.on hC; replace y5 := y5.on hC; replace v6 := v6.on hC; replace bc := bc.trans (hC.mono bc.size); clear hC
    go_wp2
    go_ret
    exact ⟨by rfl, bc⟩
end Go.Proofs.YtcfbeelljhjnoaaDoor
