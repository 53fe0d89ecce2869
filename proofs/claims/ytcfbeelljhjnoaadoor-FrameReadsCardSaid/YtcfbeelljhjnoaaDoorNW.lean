/-
  The law of bursts: if some bits of a frame are turned, all within 24 bits one behind the other, it is no frame any more. Conditions: that the bytes can be read, and that the program's tables hold what its text lays.
-/
import Derived.Test.YtcfbeelljhjnoaaDoorNV
namespace Go.Proofs.YtcfbeelljhjnoaaDoor
open Go.RowKit

/-- Burst, by the document, of bits that may be. -/
def burstX (X : List Bool) (at_ : Int) (p : Nat) : Int × List Bool := if 0 ≤ at_ ∧ at_ ≤ (X.length : Int) then (0, flips X (places at_.toNat p (min 32 ((X.length : Int) - at_).toNat))) else (2, [])
theorem burstX_at {w : World} {X : List Bool} {A : Option Addr} {n : Nat} (h : Bv w X A n) (c : Nat) (at_ : Int) (p : Nat) (hp : p < 2 ^ 32) :
    Calls Tryd.prog 25 #[.agg #[.int .i64 X.length, .slice A n c], .int .i64 at_, .int .u32 p] w (ResV w (burstX X at_ p)) := by
  obtain ⟨bs, h1, h2, h3, h4, h5, h6, h7⟩ := h.parts
  have hb := rburst_any X.length at_ p A n c bs w h1 h2 h5 hp
  rw [burst_more h3 h4] at hb
  exact hb.mono fun e w' h => h.v
theorem sameX_at {w : World} {X Y : List Bool} {A B : Option Addr} {n m : Nat} (h : Bv w X A n) (k : Bv w Y B m) (c d : Nat) :
    Calls Tryd.prog 15 #[.agg #[.int .i64 X.length, .slice A n c], .agg #[.int .i64 Y.length, .slice B m d]] w fun e w' => e = .returned (.bool (decide (X = Y))) ∧ Below w.heap.size w w' := by
  obtain ⟨bs, h1, h2, h3, h4, h5, h6, h7⟩ := h.parts
  obtain ⟨us, i1, i2, i3, i4, i5, i6, i7⟩ := k.parts
  have hs := rsame_any X.length Y.length A B n m c d bs us w h1 i1 h5 i5
  have he : sameB X.length bs Y.length us = decide (X = Y) := by
    unfold sameB
    by_cases hx : X = Y
    · subst hx
      obtain rfl := h3.unique i3
      simp
    · rw [decide_eq_false hx]
      by_cases hl : X.length = Y.length
      · have hb : bs ≠ us := by
          rintro rfl
          refine hx ?_
          have e1 : listOf X.length bs = listOf Y.length bs := by rw [hl]
          rw [h7, i7] at e1
          exact e1
        rw [decide_eq_false hb, Bool.and_false]
      · have hl2 : ¬ ((X.length : Int) = (Y.length : Int)) := by omega
        rw [decide_eq_false hl2]; rfl
  rw [he] at hs
  exact hs
/-- What is told of a frame of which bits are turned. -/
theorem burst_read {f : FR} (hm : mayF f = true) (at_ : Int) (p : Nat) (hp : p < 2 ^ 24) (hne : (burstX (bitsF f) at_ p).2 ≠ bitsF f) (h0 : (burstX (bitsF f) at_ p).1 = 0) :
    (readX (burstX (bitsF f) at_ p).2 f.C).1 ≠ 0 ∧ (explX (burstX (bitsF f) at_ p).2).1 = false := by
  have hx : burstX (bitsF f) at_ p = (0, flips (bitsF f) (places at_.toNat p (min 32 (((bitsF f).length : Int) - at_).toNat))) := by
    unfold burstX at h0 ⊢
    by_cases h : 0 ≤ at_ ∧ at_ ≤ ((bitsF f).length : Int)
    · rw [if_pos h]
    · rw [if_neg h] at h0; exact absurd h0 (by decide)
  rw [hx] at hne ⊢
  dsimp only at hne ⊢
  have hw := flips_window (bitsF f) at_.toNat p (min 32 (((bitsF f).length : Int) - at_).toNat) hp
  have hl : (flips (bitsF f) (places at_.toNat p (min 32 (((bitsF f).length : Int) - at_).toNat))).length = (bitsF f).length := flips_length _ _
  generalize flips (bitsF f) (places at_.toNat p (min 32 (((bitsF f).length : Int) - at_).toNat)) = Y at *
  have key := fun (c : CS) (h : (readL Y c).1 = 0) => burst_L hm at_.toNat hl hw hne c h
  constructor
  · intro h
    unfold readX at h
    rw [if_pos (mayF_C hm)] at h
    exact (key f.C h).2 rfl
  · unfold explX readX
    simp only [if_pos (show mayC zeroC 8 = true by decide)]
    rw [if_neg (fun h => h.2 (key zeroC h.1).1)]
set_option maxRecDepth 8000 in
set_option maxHeartbeats 8000000 in
theorem burst_law5 (f : FR) (A : Option Addr) (n c : Nat) (at_ : Int) (pt : Nat) (w : World) (hn : n = f.ds.length) (hA : Byt w.heap.size w A f.ds) (hp : pt < 2 ^ 32) (hT : Tab w) (hW : WTab w) :
    Calls Tryd.prog 7 #[.agg (f.cells A n c), .int .i64 at_, .int .u32 pt] w fun e w' => e = .returned (.bool true) ∧ Below w.heap.size w w' := by
  have hand : bits .and .u32 (pt : Int) 16777215 = ((pt % 2 ^ 24 : Nat) : Int) := by
    have h := u32_and_nat pt 16777215 hp (by decide)
    rw [show ((16777215 : Nat) : Int) = 16777215 from rfl] at h
    rw [h, show 16777215 = 2 ^ 24 - 1 by decide, Nat.and_two_pow_sub_one_eq_mod]
  have hq : pt % 2 ^ 24 < 2 ^ 24 := Nat.mod_lt _ (by decide)
  generalize pt % 2 ^ 24 = q at *
  have h1 := fun (W : World) (hb : Below w.heap.size w W) => encode_any f A n c W hn (hA.on hb) (hT.on hb) (hW.on hb)
  have h2 := fun (W : World) (hb : Below w.heap.size w W) => begun_any W (hT.on hb) (hW.on hb)
  have h3 := fun (X : List Bool) (A' : Option Addr) (n' c' : Nat) (W : World) (hv : Bv W X A' n') => burstX_at hv c' at_ q (Nat.lt_trans hq (by decide))
  have h4 := fun (X Y : List Bool) (A' B' : Option Addr) (n' m' c' d' : Nat) (W : World) (hv : Bv W X A' n') (hu : Bv W Y B' m') => sameX_at hv hu c' d'
  have h5 := fun (X : List Bool) (A' : Option Addr) (n' c' : Nat) (D : CS) (W : World) (hb : Below w.heap.size w W) (hv : Bv W X A' n') => parseX_at hv c' D (hT.on hb) (hW.on hb)
  have h6 := fun (X : List Bool) (A' : Option Addr) (n' c' : Nat) (W : World) (hb : Below w.heap.size w W) (hv : Bv W X A' n') => explX_at hv c' (hT.on hb) (hW.on hb)
  have H2 := Lib.hid h2; clear h2 hn hA hp
  by_cases hm : mayF f = true
  rotate_left
  · rw [show encF f = (50, []) from if_neg hm] at h1
    clear h3 h4 h5 h6 hm hq
    obtain ⟨fK, fR, ⟨fT, fP, fM, fN, fE⟩, fF, fd⟩ := f
    unfold FR.cells at *
    dsimp only at h1 ⊢
    have H1 := Lib.hid h1; clear h1
    obtain ⟨kf, bc⟩ := bx1 w #[.int .i64 fK, .int .i64 fR, .int .i64 fT, .int .i64 fP, .int .i64 fM, .int .i64 fN, .int .i64 fE, .int .i64 fF, .slice A n c] 26
    go_enter Tryd.func7, Tryd.ntmps7
    go_wp2_with fail
    generalize w.alloc (.cells #[.int .i64 fK, .int .i64 fR, .int .i64 fT, .int .i64 fP, .int .i64 fM, .int .i64 fN, .int .i64 fE, .int .i64 fF, .slice A n c] 26) = u1 at *
    refine (H1.out _ bc).mono ?_
    rintro e w1 ⟨A1, n1, c1, rfl, v1, hC⟩
    dsimp only at v1 ⊢
    replace kf := kf.on hC; replace bc := bc.trans (hC.mono bc.size); clear hC
    have z_kb_kf := kf.lt
    have zb_kb := bc.size
    have kb := Blk.new w1 28 #[.int .i64 0, .slice A1 n1 c1]
    have al := Below.al w1 (.cells #[.int .i64 0, .slice A1 n1 c1] 28)
    replace kf := kf.on al; replace v1 := v1.on al; replace bc := bc.trans (al.mono bc.size); clear al
    obtain ⟨pkf_0, pkf_1, pkf_2, pkf_3, pkf_4, pkf_5, pkf_6, pkf_7, pkf_8⟩ := kf.nine
    obtain ⟨pkf_0f, pkf_1f, pkf_2f, pkf_3f, pkf_4f, pkf_5f, pkf_6f, pkf_7f, pkf_8f⟩ := kf.nineF
    obtain ⟨pkb_0, pkb_1, pkb_0f, pkb_1f⟩ := kb.two
    go_wp2_with fail
    clear pkf_0 pkf_1 pkf_2 pkf_3 pkf_4 pkf_5 pkf_6 pkf_7 pkf_8 pkf_0f pkf_1f pkf_2f pkf_3f pkf_4f pkf_5f pkf_6f pkf_7f pkf_8f pkb_0 pkb_1 pkb_0f pkb_1f
    generalize w1.alloc (.cells #[.int .i64 0, .slice A1 n1 c1] 28) = u2 at *
    generalize w1.heap.size = g2 at *
    refine (H2.out _ bc).mono ?_
    rintro e w2 ⟨rfl, hC⟩
    dsimp only
    replace kf := kf.on hC; replace kb := kb.on hC; replace v1 := v1.on hC; replace bc := bc.trans (hC.mono bc.size); clear hC
    go_wp2_with fail
    refine (H2.out _ bc).mono ?_
    rintro e w3 ⟨rfl, hC⟩
    dsimp only
    replace kf := kf.on hC; replace kb := kb.on hC; replace v1 := v1.on hC; replace bc := bc.trans (hC.mono bc.size); clear hC
    go_wp2
    go_ret
    exact ⟨by rfl, bc⟩
  rw [show encF f = (0, bitsF f) from if_pos hm] at h1
  have hread := burst_read hm at_ q hq
  clear hm hq
  have h3 := h3 (bitsF f)
  have h5 := fun (X : List Bool) (A' : Option Addr) (n' c' : Nat) => h5 X A' n' c' f.C
  generalize burstX (bitsF f) at_ q = Y at *
  obtain ⟨er, Y⟩ := Y
  have h4 := h4 Y (bitsF f)
  have h5 := h5 Y
  have h6 := h6 Y
  dsimp only at hread
  generalize readX Y f.C = G1 at *
  generalize explX Y = G2 at *
  generalize bitsF f = X at *
  obtain ⟨e1, pK, pR, ⟨pT, pP, pM, pN, pE⟩, pF, pd⟩ := G1
  obtain ⟨b2, qK, qR, ⟨qT, qP, qM, qN, qE⟩, qF, qd⟩ := G2
  obtain ⟨fK, fR, ⟨fT, fP, fM, fN, fE⟩, fF, fd⟩ := f
  unfold ResF at h5
  unfold ResG at h6
  unfold FR.cells CS.cells at *
  dsimp only at h1 h5 h6 hread ⊢
  have H1 := Lib.hid h1; have H3 := Lib.hid h3; have H4 := Lib.hid h4; have H5 := Lib.hid h5; have H6 := Lib.hid h6; clear h1 h3 h4 h5 h6
  by_cases e0 : er = 0
  rotate_left
  · have d1 : (er == 0) = false := by simpa using e0
    have d2 : decide (er = 0) = false := by simpa using e0
    clear hread
    obtain ⟨kf, bc⟩ := bx1 w #[.int .i64 fK, .int .i64 fR, .int .i64 fT, .int .i64 fP, .int .i64 fM, .int .i64 fN, .int .i64 fE, .int .i64 fF, .slice A n c] 26
    go_enter Tryd.func7, Tryd.ntmps7
    go_wp2_with fail
    generalize w.alloc (.cells #[.int .i64 fK, .int .i64 fR, .int .i64 fT, .int .i64 fP, .int .i64 fM, .int .i64 fN, .int .i64 fE, .int .i64 fF, .slice A n c] 26) = u1 at *
    refine (H1.out _ bc).mono ?_
    rintro e w1 ⟨A1, n1, c1, rfl, v1, hC⟩
    dsimp only at v1 ⊢
    replace kf := kf.on hC; replace bc := bc.trans (hC.mono bc.size); clear hC
    have z_kb_kf := kf.lt
    have zb_kb := bc.size
    have kb := Blk.new w1 28 #[.int .i64 X.length, .slice A1 n1 c1]
    have al := Below.al w1 (.cells #[.int .i64 X.length, .slice A1 n1 c1] 28)
    replace kf := kf.on al; replace v1 := v1.on al; replace bc := bc.trans (al.mono bc.size); clear al
    obtain ⟨pkf_0, pkf_1, pkf_2, pkf_3, pkf_4, pkf_5, pkf_6, pkf_7, pkf_8⟩ := kf.nine
    obtain ⟨pkf_0f, pkf_1f, pkf_2f, pkf_3f, pkf_4f, pkf_5f, pkf_6f, pkf_7f, pkf_8f⟩ := kf.nineF
    obtain ⟨pkb_0, pkb_1, pkb_0f, pkb_1f⟩ := kb.two
    go_wp2_with fail
    clear pkf_0 pkf_1 pkf_2 pkf_3 pkf_4 pkf_5 pkf_6 pkf_7 pkf_8 pkf_0f pkf_1f pkf_2f pkf_3f pkf_4f pkf_5f pkf_6f pkf_7f pkf_8f pkb_0 pkb_1 pkb_0f pkb_1f
    generalize w1.alloc (.cells #[.int .i64 X.length, .slice A1 n1 c1] 28) = u2 at *
    generalize w1.heap.size = g2 at *
    refine (H2.out _ bc).mono ?_
    rintro e w2 ⟨rfl, hC⟩
    dsimp only
    replace kf := kf.on hC; replace kb := kb.on hC; replace v1 := v1.on hC; replace bc := bc.trans (hC.mono bc.size); clear hC
    obtain ⟨pkf_0, pkf_1, pkf_2, pkf_3, pkf_4, pkf_5, pkf_6, pkf_7, pkf_8⟩ := kf.nine
    obtain ⟨pkf_0f, pkf_1f, pkf_2f, pkf_3f, pkf_4f, pkf_5f, pkf_6f, pkf_7f, pkf_8f⟩ := kf.nineF
    obtain ⟨pkb_0, pkb_1, pkb_0f, pkb_1f⟩ := kb.two
    go_wp2_with fail
    clear pkf_0 pkf_1 pkf_2 pkf_3 pkf_4 pkf_5 pkf_6 pkf_7 pkf_8 pkf_0f pkf_1f pkf_2f pkf_3f pkf_4f pkf_5f pkf_6f pkf_7f pkf_8f pkb_0 pkb_1 pkb_0f pkb_1f
    refine (H3.out A1 n1 c1 _ v1).mono ?_
    rintro e w3 ⟨A3, n3, c3, rfl, v3, hC⟩
    dsimp only at v3 ⊢
    replace kf := kf.on hC; replace kb := kb.on hC; replace v1 := v1.on hC; replace bc := bc.trans (hC.mono bc.size); clear hC
    have z_kx_kf := kf.lt
    have z_kx_kb := kb.lt
    have zb_kx := bc.size
    have kx := Blk.new w3 28 #[.int .i64 Y.length, .slice A3 n3 c3]
    have al := Below.al w3 (.cells #[.int .i64 Y.length, .slice A3 n3 c3] 28)
    replace kf := kf.on al; replace kb := kb.on al; replace v1 := v1.on al; replace v3 := v3.on al; replace bc := bc.trans (al.mono bc.size); clear al
    obtain ⟨pkf_0, pkf_1, pkf_2, pkf_3, pkf_4, pkf_5, pkf_6, pkf_7, pkf_8⟩ := kf.nine
    obtain ⟨pkf_0f, pkf_1f, pkf_2f, pkf_3f, pkf_4f, pkf_5f, pkf_6f, pkf_7f, pkf_8f⟩ := kf.nineF
    obtain ⟨pkb_0, pkb_1, pkb_0f, pkb_1f⟩ := kb.two
    obtain ⟨pkx_0, pkx_1, pkx_0f, pkx_1f⟩ := kx.two
    go_wp2
    go_ret
    exact ⟨by rfl, bc⟩
  subst e0
  by_cases hxy : Y = X
  · have hx2 := decide_eq_true hxy
    have HXY := Lib.hid hx2
    clear hread hxy hx2
    obtain ⟨kf, bc⟩ := bx1 w #[.int .i64 fK, .int .i64 fR, .int .i64 fT, .int .i64 fP, .int .i64 fM, .int .i64 fN, .int .i64 fE, .int .i64 fF, .slice A n c] 26
    go_enter Tryd.func7, Tryd.ntmps7
    go_wp2_with fail
    generalize w.alloc (.cells #[.int .i64 fK, .int .i64 fR, .int .i64 fT, .int .i64 fP, .int .i64 fM, .int .i64 fN, .int .i64 fE, .int .i64 fF, .slice A n c] 26) = u1 at *
    refine (H1.out _ bc).mono ?_
    rintro e w1 ⟨A1, n1, c1, rfl, v1, hC⟩
    dsimp only at v1 ⊢
    replace kf := kf.on hC; replace bc := bc.trans (hC.mono bc.size); clear hC
    have z_kb_kf := kf.lt
    have zb_kb := bc.size
    have kb := Blk.new w1 28 #[.int .i64 X.length, .slice A1 n1 c1]
    have al := Below.al w1 (.cells #[.int .i64 X.length, .slice A1 n1 c1] 28)
    replace kf := kf.on al; replace v1 := v1.on al; replace bc := bc.trans (al.mono bc.size); clear al
    obtain ⟨pkf_0, pkf_1, pkf_2, pkf_3, pkf_4, pkf_5, pkf_6, pkf_7, pkf_8⟩ := kf.nine
    obtain ⟨pkf_0f, pkf_1f, pkf_2f, pkf_3f, pkf_4f, pkf_5f, pkf_6f, pkf_7f, pkf_8f⟩ := kf.nineF
    obtain ⟨pkb_0, pkb_1, pkb_0f, pkb_1f⟩ := kb.two
    go_wp2_with fail
    clear pkf_0 pkf_1 pkf_2 pkf_3 pkf_4 pkf_5 pkf_6 pkf_7 pkf_8 pkf_0f pkf_1f pkf_2f pkf_3f pkf_4f pkf_5f pkf_6f pkf_7f pkf_8f pkb_0 pkb_1 pkb_0f pkb_1f
    generalize w1.alloc (.cells #[.int .i64 X.length, .slice A1 n1 c1] 28) = u2 at *
    generalize w1.heap.size = g2 at *
    refine (H2.out _ bc).mono ?_
    rintro e w2 ⟨rfl, hC⟩
    dsimp only
    replace kf := kf.on hC; replace kb := kb.on hC; replace v1 := v1.on hC; replace bc := bc.trans (hC.mono bc.size); clear hC
    obtain ⟨pkf_0, pkf_1, pkf_2, pkf_3, pkf_4, pkf_5, pkf_6, pkf_7, pkf_8⟩ := kf.nine
    obtain ⟨pkf_0f, pkf_1f, pkf_2f, pkf_3f, pkf_4f, pkf_5f, pkf_6f, pkf_7f, pkf_8f⟩ := kf.nineF
    obtain ⟨pkb_0, pkb_1, pkb_0f, pkb_1f⟩ := kb.two
    go_wp2_with fail
    clear pkf_0 pkf_1 pkf_2 pkf_3 pkf_4 pkf_5 pkf_6 pkf_7 pkf_8 pkf_0f pkf_1f pkf_2f pkf_3f pkf_4f pkf_5f pkf_6f pkf_7f pkf_8f pkb_0 pkb_1 pkb_0f pkb_1f
    refine (H3.out A1 n1 c1 _ v1).mono ?_
    rintro e w3 ⟨A3, n3, c3, rfl, v3, hC⟩
    dsimp only at v3 ⊢
    replace kf := kf.on hC; replace kb := kb.on hC; replace v1 := v1.on hC; replace bc := bc.trans (hC.mono bc.size); clear hC
    have z_kx_kf := kf.lt
    have z_kx_kb := kb.lt
    have zb_kx := bc.size
    have kx := Blk.new w3 28 #[.int .i64 Y.length, .slice A3 n3 c3]
    have al := Below.al w3 (.cells #[.int .i64 Y.length, .slice A3 n3 c3] 28)
    replace kf := kf.on al; replace kb := kb.on al; replace v1 := v1.on al; replace v3 := v3.on al; replace bc := bc.trans (al.mono bc.size); clear al
    obtain ⟨pkf_0, pkf_1, pkf_2, pkf_3, pkf_4, pkf_5, pkf_6, pkf_7, pkf_8⟩ := kf.nine
    obtain ⟨pkf_0f, pkf_1f, pkf_2f, pkf_3f, pkf_4f, pkf_5f, pkf_6f, pkf_7f, pkf_8f⟩ := kf.nineF
    obtain ⟨pkb_0, pkb_1, pkb_0f, pkb_1f⟩ := kb.two
    obtain ⟨pkx_0, pkx_1, pkx_0f, pkx_1f⟩ := kx.two
    go_wp2_with fail
    clear pkf_0 pkf_1 pkf_2 pkf_3 pkf_4 pkf_5 pkf_6 pkf_7 pkf_8 pkf_0f pkf_1f pkf_2f pkf_3f pkf_4f pkf_5f pkf_6f pkf_7f pkf_8f pkb_0 pkb_1 pkb_0f pkb_1f pkx_0 pkx_1 pkx_0f pkx_1f
    generalize w3.alloc (.cells #[.int .i64 Y.length, .slice A3 n3 c3] 28) = u3 at *
    generalize w3.heap.size = g3 at *
    refine (H4.out A3 A1 n3 n1 c3 c1 _ v3 v1).mono ?_
    rintro e w4 ⟨rfl, hC⟩
    dsimp only
    replace kf := kf.on hC; replace kb := kb.on hC; replace kx := kx.on hC; replace v1 := v1.on hC; replace v3 := v3.on hC; replace bc := bc.trans (hC.mono bc.size); clear hC
    rw [HXY.out]
    go_wp2
    go_ret
    exact ⟨by rfl, bc⟩
  obtain ⟨hr1, hr2⟩ := hread hxy rfl
  subst hr2
  have d1 : (e1 == 0) = false := by simpa using hr1
  have d2 : decide (e1 = 0) = false := by simpa using hr1
  have hx2 := decide_eq_false hxy
  have HXY := Lib.hid hx2
  clear hread hxy hx2
  obtain ⟨kf, bc⟩ := bx1 w #[.int .i64 fK, .int .i64 fR, .int .i64 fT, .int .i64 fP, .int .i64 fM, .int .i64 fN, .int .i64 fE, .int .i64 fF, .slice A n c] 26
  go_enter Tryd.func7, Tryd.ntmps7
  go_wp2_with fail
  generalize w.alloc (.cells #[.int .i64 fK, .int .i64 fR, .int .i64 fT, .int .i64 fP, .int .i64 fM, .int .i64 fN, .int .i64 fE, .int .i64 fF, .slice A n c] 26) = u1 at *
  refine (H1.out _ bc).mono ?_
  rintro e w1 ⟨A1, n1, c1, rfl, v1, hC⟩
  dsimp only at v1 ⊢
  replace kf := kf.on hC; replace bc := bc.trans (hC.mono bc.size); clear hC
  have z_kb_kf := kf.lt
  have zb_kb := bc.size
  have kb := Blk.new w1 28 #[.int .i64 X.length, .slice A1 n1 c1]
  have al := Below.al w1 (.cells #[.int .i64 X.length, .slice A1 n1 c1] 28)
  replace kf := kf.on al; replace v1 := v1.on al; replace bc := bc.trans (al.mono bc.size); clear al
  obtain ⟨pkf_0, pkf_1, pkf_2, pkf_3, pkf_4, pkf_5, pkf_6, pkf_7, pkf_8⟩ := kf.nine
  obtain ⟨pkf_0f, pkf_1f, pkf_2f, pkf_3f, pkf_4f, pkf_5f, pkf_6f, pkf_7f, pkf_8f⟩ := kf.nineF
  obtain ⟨pkb_0, pkb_1, pkb_0f, pkb_1f⟩ := kb.two
  go_wp2_with fail
  clear pkf_0 pkf_1 pkf_2 pkf_3 pkf_4 pkf_5 pkf_6 pkf_7 pkf_8 pkf_0f pkf_1f pkf_2f pkf_3f pkf_4f pkf_5f pkf_6f pkf_7f pkf_8f pkb_0 pkb_1 pkb_0f pkb_1f
  generalize w1.alloc (.cells #[.int .i64 X.length, .slice A1 n1 c1] 28) = u2 at *
  generalize w1.heap.size = g2 at *
  refine (H2.out _ bc).mono ?_
  rintro e w2 ⟨rfl, hC⟩
  dsimp only
  replace kf := kf.on hC; replace kb := kb.on hC; replace v1 := v1.on hC; replace bc := bc.trans (hC.mono bc.size); clear hC
  obtain ⟨pkf_0, pkf_1, pkf_2, pkf_3, pkf_4, pkf_5, pkf_6, pkf_7, pkf_8⟩ := kf.nine
  obtain ⟨pkf_0f, pkf_1f, pkf_2f, pkf_3f, pkf_4f, pkf_5f, pkf_6f, pkf_7f, pkf_8f⟩ := kf.nineF
  obtain ⟨pkb_0, pkb_1, pkb_0f, pkb_1f⟩ := kb.two
  go_wp2_with fail
  clear pkf_0 pkf_1 pkf_2 pkf_3 pkf_4 pkf_5 pkf_6 pkf_7 pkf_8 pkf_0f pkf_1f pkf_2f pkf_3f pkf_4f pkf_5f pkf_6f pkf_7f pkf_8f pkb_0 pkb_1 pkb_0f pkb_1f
  refine (H3.out A1 n1 c1 _ v1).mono ?_
  rintro e w3 ⟨A3, n3, c3, rfl, v3, hC⟩
  dsimp only at v3 ⊢
  replace kf := kf.on hC; replace kb := kb.on hC; replace v1 := v1.on hC; replace bc := bc.trans (hC.mono bc.size); clear hC
  have z_kx_kf := kf.lt
  have z_kx_kb := kb.lt
  have zb_kx := bc.size
  have kx := Blk.new w3 28 #[.int .i64 Y.length, .slice A3 n3 c3]
  have al := Below.al w3 (.cells #[.int .i64 Y.length, .slice A3 n3 c3] 28)
  replace kf := kf.on al; replace kb := kb.on al; replace v1 := v1.on al; replace v3 := v3.on al; replace bc := bc.trans (al.mono bc.size); clear al
  obtain ⟨pkf_0, pkf_1, pkf_2, pkf_3, pkf_4, pkf_5, pkf_6, pkf_7, pkf_8⟩ := kf.nine
  obtain ⟨pkf_0f, pkf_1f, pkf_2f, pkf_3f, pkf_4f, pkf_5f, pkf_6f, pkf_7f, pkf_8f⟩ := kf.nineF
  obtain ⟨pkb_0, pkb_1, pkb_0f, pkb_1f⟩ := kb.two
  obtain ⟨pkx_0, pkx_1, pkx_0f, pkx_1f⟩ := kx.two
  go_wp2_with fail
  clear pkf_0 pkf_1 pkf_2 pkf_3 pkf_4 pkf_5 pkf_6 pkf_7 pkf_8 pkf_0f pkf_1f pkf_2f pkf_3f pkf_4f pkf_5f pkf_6f pkf_7f pkf_8f pkb_0 pkb_1 pkb_0f pkb_1f pkx_0 pkx_1 pkx_0f pkx_1f
  generalize w3.alloc (.cells #[.int .i64 Y.length, .slice A3 n3 c3] 28) = u3 at *
  generalize w3.heap.size = g3 at *
  refine (H4.out A3 A1 n3 n1 c3 c1 _ v3 v1).mono ?_
  rintro e w4 ⟨rfl, hC⟩
  dsimp only
  replace kf := kf.on hC; replace kb := kb.on hC; replace kx := kx.on hC; replace v1 := v1.on hC; replace v3 := v3.on hC; replace bc := bc.trans (hC.mono bc.size); clear hC
  rw [HXY.out]
  obtain ⟨pkf_0, pkf_1, pkf_2, pkf_3, pkf_4, pkf_5, pkf_6, pkf_7, pkf_8⟩ := kf.nine
  obtain ⟨pkf_0f, pkf_1f, pkf_2f, pkf_3f, pkf_4f, pkf_5f, pkf_6f, pkf_7f, pkf_8f⟩ := kf.nineF
  obtain ⟨pkb_0, pkb_1, pkb_0f, pkb_1f⟩ := kb.two
  obtain ⟨pkx_0, pkx_1, pkx_0f, pkx_1f⟩ := kx.two
  go_wp2_with fail
  clear pkf_0 pkf_1 pkf_2 pkf_3 pkf_4 pkf_5 pkf_6 pkf_7 pkf_8 pkf_0f pkf_1f pkf_2f pkf_3f pkf_4f pkf_5f pkf_6f pkf_7f pkf_8f pkb_0 pkb_1 pkb_0f pkb_1f pkx_0 pkx_1 pkx_0f pkx_1f
  refine (H5.out A3 n3 c3 _ bc v3).mono ?_
  rintro e w5 ⟨A5, n5, c5, rfl, -, -, hC⟩
  dsimp only
  replace kf := kf.on hC; replace kb := kb.on hC; replace kx := kx.on hC; replace v1 := v1.on hC; replace v3 := v3.on hC; replace bc := bc.trans (hC.mono bc.size); clear hC
  have z_kp_kf := kf.lt
  have z_kp_kb := kb.lt
  have z_kp_kx := kx.lt
  have zb_kp := bc.size
  have kp := Blk.new w5 26 #[.int .i64 pK, .int .i64 pR, .int .i64 pT, .int .i64 pP, .int .i64 pM, .int .i64 pN, .int .i64 pE, .int .i64 pF, .slice A5 n5 c5]
  have al := Below.al w5 (.cells #[.int .i64 pK, .int .i64 pR, .int .i64 pT, .int .i64 pP, .int .i64 pM, .int .i64 pN, .int .i64 pE, .int .i64 pF, .slice A5 n5 c5] 26)
  replace kf := kf.on al; replace kb := kb.on al; replace kx := kx.on al; replace v1 := v1.on al; replace v3 := v3.on al; replace bc := bc.trans (al.mono bc.size); clear al
  obtain ⟨pkf_0, pkf_1, pkf_2, pkf_3, pkf_4, pkf_5, pkf_6, pkf_7, pkf_8⟩ := kf.nine
  obtain ⟨pkf_0f, pkf_1f, pkf_2f, pkf_3f, pkf_4f, pkf_5f, pkf_6f, pkf_7f, pkf_8f⟩ := kf.nineF
  obtain ⟨pkb_0, pkb_1, pkb_0f, pkb_1f⟩ := kb.two
  obtain ⟨pkx_0, pkx_1, pkx_0f, pkx_1f⟩ := kx.two
  go_wp2_with fail
  clear pkf_0 pkf_1 pkf_2 pkf_3 pkf_4 pkf_5 pkf_6 pkf_7 pkf_8 pkf_0f pkf_1f pkf_2f pkf_3f pkf_4f pkf_5f pkf_6f pkf_7f pkf_8f pkb_0 pkb_1 pkb_0f pkb_1f pkx_0 pkx_1 pkx_0f pkx_1f
  generalize w5.alloc (.cells #[.int .i64 pK, .int .i64 pR, .int .i64 pT, .int .i64 pP, .int .i64 pM, .int .i64 pN, .int .i64 pE, .int .i64 pF, .slice A5 n5 c5] 26) = u4 at *
  generalize w5.heap.size = g4 at *
  refine (H6.out A3 n3 c3 _ bc v3).mono ?_
  rintro e w6 ⟨A6, n6, c6, rfl, -, -, hC⟩
  dsimp only
  replace kf := kf.on hC; replace kb := kb.on hC; replace kx := kx.on hC; replace kp := kp.on hC; replace v1 := v1.on hC; replace v3 := v3.on hC; replace bc := bc.trans (hC.mono bc.size); clear hC
  have z_kq_kf := kf.lt
  have z_kq_kb := kb.lt
  have z_kq_kx := kx.lt
  have z_kq_kp := kp.lt
  have zb_kq := bc.size
  have kq := Blk.new w6 26 #[.int .i64 qK, .int .i64 qR, .int .i64 qT, .int .i64 qP, .int .i64 qM, .int .i64 qN, .int .i64 qE, .int .i64 qF, .slice A6 n6 c6]
  have al := Below.al w6 (.cells #[.int .i64 qK, .int .i64 qR, .int .i64 qT, .int .i64 qP, .int .i64 qM, .int .i64 qN, .int .i64 qE, .int .i64 qF, .slice A6 n6 c6] 26)
  replace kf := kf.on al; replace kb := kb.on al; replace kx := kx.on al; replace kp := kp.on al; replace v1 := v1.on al; replace v3 := v3.on al; replace bc := bc.trans (al.mono bc.size); clear al
  have db : (e1 != 0) = true := by simpa using hr1
  go_wp2
  go_ret
  exact ⟨by first | rfl | (show Ending.returned (.bool (e1 != 0)) = _; rw [db]), bc⟩
end Go.Proofs.YtcfbeelljhjnoaaDoor
