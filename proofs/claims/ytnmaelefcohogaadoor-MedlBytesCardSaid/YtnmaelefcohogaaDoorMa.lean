/-
  Parse of package medl. Condition: bytes that can be read. (Printed by tools/gen07ma.py.)
-/
import Derived.Test.YtnmaelefcohogaaDoorM9
namespace Go.Proofs.YtnmaelefcohogaaDoor
open Go.RowKit

/-- Are there as many bytes as there should be? -/
def isLen (bs : List UInt8) : Bool := decide (18 ≤ bs.length) && decide (bs.length = 18 + byteN bs 2 * (byteN bs 1 + 2) + 3)
def parseOk (bs : List UInt8) : Prop := isLen bs = true ∧ okM (readM bs) ∧ bytesM (readM bs) = bs
instance (bs : List UInt8) : Decidable (parseOk bs) := by unfold parseOk; infer_instance
def zeroP : ML := ⟨0, 0, 0, 0, 0, 0, [], []⟩
theorem med_zeroP (w : World) : Med w zeroP ⟨none, 0, 0⟩ ⟨none, 0, 0⟩ := ⟨fun h => absurd rfl h, rfl, Nat.zero_le _, fun h => absurd rfl h, rfl, Nat.zero_le _⟩
/-- Parse, by the document. -/
def parseM (bs : List UInt8) : ML := if parseOk bs then readM bs else zeroP
def parseE (bs : List UInt8) : Int := if parseOk bs then 0 else 71
/-- What Parse answers. -/
def PaR (w : World) (bs : List UInt8) (e : Ending) (w' : World) : Prop := ∃ c s : Slc, e = .returned (.tuple #[vM (parseM bs) c s, .int .i64 (parseE bs)]) ∧ Med w' (parseM bs) c s ∧ Below w.heap.size w w'
theorem pa_bad {w w' : World} {bs : List UInt8} (h : ¬ parseOk bs) (hb : Below w.heap.size w w') : PaR w bs (.returned (.tuple #[.agg #[.int .i64 0, .int .i64 0, .int .i64 0, .int .i64 0, .int .i64 0, .int .i64 0, .slice none 0 0, .slice none 0 0], .int .i64 71])) w' := by
  refine ⟨⟨none, 0, 0⟩, ⟨none, 0, 0⟩, ?_, ?_, hb⟩
  · unfold parseM parseE; rw [if_neg h, if_neg h]; rfl
  · unfold parseM; rw [if_neg h]; exact med_zeroP _
set_option maxRecDepth 8000 in
set_option maxHeartbeats 2000000 in
theorem isLen_any (A : Option Addr) (n c : Nat) (bs : List UInt8) (w : World) (hn : n = bs.length) (hm : n ≤ maxLen) (hA : Byt w.heap.size w A bs) :
    Calls Tryd.prog 20 #[.slice A n c] w fun e w' => e = .returned (.bool (isLen bs)) ∧ Below w.heap.size w w' := by
  unfold maxLen at hm
  obtain ⟨R, hR⟩ : ∃ R, R = isLen bs := ⟨_, rfl⟩
  rw [← hR]
  unfold isLen at hR
  rw [← hn] at hR
  by_cases h18 : 18 ≤ n
  rotate_left
  · obtain rfl : R = false := by rw [hR]; simp [h18]
    have d0 : decide ((n : Int) < 18) = true := by simp; omega
    clear hR hn hA
    go_enter Tryd.func20, Tryd.ntmps20
    go_wp2
    go_ret
    exact ⟨rfl, Below.refl _ _⟩
  have d0 : decide ((n : Int) < 18) = false := by simp; omega
  obtain ⟨b, off, rfl, hb, hc⟩ := hA (by rintro rfl; simp at hn; omega)
  have c1 : w.cell? ⟨b, off + 1, none⟩ = some (.int .u8 (byteN bs 1 : Nat)) := hc 1 (by omega)
  have c2 : w.cell? ⟨b, off + 2, none⟩ = some (.int .u8 (byteN bs 2 : Nat)) := hc 2 (by omega)
  have hN : byteN bs 1 < 256 := (bs[1]?.getD 0).toNat_lt
  have hM : byteN bs 2 < 256 := (bs[2]?.getD 0).toNat_lt
  generalize byteN bs 1 = N at *
  generalize byteN bs 2 = M at *
  have hMN : M * (N + 2) ≤ 255 * 257 := Nat.mul_le_mul (by omega) (by omega)
  have e1 : IntKind.i64.wrap (N : Int) = (N : Int) := IntWalk.i64_in _ (by omega)
  have e2 : IntKind.i64.wrap (M : Int) = (M : Int) := IntWalk.i64_in _ (by omega)
  have e3 : IntKind.i64.wrap ((N : Int) + 2) = (N : Int) + 2 := IntWalk.i64_in _ (by omega)
  have e0 : (M : Int) * ((N : Int) + 2) = ((M * (N + 2) : Nat) : Int) := by simp
  obtain ⟨Q, hQ⟩ : ∃ Q, Q = M * (N + 2) := ⟨_, rfl⟩
  rw [← hQ] at e0 hR hMN
  have e4 : IntKind.i64.wrap ((M : Int) * ((N : Int) + 2)) = (Q : Int) := by rw [e0]; exact IntWalk.i64_in _ (by omega)
  have e5 : IntKind.i64.wrap (Q : Int) = (Q : Int) := IntWalk.i64_in _ (by omega)
  have e6 : IntKind.i64.wrap (18 + (Q : Int)) = 18 + (Q : Int) := IntWalk.i64_in _ (by omega)
  have e7 : IntKind.i64.wrap (18 + (Q : Int) + 3) = 18 + (Q : Int) + 3 := IntWalk.i64_in _ (by omega)
  have hres : ((n : Int) == 18 + (Q : Int) + 3) = R := by
    rw [hR, decide_eq_true h18, Bool.true_and]
    by_cases h : n = 18 + Q + 3
    · rw [decide_eq_true h]; simp; omega
    · rw [decide_eq_false h]; simp; omega
  clear hR hQ e0 hc hn
  go_enter Tryd.func20, Tryd.ntmps20
  go_wp2
  go_quiet (fail)
  go_wp2
  go_ret
  exact ⟨rfl, below_drewN (Below.refl _ _) _⟩
set_option maxRecDepth 100000 in
set_option maxHeartbeats 4000000 in
theorem parse_any (A : Option Addr) (n c : Nat) (bs : List UInt8) (w : World) (hn : n = bs.length) (hc : n ≤ c) (hcm : c ≤ maxLen) (hA : Byt w.heap.size w A bs) (hT : Tab w) : Calls Tryd.prog 7 #[.slice A n c] w (PaR w bs) := by
  have hil := fun W (h : Below w.heap.size w W) => isLen_any A n c bs W hn (Nat.le_trans hc hcm) ((hA.below h).mono h.size)
  obtain ⟨kr, bc⟩ := bx1 w #[.int .i64 0, .int .i64 0, .int .i64 0, .int .i64 0, .int .i64 0, .int .i64 0, .slice none 0 0, .slice none 0 0] 25
  cases hl : isLen bs with
  | false =>
    have hbad : ¬ parseOk bs := fun h => by have h1 := h.1; rw [hl] at h1; cases h1
    rw [hl] at hil
    have HIL := Lib.hid hil; clear hil hA hT hl hn
    go_enter Tryd.func7, Tryd.ntmps7
    go_wp2_with fail
    refine (HIL.out _ bc).mono ?_
    rintro e w1 ⟨rfl, hC⟩
    dsimp only
    replace kr := kr.on hC; replace bc := bc.trans (hC.mono bc.size); clear hC HIL
    have hst := run_storeVar_row (P := Tryd.prog) w1 w.heap.size 25 25 _ #[.int .i64 0, .int .i64 0, .int .i64 0, .int .i64 0, .int .i64 0, .int .i64 0, .slice none 0 0, .slice none 0 0] kr infoM rfl (by simp [Value.oneCell'])
    simp [go_sem] at hst
    have hG := only_setRow w1 w.heap.size #[.int .i64 0, .int .i64 0, .int .i64 0, .int .i64 0, .int .i64 0, .int .i64 0, .slice none 0 0, .slice none 0 0]
    replace bc := Below.off bc bc.size (Nat.le_refl _) hG
    have kr2 := kr.row8 #[.int .i64 0, .int .i64 0, .int .i64 0, .int .i64 0, .int .i64 0, .int .i64 0, .slice none 0 0, .slice none 0 0]
    obtain ⟨q0, q1, q2, q3, q4, q5, q6, q7⟩ := kr2.eight
    clear hG kr kr2
    go_wp2_with fail
    refine bodyPost_ret (v := .tuple #[.agg #[.int .i64 0, .int .i64 0, .int .i64 0, .int .i64 0, .int .i64 0, .int .i64 0, .slice none 0 0, .slice none 0 0], .int .i64 71]) (by simp [results, Tryd.results7, go_sem, q0, q1, q2, q3, q4, q5, q6, q7]) rfl ?_
    exact pa_bad hbad bc
  | true =>
    rw [hl] at hil
    have hln : 18 ≤ bs.length ∧ bs.length = 18 + byteN bs 2 * (byteN bs 1 + 2) + 3 := by
      unfold isLen at hl
      simpa using hl
    obtain ⟨b, off, rfl, hb, -⟩ := hA (by rintro rfl; simp at hln)
    have hrd := fun W (h : Below w.heap.size w W) => read_any b off n c bs W hn hc hcm ((hA.below h).mono h.size) (by rw [hn]; exact hln.2)
    have hby := fun W c s (h : Med W (readM bs) c s) hT => bytes_any (readM bs) c s W h hT
    have heq := fun A2 n2 c2 W (h2 : n2 = (bytesS (readM bs)).length) hB (h : Below w.heap.size w W) => bequal_any A2 (some ⟨b, off, none⟩) n2 n c2 c (bytesS (readM bs)) bs W h2 hn hB ((hA.below h).mono h.size)
    have hpo : parseOk bs ↔ (okM (readM bs) ∧ bytesM (readM bs) = bs) := ⟨fun h => h.2, fun h => ⟨hl, h⟩⟩
    have hcb : okM (readM bs) → bytesS (readM bs) = bytesM (readM bs) := fun h => if_pos h
    obtain ⟨R, hR⟩ : ∃ R, R = readM bs := ⟨_, rfl⟩
    have hgo : parseOk bs → parseM bs = R ∧ parseE bs = 0 := fun h => ⟨by unfold parseM; rw [if_pos h, hR], if_pos h⟩
    rw [← hR] at hrd hpo hcb
    simp only [← hR] at hby heq
    unfold BytR at hby
    have HIL := Lib.hid hil; have HRD := Lib.hid hrd; have HBY := Lib.hid hby; have HEQ := Lib.hid heq; have HPO := Lib.hid hpo; have HT := Lib.hid hT; have HGO := Lib.hid hgo; have HCB := Lib.hid hcb
    clear hil hrd hby heq hpo hT hA hl hln hn hb hgo hcb hR hcm
    go_enter Tryd.func7, Tryd.ntmps7
    go_wp2_with fail
    refine (HIL.out _ bc).mono ?_
    rintro e w1 ⟨rfl, hC⟩
    dsimp only
    replace kr := kr.on hC; replace bc := bc.trans (hC.mono bc.size); clear hC HIL
    have lr := kr.lt
    go_wp2_with fail
    refine (HRD.out _ bc).mono ?_
    rintro e w2 ⟨c1, s1, rfl, hM, hall, hC⟩
    replace kr := kr.on hC; replace bc := bc.trans (hC.mono bc.size); clear hC HRD lr
    have hlr := kr.lt
    have hall2 := fun W (h : w2.grownBy W (some w.heap.size)) => hall w.heap.size _ W kr h
    clear hall
    obtain ⟨RN, RS, RG, RW, RD, RL, Rco, Rms⟩ := R
    obtain ⟨cA, cn, cc⟩ := c1
    obtain ⟨sA, sn, sc⟩ := s1
    dsimp only [vM] at *
    have kq := Blk.new w2 25 #[.int .i64 RN, .int .i64 RS, .int .i64 RG, .int .i64 RW, .int .i64 RD, .int .i64 RL, .slice cA cn cc, .slice sA sn sc]
    have al := Below.al w2 (.cells #[.int .i64 RN, .int .i64 RS, .int .i64 RG, .int .i64 RW, .int .i64 RD, .int .i64 RL, .slice cA cn cc, .slice sA sn sc] 25)
    replace kr := kr.on al; replace hM := hM.on al; replace bc := bc.trans (al.mono bc.size)
    have HALL := Lib.hid hall2; clear hall2
    go_wp2_with fail
    have hmono := al.size
    generalize w2.alloc (.cells #[.int .i64 RN, .int .i64 RS, .int .i64 RG, .int .i64 RW, .int .i64 RD, .int .i64 RL, .slice cA cn cc, .slice sA sn sc] 25) = u at *
    have hby1 := HBY.out u ⟨cA, cn, cc⟩ ⟨sA, sn, sc⟩ hM (HT.out.below bc (.inl (Nat.le_refl _)))
    dsimp only at hby1
    refine hby1.mono ?_
    rintro e w3 ⟨A3, c3, rfl, hB3, -, -, hC⟩
    replace kr := kr.on hC; replace kq := kq.on hC; replace hM := hM.on hC; replace bc := bc.trans (hC.mono bc.size); have bw := al.trans (hC.mono al.size); clear hC hby1 HBY HT al
    generalize hqq : w2.heap.size = q at *
    have HQQ := Lib.hid hqq; clear hqq
    have heq1 := HEQ.out A3 _ c3 w3 rfl hB3 bc
    clear HEQ hlr
    have hgo := HGO.out; have hpo := HPO.out; have hcb := HCB.out
    clear HGO HPO HCB
    dsimp only
    have lr := kr.lt; have lq := kq.lt
    by_cases hok : okM ⟨RN, RS, RG, RW, RD, RL, Rco, Rms⟩
    rotate_left
    · have hbad : ¬ parseOk bs := fun h => hok (hpo.1 h).1
      rw [checkM_no hok]
      generalize (bytesS ⟨RN, RS, RG, RW, RD, RL, Rco, Rms⟩).length = ln at *
      clear hgo hpo hcb heq1 hM hB3 hok kq lq
      have hst := run_storeVar_row (P := Tryd.prog) w3 w.heap.size 25 25 _ #[.int .i64 0, .int .i64 0, .int .i64 0, .int .i64 0, .int .i64 0, .int .i64 0, .slice none 0 0, .slice none 0 0] kr infoM rfl (by simp [Value.oneCell'])
      simp [go_sem] at hst
      have hG := only_setRow w3 w.heap.size #[.int .i64 0, .int .i64 0, .int .i64 0, .int .i64 0, .int .i64 0, .int .i64 0, .slice none 0 0, .slice none 0 0]
      replace bc := Below.off bc bc.size (Nat.le_refl _) hG
      have kr2 := kr.row8 #[.int .i64 0, .int .i64 0, .int .i64 0, .int .i64 0, .int .i64 0, .int .i64 0, .slice none 0 0, .slice none 0 0]
      obtain ⟨q0, q1, q2, q3, q4, q5, q6, q7⟩ := kr2.eight
      clear hG kr kr2
      go_wp2_with fail
      refine bodyPost_ret (v := .tuple #[.agg #[.int .i64 0, .int .i64 0, .int .i64 0, .int .i64 0, .int .i64 0, .int .i64 0, .slice none 0 0, .slice none 0 0], .int .i64 71]) (by simp [results, Tryd.results7, go_sem, q0, q1, q2, q3, q4, q5, q6, q7]) rfl ?_
      exact pa_bad hbad bc
    rw [checkM_yes hok]
    have hcb2 := hcb hok
    generalize (bytesS ⟨RN, RS, RG, RW, RD, RL, Rco, Rms⟩).length = ln at *
    rw [hcb2] at heq1
    by_cases hbs : bytesM ⟨RN, RS, RG, RW, RD, RL, Rco, Rms⟩ = bs
    rotate_left
    · have hbad : ¬ parseOk bs := fun h => hbs (hpo.1 h).2
      rw [decide_eq_false hbs] at heq1
      have HEQ1 := Lib.hid heq1
      clear hgo hpo hcb heq1 hM hB3 hok kq lq hcb2 hbs
      go_wp2_with fail
      refine HEQ1.out.mono ?_
      rintro e w4 ⟨rfl, rfl⟩
      dsimp only
      clear lr; have lr := kr.lt
      have hst := run_storeVar_row (P := Tryd.prog) w3 w.heap.size 25 25 _ #[.int .i64 0, .int .i64 0, .int .i64 0, .int .i64 0, .int .i64 0, .int .i64 0, .slice none 0 0, .slice none 0 0] kr infoM rfl (by simp [Value.oneCell'])
      simp [go_sem] at hst
      have hG := only_setRow w3 w.heap.size #[.int .i64 0, .int .i64 0, .int .i64 0, .int .i64 0, .int .i64 0, .int .i64 0, .slice none 0 0, .slice none 0 0]
      replace bc := Below.off bc bc.size (Nat.le_refl _) hG
      have kr2 := kr.row8 #[.int .i64 0, .int .i64 0, .int .i64 0, .int .i64 0, .int .i64 0, .int .i64 0, .slice none 0 0, .slice none 0 0]
      obtain ⟨q0, q1, q2, q3, q4, q5, q6, q7⟩ := kr2.eight
      clear hG kr kr2
      go_wp2_with fail
      refine bodyPost_ret (v := .tuple #[.agg #[.int .i64 0, .int .i64 0, .int .i64 0, .int .i64 0, .int .i64 0, .int .i64 0, .slice none 0 0, .slice none 0 0], .int .i64 71]) (by simp [results, Tryd.results7, go_sem, q0, q1, q2, q3, q4, q5, q6, q7]) rfl ?_
      exact pa_bad hbad bc
    rw [decide_eq_true hbs] at heq1
    obtain ⟨hg1, hg2⟩ := hgo (hpo.2 ⟨hok, hbs⟩)
    have HG1 := Lib.hid hg1; have HG2 := Lib.hid hg2
    have HEQ1 := Lib.hid heq1
    clear hgo hpo hcb heq1 hB3 hok hcb2 hbs hg1 hg2
    go_wp2_with fail
    refine HEQ1.out.mono ?_
    rintro e w4 ⟨rfl, rfl⟩
    dsimp only
    clear lr lq; have lr := kr.lt; have lq := kq.lt
    obtain ⟨p0, p1, p2, p3, p4, p5, p6, p7⟩ := kq.eight
    have hst := run_storeVar_row (P := Tryd.prog) w3 w.heap.size 25 25 _ #[.int .i64 RN, .int .i64 RS, .int .i64 RG, .int .i64 RW, .int .i64 RD, .int .i64 RL, .slice cA cn cc, .slice sA sn sc] kr infoM rfl (by simp [Value.oneCell'])
    simp [go_sem] at hst
    have hG := only_setRow w3 w.heap.size #[.int .i64 RN, .int .i64 RS, .int .i64 RG, .int .i64 RW, .int .i64 RD, .int .i64 RL, .slice cA cn cc, .slice sA sn sc]
    have hM2 : Med (w3.setRow w.heap.size #[.int .i64 RN, .int .i64 RS, .int .i64 RG, .int .i64 RW, .int .i64 RD, .int .i64 RL, .slice cA cn cc, .slice sA sn sc]) ⟨RN, RS, RG, RW, RD, RL, Rco, Rms⟩ ⟨cA, cn, cc⟩ ⟨sA, sn, sc⟩ := by
      exact HALL.out _ (World.grownBy.trans ⟨bw.os, bw.tape, bw.output, by have := HQQ.out; have := bw.size; omega, fun k hk _ => bw.block k (by have := HQQ.out; omega)⟩ hG)
    replace bc := Below.off bc bc.size (Nat.le_refl _) hG
    have kr2 := kr.row8 #[.int .i64 RN, .int .i64 RS, .int .i64 RG, .int .i64 RW, .int .i64 RD, .int .i64 RL, .slice cA cn cc, .slice sA sn sc]
    obtain ⟨q0, q1, q2, q3, q4, q5, q6, q7⟩ := kr2.eight
    have HM2 := Lib.hid hM2; have BC := Lib.hid bc
    clear hG kr kr2 hM hM2 kq bc
    go_wp2_with fail
    refine bodyPost_ret (v := .tuple #[.agg #[.int .i64 RN, .int .i64 RS, .int .i64 RG, .int .i64 RW, .int .i64 RD, .int .i64 RL, .slice cA cn cc, .slice sA sn sc], .int .i64 0]) (by simp [results, Tryd.results7, go_sem, q0, q1, q2, q3, q4, q5, q6, q7]) rfl ?_
    unfold PaR
    rw [HG1.out, HG2.out]
    exact ⟨⟨cA, cn, cc⟩, ⟨sA, sn, sc⟩, rfl, HM2.out, BC.out⟩
end Go.Proofs.YtnmaelefcohogaaDoor
