/-
  A frame that begins a cluster: begun of the statements of layer 5 answers true. Conditions: that the program's tables hold what its text lays.
-/
import Derived.Test.YtcfbeelljhjnoaaDoorNB
import Derived.Test.YtcfbeelljhjnoaaDoorNT
import Derived.Test.YtcfbeelljhjnoaaDoorQB
namespace Go.Proofs.YtcfbeelljhjnoaaDoor
open Go.RowKit

set_option maxRecDepth 8000 in
set_option maxHeartbeats 2000000 in
theorem inner_prefix (s p : ByteArray) (w : World) (h : p.size ≤ s.size) (he : s.extract 0 p.size = p) :
    Calls Tryd.prog 69 #[.string s, .string p] w fun e w' => e = .returned (.bool true) ∧ w = w' := by
  have h1 : decide ((p.size : Int) ≤ (s.size : Int)) = true := by simp; omega
  have h2 : decide (p.size ≤ s.size) = true := by simpa using h
  go_enter Tryd.func69, Tryd.ntmps69
  go_wp2
  go_ret
  exact ⟨rfl, rfl⟩
set_option maxRecDepth 8000 in
set_option maxHeartbeats 2000000 in
theorem has_prefix (s p : ByteArray) (w : World) (h : p.size ≤ s.size) (he : s.extract 0 p.size = p) :
    Calls Tryd.prog 37 #[.string s, .string p] w fun e w' => e = .returned (.bool true) ∧ w = w' := by
  have hp := inner_prefix s p w h he
  have HP := Lib.hid hp; clear hp h he
  go_enter Tryd.func37, Tryd.ntmps37
  go_wp2_with (go_at_call 69; refine HP.out.mono ?_; rintro e w1 ⟨rfl, rfl⟩)
  go_ret
  exact ⟨rfl, rfl⟩
def cold0 : FR := ⟨1, 0, ⟨7, 0, 0, 0, 0⟩, 3, []⟩
theorem cold_may : mayF cold0 = true := by decide
theorem cold_bits : (bitsF cold0).length = 40 := by decide +kernel
theorem cold_text : (textOf (bitsF cold0)).extract 0 16 = (⟨#[48, 48, 48, 49, 49, 48, 48, 48, 48, 48, 49, 49, 49, 48, 48, 48]⟩ : ByteArray) := by decide +kernel
theorem cold_size : (textOf (bitsF cold0)).size = 40 := by decide +kernel
theorem enc_cold (w : World) (hT : Tab w) (hW : WTab w) :
    Calls Tryd.prog 8 #[.agg #[.int .i64 1, .int .i64 0, .int .i64 7, .int .i64 0, .int .i64 0, .int .i64 0, .int .i64 0, .int .i64 3, .slice none 0 0]] w fun e w' => ∃ (A : Option Addr) (n c : Nat) (bs : List UInt8), e = .returned (.tuple #[.agg #[.int .i64 40, .slice A n c], .int .i64 0]) ∧ n = bs.length ∧ IsBits (bitsF cold0) bs ∧ Byt w'.heap.size w' A bs ∧ Below w.heap.size w w' := by
  have h := encode_any cold0 none 0 0 w rfl (fun h => absurd rfl h) hT hW
  rw [show encF cold0 = (0, bitsF cold0) from if_pos cold_may] at h
  refine h.mono ?_
  rintro e w' ⟨A, n, c, he, ⟨bs, h1, h2, h3, h4⟩, h5⟩
  dsimp only at he h2
  rw [cold_bits] at he
  exact ⟨A, n, c, bs, he, h1, h2, h4, h5⟩
theorem expl_cold {w : World} {A : Option Addr} {n : Nat} (c : Nat) {bs : List UInt8} (hn : n = bs.length) (hi : IsBits (bitsF cold0) bs) (hA : Byt w.heap.size w A bs) (hT : Tab w) (hW : WTab w) :
    Calls Tryd.prog 22 #[.agg #[.int .i64 40, .slice A n c]] w (ResG w (true, cold0)) := by
  have hl4 : (bitsF cold0).length ≤ 4096 := by rw [cold_bits]; decide
  have h := expl_any 40 A n c bs w hn (by rw [hn]; exact bytes_small hi hl4) hA hT hW
  have hr : readF 40 bs zeroC = (0, cold0) := by
    have hg := isBits_good hi hl4
    have hll := isBits_listOf hi
    rw [cold_bits] at hg hll
    unfold readF
    have e40 : ((40 : Nat) : Int) = 40 := rfl
    rw [e40] at hg hll
    rw [if_pos hg, if_pos (by decide), hll]
    exact read_1 cold0 cold_may rfl zeroC
  have he : explF 40 bs = (true, cold0) := by unfold explF; rw [hr, if_pos ⟨rfl, by decide⟩]
  rw [he] at h
  exact h
theorem text_cold {w : World} {A : Option Addr} {n : Nat} (c : Nat) {bs : List UInt8} (hn : n = bs.length) (hi : IsBits (bitsF cold0) bs) (hA : Byt w.heap.size w A bs) :
    Calls Tryd.prog 38 #[.agg #[.int .i64 40, .slice A n c]] w fun e w' => e = .returned (.string (textOf (bitsF cold0))) ∧ Below w.heap.size w w' := by
  have hl4 : (bitsF cold0).length ≤ 4096 := by rw [cold_bits]; decide
  have h := rtext_any 40 A n c bs w hn (by rw [hn]; exact bytes_small hi hl4) hA
  have hl := lst_more hi hl4
  rw [cold_bits] at hl
  rw [show ((40 : Nat) : Int) = 40 from rfl] at hl
  rw [hl] at h
  exact h
set_option maxRecDepth 8000 in
set_option maxHeartbeats 4000000 in
theorem begun_any (w : World) (hT : Tab w) (hW : WTab w) : Calls Tryd.prog 10 #[] w fun e w' => e = .returned (.bool true) ∧ Below w.heap.size w w' := by
  have h1 := enc_cold w hT hW
  have h2 := fun (W : World) (hb : Below w.heap.size w W) (A : Option Addr) (n c : Nat) (bs : List UInt8) (hn : n = bs.length) (hi : IsBits (bitsF cold0) bs) (hA : Byt W.heap.size W A bs) => expl_cold c hn hi hA (hT.on hb) (hW.on hb)
  have h3 := fun (W : World) (A : Option Addr) (n c : Nat) (bs : List UInt8) (hn : n = bs.length) (hi : IsBits (bitsF cold0) bs) (hA : Byt W.heap.size W A bs) => text_cold c hn hi hA
  have h4 := fun (W : World) => has_prefix (textOf (bitsF cold0)) (⟨#[48, 48, 48, 49, 49, 48, 48, 48, 48, 48, 49, 49, 49, 48, 48, 48]⟩ : ByteArray) W (by rw [cold_size]; decide) cold_text
  generalize bitsF cold0 = X at *
  generalize textOf X = t at *
  unfold ResG cold0 FR.cells at h2
  dsimp only at h2
  have H1 := Lib.hid h1; have H2 := Lib.hid h2; have H3 := Lib.hid h3; have H4 := Lib.hid h4; clear h1 h2 h3 h4
  have bc := Below.refl w.heap.size w
  go_enter Tryd.func10, Tryd.ntmps10
  go_wp2_with fail
  refine (H1.out).mono ?_
  rintro e w1 ⟨A1, n1, c1, bs, rfl, hn1, hi1, y1, hC⟩
  dsimp only at y1 ⊢
  replace bc := bc.trans (hC.mono bc.size); clear hC
  have HN1 := Lib.hid hn1; have HI1 := Lib.hid hi1; clear hn1 hi1
  have zb_kb := bc.size
  have kb := Blk.new w1 28 #[.int .i64 40, .slice A1 n1 c1]
  have al := Below.al w1 (.cells #[.int .i64 40, .slice A1 n1 c1] 28)
  replace y1 := y1.on al; replace bc := bc.trans (al.mono bc.size); clear al
  obtain ⟨pkb_0, pkb_1, pkb_0f, pkb_1f⟩ := kb.two
  go_wp2_with fail
  clear pkb_0 pkb_1 pkb_0f pkb_1f
  generalize w1.alloc (.cells #[.int .i64 40, .slice A1 n1 c1] 28) = u1 at *
  generalize w1.heap.size = g1 at *
  refine (H2.out _ bc A1 n1 c1 bs HN1.out HI1.out y1).mono ?_
  rintro e w2 ⟨A2, n2, c2, rfl, -, -, hC⟩
  dsimp only
  replace kb := kb.on hC; replace y1 := y1.on hC; replace bc := bc.trans (hC.mono bc.size); clear hC
  have z_kf_kb := kb.lt
  have zb_kf := bc.size
  have kf := Blk.new w2 26 #[.int .i64 1, .int .i64 0, .int .i64 7, .int .i64 0, .int .i64 0, .int .i64 0, .int .i64 0, .int .i64 3, .slice A2 n2 c2]
  have al := Below.al w2 (.cells #[.int .i64 1, .int .i64 0, .int .i64 7, .int .i64 0, .int .i64 0, .int .i64 0, .int .i64 0, .int .i64 3, .slice A2 n2 c2] 26)
  replace kb := kb.on al; replace y1 := y1.on al; replace bc := bc.trans (al.mono bc.size); clear al
  obtain ⟨pkb_0, pkb_1, pkb_0f, pkb_1f⟩ := kb.two
  obtain ⟨pkf_0, pkf_1, pkf_2, pkf_3, pkf_4, pkf_5, pkf_6, pkf_7, pkf_8⟩ := kf.nine
  obtain ⟨pkf_0f, pkf_1f, pkf_2f, pkf_3f, pkf_4f, pkf_5f, pkf_6f, pkf_7f, pkf_8f⟩ := kf.nineF
  go_wp2_with fail
  clear pkb_0 pkb_1 pkb_0f pkb_1f pkf_0 pkf_1 pkf_2 pkf_3 pkf_4 pkf_5 pkf_6 pkf_7 pkf_8 pkf_0f pkf_1f pkf_2f pkf_3f pkf_4f pkf_5f pkf_6f pkf_7f pkf_8f
  generalize w2.alloc (.cells #[.int .i64 1, .int .i64 0, .int .i64 7, .int .i64 0, .int .i64 0, .int .i64 0, .int .i64 0, .int .i64 3, .slice A2 n2 c2] 26) = u2 at *
  generalize w2.heap.size = g2 at *
  refine (H3.out _ A1 n1 c1 bs HN1.out HI1.out y1).mono ?_
  rintro e w3 ⟨rfl, hC⟩
  dsimp only
  replace kb := kb.on hC; replace kf := kf.on hC; replace y1 := y1.on hC; replace bc := bc.trans (hC.mono bc.size); clear hC
  obtain ⟨pkb_0, pkb_1, pkb_0f, pkb_1f⟩ := kb.two
  obtain ⟨pkf_0, pkf_1, pkf_2, pkf_3, pkf_4, pkf_5, pkf_6, pkf_7, pkf_8⟩ := kf.nine
  obtain ⟨pkf_0f, pkf_1f, pkf_2f, pkf_3f, pkf_4f, pkf_5f, pkf_6f, pkf_7f, pkf_8f⟩ := kf.nineF
  go_wp2_with fail
  refine (H4.out _).mono ?_
  rintro e w4 ⟨rfl, rfl⟩
  dsimp only
  go_wp2
  go_ret
  exact ⟨rfl, bc⟩
end Go.Proofs.YtcfbeelljhjnoaaDoor
