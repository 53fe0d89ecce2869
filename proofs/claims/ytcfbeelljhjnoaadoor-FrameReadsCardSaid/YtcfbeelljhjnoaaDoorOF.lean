/-
  The document's Parse for all bits and states. Condition: that the bytes can be read. (Printed by tools/gen05of.py.)
-/
import Derived.Test.YtcfbeelljhjnoaaDoorOH
namespace Go.Proofs.YtcfbeelljhjnoaaDoor
open Go.RowKit

theorem rget_over {w : World} {Q : List Bool} {B : Option Addr} {m : Nat} (hv : Bv w Q B m) (d : Nat) (a W : Int) (hW : 1 ≤ W ∧ W ≤ 24) (hQ : (Q.length : Int) < a + W) :
    Calls Tryd.prog 50 #[.agg #[.int .i64 Q.length, .slice B m d], .int .i64 a, .int .i64 W] w fun e w' => e = .returned (.int .i64 0) ∧ Below w.heap.size w w' := by
  obtain ⟨bs, i1, i2, i3, i4, i5, i6, i7⟩ := hv.parts
  have h := rnumber_any Q.length a W B m d bs w i1 i2 i5 hW.2
  have e : (getS Q.length bs a W).2 = 0 := by
    unfold getS
    rw [if_pos i6, if_neg (by omega)]
  rw [e] at h
  exact h
theorem long_over (k n : Nat) (hn : n < 2) : longF k n = false := by
  unfold longF
  simp
  omega
theorem kindL_range (L : List Bool) : 1 ≤ kindL L ∧ kindL L ≤ 4 := by
  have h := numOf_lt (L.take 2)
  have h2 : (L.take 2).length ≤ 2 := List.length_take_le _ _
  have h3 : 2 ^ (L.take 2).length ≤ 2 ^ 2 := Nat.pow_le_pow_right (by decide) h2
  unfold kindL
  omega
set_option maxRecDepth 8000 in
set_option maxHeartbeats 4000000 in
theorem rparse_bits (N : Int) (A : Option Addr) (n c : Nat) (bs : List UInt8) (C : CS) (w : World) (hn : n = bs.length) (hm : n ≤ maxLen) (hA : Byt w.heap.size w A bs) (hg : goodB N bs = false) :
    Calls Tryd.prog 19 #[.agg #[.int .i64 N, .slice A n c], .agg C.cells] w (ResF w (10, zeroF)) := by
  have h1 := fun (W : World) (hb : Below w.heap.size w W) => rcheck_any N A n c bs W hn hm (hA.on hb)
  rw [chk_no hg] at h1
  obtain ⟨C0, C1, C2, C3, C4⟩ := C
  unfold CS.cells
  have H1 := Lib.hid h1; clear h1 hn hm hA hg
  obtain ⟨kb, kc, kr, bc⟩ := bx3 w #[.int .i64 N, .slice A n c] #[.int .i64 C0, .int .i64 C1, .int .i64 C2, .int .i64 C3, .int .i64 C4] #[.int .i64 0, .int .i64 0, .int .i64 0, .int .i64 0, .int .i64 0, .int .i64 0, .int .i64 0, .int .i64 0, .slice none 0 0] 28 23 26
  go_enter Tryd.func19, Tryd.ntmps19
  go_wp2_with fail
  generalize ((w.alloc (.cells #[.int .i64 N, .slice A n c] 28)).alloc (.cells #[.int .i64 C0, .int .i64 C1, .int .i64 C2, .int .i64 C3, .int .i64 C4] 23)).alloc (.cells #[.int .i64 0, .int .i64 0, .int .i64 0, .int .i64 0, .int .i64 0, .int .i64 0, .int .i64 0, .int .i64 0, .slice none 0 0] 26) = u1 at *
  refine (H1.out _ bc).mono ?_
  rintro e w1 ⟨rfl, hC⟩
  dsimp only
  replace kb := kb.on hC; replace kc := kc.on hC; replace kr := kr.on hC; replace bc := bc.trans (hC.mono bc.size); clear hC
  have hst := run_storeVar_row (P := Tryd.prog) w1 (w.heap.size + 1 + 1) 26 26 _ #[.int .i64 0, .int .i64 0, .int .i64 0, .int .i64 0, .int .i64 0, .int .i64 0, .int .i64 0, .int .i64 0, .slice none 0 0] kr info26 rfl (by simp [Value.oneCell'])
  simp [go_sem] at hst
  have hG := only_setRow w1 (w.heap.size + 1 + 1) #[.int .i64 0, .int .i64 0, .int .i64 0, .int .i64 0, .int .i64 0, .int .i64 0, .int .i64 0, .int .i64 0, .slice none 0 0]
  replace kb := kb.grown hG (some_ne (by omega)); replace kc := kc.grown hG (some_ne (by omega)); replace bc := Below.off bc bc.size (by omega) hG; replace kr := Blk.row kr #[.int .i64 0, .int .i64 0, .int .i64 0, .int .i64 0, .int .i64 0, .int .i64 0, .int .i64 0, .int .i64 0, .slice none 0 0]; clear hG
  go_wp2
  obtain ⟨xkr_0, xkr_1, xkr_2, xkr_3, xkr_4, xkr_5, xkr_6, xkr_7, xkr_8⟩ := kr.nine
  obtain ⟨xkr_0f, xkr_1f, xkr_2f, xkr_3f, xkr_4f, xkr_5f, xkr_6f, xkr_7f, xkr_8f⟩ := kr.nineF
  exact bodyPost_ret (v := .tuple #[.agg #[.int .i64 0, .int .i64 0, .int .i64 0, .int .i64 0, .int .i64 0, .int .i64 0, .int .i64 0, .int .i64 0, .slice none 0 0], .int .i64 10]) (by simp [results, Tryd.results19, go_sem, xkr_0, xkr_1, xkr_2, xkr_3, xkr_4, xkr_5, xkr_6, xkr_7, xkr_8]) rfl ⟨none, 0, 0, rfl, rfl, Byt.none _, bc⟩
set_option maxRecDepth 8000 in
set_option maxHeartbeats 4000000 in
theorem rparse_state {w : World} {L : List Bool} {A : Option Addr} {n : Nat} (h : Bv w L A n) (c : Nat) (C : CS) (hC : ¬ mayC C 8 = true) :
    Calls Tryd.prog 19 #[.agg #[.int .i64 L.length, .slice A n c], .agg C.cells] w (ResF w (40, zeroF)) := by
  have h1 := fun (W : World) (hb : Below w.heap.size w W) => rcheck_list (h.on hb) c
  have h2 := fun (W : World) => rcheckC_any C 8 W
  rw [checkC_no hC] at h2
  obtain ⟨C0, C1, C2, C3, C4⟩ := C
  unfold CS.cells at *
  have H1 := Lib.hid h1; have H2 := Lib.hid h2; clear h1 h2 h hC
  obtain ⟨kb, kc, kr, bc⟩ := bx3 w #[.int .i64 L.length, .slice A n c] #[.int .i64 C0, .int .i64 C1, .int .i64 C2, .int .i64 C3, .int .i64 C4] #[.int .i64 0, .int .i64 0, .int .i64 0, .int .i64 0, .int .i64 0, .int .i64 0, .int .i64 0, .int .i64 0, .slice none 0 0] 28 23 26
  go_enter Tryd.func19, Tryd.ntmps19
  go_wp2_with fail
  generalize ((w.alloc (.cells #[.int .i64 L.length, .slice A n c] 28)).alloc (.cells #[.int .i64 C0, .int .i64 C1, .int .i64 C2, .int .i64 C3, .int .i64 C4] 23)).alloc (.cells #[.int .i64 0, .int .i64 0, .int .i64 0, .int .i64 0, .int .i64 0, .int .i64 0, .int .i64 0, .int .i64 0, .slice none 0 0] 26) = u1 at *
  refine (H1.out _ bc).mono ?_
  rintro e w1 ⟨rfl, hC⟩
  dsimp only
  replace kb := kb.on hC; replace kc := kc.on hC; replace kr := kr.on hC; replace bc := bc.trans (hC.mono bc.size); clear hC
  obtain ⟨⟨pkc_0, pkc_1, pkc_2, pkc_3, pkc_4⟩, pkc_0f, pkc_1f, pkc_2f, pkc_3f, pkc_4f⟩ := kc.five
  go_wp2_with fail
  clear pkc_0 pkc_1 pkc_2 pkc_3 pkc_4 pkc_0f pkc_1f pkc_2f pkc_3f pkc_4f
  refine (H2.out _).mono ?_
  rintro e w2 ⟨rfl, hC⟩
  dsimp only
  replace kb := kb.on hC; replace kc := kc.on hC; replace kr := kr.on hC; replace bc := bc.trans (hC.mono bc.size); clear hC
  have hst := run_storeVar_row (P := Tryd.prog) w2 (w.heap.size + 1 + 1) 26 26 _ #[.int .i64 0, .int .i64 0, .int .i64 0, .int .i64 0, .int .i64 0, .int .i64 0, .int .i64 0, .int .i64 0, .slice none 0 0] kr info26 rfl (by simp [Value.oneCell'])
  simp [go_sem] at hst
  have hG := only_setRow w2 (w.heap.size + 1 + 1) #[.int .i64 0, .int .i64 0, .int .i64 0, .int .i64 0, .int .i64 0, .int .i64 0, .int .i64 0, .int .i64 0, .slice none 0 0]
  replace kb := kb.grown hG (some_ne (by omega)); replace kc := kc.grown hG (some_ne (by omega)); replace bc := Below.off bc bc.size (by omega) hG; replace kr := Blk.row kr #[.int .i64 0, .int .i64 0, .int .i64 0, .int .i64 0, .int .i64 0, .int .i64 0, .int .i64 0, .int .i64 0, .slice none 0 0]; clear hG
  go_wp2
  obtain ⟨xkr_0, xkr_1, xkr_2, xkr_3, xkr_4, xkr_5, xkr_6, xkr_7, xkr_8⟩ := kr.nine
  obtain ⟨xkr_0f, xkr_1f, xkr_2f, xkr_3f, xkr_4f, xkr_5f, xkr_6f, xkr_7f, xkr_8f⟩ := kr.nineF
  exact bodyPost_ret (v := .tuple #[.agg #[.int .i64 0, .int .i64 0, .int .i64 0, .int .i64 0, .int .i64 0, .int .i64 0, .int .i64 0, .int .i64 0, .slice none 0 0], .int .i64 40]) (by simp [results, Tryd.results19, go_sem, xkr_0, xkr_1, xkr_2, xkr_3, xkr_4, xkr_5, xkr_6, xkr_7, xkr_8]) rfl ⟨none, 0, 0, rfl, rfl, Byt.none _, bc⟩
set_option maxRecDepth 8000 in
set_option maxHeartbeats 4000000 in
theorem rparse_long {w : World} {L : List Bool} {A : Option Addr} {n : Nat} (h : Bv w L A n) (c : Nat) (C : CS) (hC : mayC C 8 = true) (hl : longF (kindL L) L.length = false) :
    Calls Tryd.prog 19 #[.agg #[.int .i64 L.length, .slice A n c], .agg C.cells] w (ResF w (51, zeroF)) := by
  have h1 := fun (W : World) (hb : Below w.heap.size w W) => rcheck_list (h.on hb) c
  have h2 := fun (W : World) => rcheckC_any C 8 W
  rw [checkC_yes hC] at h2
  have hkr := kindL_range L
  obtain ⟨q, hq, hq4, hql⟩ : ∃ q : Nat, (∀ W, Below w.heap.size w W → Calls Tryd.prog 50 #[.agg #[.int .i64 L.length, .slice A n c], .int .i64 0, .int .i64 2] W fun e w' => e = .returned (.int .i64 (q : Int)) ∧ Below W.heap.size W w') ∧ q ≤ 3 ∧ longF (q + 1) L.length = false := by
    by_cases h2 : 2 ≤ L.length
    · refine ⟨numOf ((L.drop 0).take 2), fun W hb => rnumber_list (h.on hb) c (N := L.length) (ai := 0) (Wi := 2) (a := 0) (W := 2) rfl rfl rfl (by decide) (by omega), ?_, ?_⟩
      · rw [List.drop_zero]; unfold kindL at hkr; omega
      · rw [List.drop_zero]; exact hl
    · exact ⟨0, fun W hb => rget_over (h.on hb) c 0 2 (by decide) (by omega), by decide, long_over _ _ (by omega)⟩
  have hw1 : IntKind.i64.wrap ((q : Int) + 1) = ((q + 1 : Nat) : Int) := by rw [show ((q + 1 : Nat) : Int) = (q : Int) + 1 by simp]; exact IntWalk.i64_in _ (by omega)
  have h4 := fun (W : World) => rlong_any (q + 1) L.length W (by omega)
  rw [hql] at h4
  generalize ((q + 1 : Nat) : Int) = q1 at *
  obtain ⟨C0, C1, C2, C3, C4⟩ := C
  unfold CS.cells at *
  have H1 := Lib.hid h1; have H2 := Lib.hid h2; have H3 := Lib.hid hq; have H4 := Lib.hid h4
  clear h1 h2 hq h4 h hC hl hkr hq4 hql
  obtain ⟨kb, kc, kr, bc⟩ := bx3 w #[.int .i64 L.length, .slice A n c] #[.int .i64 C0, .int .i64 C1, .int .i64 C2, .int .i64 C3, .int .i64 C4] #[.int .i64 0, .int .i64 0, .int .i64 0, .int .i64 0, .int .i64 0, .int .i64 0, .int .i64 0, .int .i64 0, .slice none 0 0] 28 23 26
  go_enter Tryd.func19, Tryd.ntmps19
  go_wp2_with fail
  generalize ((w.alloc (.cells #[.int .i64 L.length, .slice A n c] 28)).alloc (.cells #[.int .i64 C0, .int .i64 C1, .int .i64 C2, .int .i64 C3, .int .i64 C4] 23)).alloc (.cells #[.int .i64 0, .int .i64 0, .int .i64 0, .int .i64 0, .int .i64 0, .int .i64 0, .int .i64 0, .int .i64 0, .slice none 0 0] 26) = u1 at *
  refine (H1.out _ bc).mono ?_
  rintro e w1 ⟨rfl, hC⟩
  dsimp only
  replace kb := kb.on hC; replace kc := kc.on hC; replace kr := kr.on hC; replace bc := bc.trans (hC.mono bc.size); clear hC
  obtain ⟨pkb_0, pkb_1, pkb_0f, pkb_1f⟩ := kb.two
  obtain ⟨⟨pkc_0, pkc_1, pkc_2, pkc_3, pkc_4⟩, pkc_0f, pkc_1f, pkc_2f, pkc_3f, pkc_4f⟩ := kc.five
  go_wp2_with fail
  clear pkb_0 pkb_1 pkb_0f pkb_1f pkc_0 pkc_1 pkc_2 pkc_3 pkc_4 pkc_0f pkc_1f pkc_2f pkc_3f pkc_4f
  refine (H2.out _).mono ?_
  rintro e w2 ⟨rfl, hC⟩
  dsimp only
  replace kb := kb.on hC; replace kc := kc.on hC; replace kr := kr.on hC; replace bc := bc.trans (hC.mono bc.size); clear hC
  obtain ⟨pkb_0, pkb_1, pkb_0f, pkb_1f⟩ := kb.two
  obtain ⟨⟨pkc_0, pkc_1, pkc_2, pkc_3, pkc_4⟩, pkc_0f, pkc_1f, pkc_2f, pkc_3f, pkc_4f⟩ := kc.five
  go_wp2_with fail
  clear pkb_0 pkb_1 pkb_0f pkb_1f pkc_0 pkc_1 pkc_2 pkc_3 pkc_4 pkc_0f pkc_1f pkc_2f pkc_3f pkc_4f
  refine (H3.out _ bc).mono ?_
  rintro e w3 ⟨rfl, hC⟩
  dsimp only
  replace kb := kb.on hC; replace kc := kc.on hC; replace kr := kr.on hC; replace bc := bc.trans (hC.mono bc.size); clear hC
  obtain ⟨pkb_0, pkb_1, pkb_0f, pkb_1f⟩ := kb.two
  obtain ⟨⟨pkc_0, pkc_1, pkc_2, pkc_3, pkc_4⟩, pkc_0f, pkc_1f, pkc_2f, pkc_3f, pkc_4f⟩ := kc.five
  go_wp2_with fail
  clear pkb_0 pkb_1 pkb_0f pkb_1f pkc_0 pkc_1 pkc_2 pkc_3 pkc_4 pkc_0f pkc_1f pkc_2f pkc_3f pkc_4f
  refine (H4.out _).mono ?_
  rintro e w4 ⟨rfl, hC⟩
  dsimp only
  replace kb := kb.on hC; replace kc := kc.on hC; replace kr := kr.on hC; replace bc := bc.trans (hC.mono bc.size); clear hC
  have hst := run_storeVar_row (P := Tryd.prog) w4 (w.heap.size + 1 + 1) 26 26 _ #[.int .i64 0, .int .i64 0, .int .i64 0, .int .i64 0, .int .i64 0, .int .i64 0, .int .i64 0, .int .i64 0, .slice none 0 0] kr info26 rfl (by simp [Value.oneCell'])
  simp [go_sem] at hst
  have hG := only_setRow w4 (w.heap.size + 1 + 1) #[.int .i64 0, .int .i64 0, .int .i64 0, .int .i64 0, .int .i64 0, .int .i64 0, .int .i64 0, .int .i64 0, .slice none 0 0]
  replace kb := kb.grown hG (some_ne (by omega)); replace kc := kc.grown hG (some_ne (by omega)); replace bc := Below.off bc bc.size (by omega) hG; replace kr := Blk.row kr #[.int .i64 0, .int .i64 0, .int .i64 0, .int .i64 0, .int .i64 0, .int .i64 0, .int .i64 0, .int .i64 0, .slice none 0 0]; clear hG
  go_wp2
  obtain ⟨xkr_0, xkr_1, xkr_2, xkr_3, xkr_4, xkr_5, xkr_6, xkr_7, xkr_8⟩ := kr.nine
  obtain ⟨xkr_0f, xkr_1f, xkr_2f, xkr_3f, xkr_4f, xkr_5f, xkr_6f, xkr_7f, xkr_8f⟩ := kr.nineF
  exact bodyPost_ret (v := .tuple #[.agg #[.int .i64 0, .int .i64 0, .int .i64 0, .int .i64 0, .int .i64 0, .int .i64 0, .int .i64 0, .int .i64 0, .slice none 0 0], .int .i64 51]) (by simp [results, Tryd.results19, go_sem, xkr_0, xkr_1, xkr_2, xkr_3, xkr_4, xkr_5, xkr_6, xkr_7, xkr_8]) rfl ⟨none, 0, 0, rfl, rfl, Byt.none _, bc⟩
theorem rparse_any (N : Int) (A : Option Addr) (n c : Nat) (bs : List UInt8) (C : CS) (w : World) (hn : n = bs.length) (hm : n ≤ maxLen) (hA : Byt w.heap.size w A bs) :
    Calls Tryd.prog 19 #[.agg #[.int .i64 N, .slice A n c], .agg C.cells] w (ResF w (readF N bs C)) := by
  by_cases hg : goodB N bs = true
  · obtain ⟨hv, hN⟩ := Bv.of_good hn hA hg
    by_cases hC : mayC C 8 = true
    · have hr : readF N bs C = readL (listOf N bs) C := by unfold readF; rw [if_pos hg, if_pos hC]
      rw [hr, hN]
      have hll : listOf ((listOf N bs).length : Int) bs = listOf N bs := by rw [← hN]
      rw [hll]
      generalize listOf N bs = L at *
      cases hl : longF (kindL L) L.length with
      | false => rw [read_no_long hl]; exact rparse_long hv c C hC hl
      | true =>
        rcases longF_cases hl with ⟨hk, hn⟩ | ⟨hk, hn⟩ | ⟨hk, hn⟩ | ⟨hk, hn⟩
        · exact rparse_1 hv c C hk (by rw [← hk]; exact hl) hn hC
        · exact rparse_2 hv c C hk (by rw [← hk]; exact hl) hn hC
        · exact rparse_3 hv c C hk (by rw [← hk]; exact hl) hn hC
        · exact rparse_4 hv c C hk (by rw [← hk]; exact hl) hn hC
    · have hr : readF N bs C = (40, zeroF) := by unfold readF; rw [if_pos hg, if_neg hC]
      rw [hr, hN]
      exact rparse_state hv c C hC
  · have hr : readF N bs C = (10, zeroF) := by unfold readF; rw [if_neg hg]
    rw [hr]
    exact rparse_bits N A n c bs C w hn hm hA (by simpa using hg)
end Go.Proofs.YtcfbeelljhjnoaaDoor
