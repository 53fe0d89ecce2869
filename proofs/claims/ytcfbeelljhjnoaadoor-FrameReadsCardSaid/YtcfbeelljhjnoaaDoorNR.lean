/-
  Parse of package frame answers as the document says, for all bits and states. Conditions: that the bytes can be read, and that the program's tables hold what its text lays.
-/
import Derived.Test.YtcfbeelljhjnoaaDoorNJ
import Derived.Test.YtcfbeelljhjnoaaDoorNM
import Derived.Test.YtcfbeelljhjnoaaDoorNO
namespace Go.Proofs.YtcfbeelljhjnoaaDoor
open Go.RowKit

set_option maxRecDepth 8000 in
set_option maxHeartbeats 4000000 in
theorem parse_bits (N : Int) (A : Option Addr) (n c : Nat) (bs : List UInt8) (C : CS) (w : World) (hn : n = bs.length) (hm : n ≤ maxLen) (hA : Byt w.heap.size w A bs) (hg : goodB N bs = false) :
    Calls Tryd.prog 18 #[.agg #[.int .i64 N, .slice A n c], .agg C.cells] w (ResF w (10, zeroF)) := by
  have h1 := fun (W : World) (hb : Below w.heap.size w W) => check_any N A n c bs W hn hm (hA.on hb)
  rw [chk_no hg] at h1
  obtain ⟨C0, C1, C2, C3, C4⟩ := C
  unfold CS.cells
  have H1 := Lib.hid h1; clear h1 hn hm hA hg
  obtain ⟨kb, kc, kr, bc⟩ := bx3 w #[.int .i64 N, .slice A n c] #[.int .i64 C0, .int .i64 C1, .int .i64 C2, .int .i64 C3, .int .i64 C4] #[.int .i64 0, .int .i64 0, .int .i64 0, .int .i64 0, .int .i64 0, .int .i64 0, .int .i64 0, .int .i64 0, .slice none 0 0] 28 23 26
  go_enter Tryd.func18, Tryd.ntmps18
  go_wp2_with fail
  generalize ((w.alloc (.cells #[.int .i64 N, .slice A n c] 28)).alloc (.cells #[.int .i64 C0, .int .i64 C1, .int .i64 C2, .int .i64 C3, .int .i64 C4] 23)).alloc (.cells #[.int .i64 0, .int .i64 0, .int .i64 0, .int .i64 0, .int .i64 0, .int .i64 0, .int .i64 0, .int .i64 0, .slice none 0 0] 26) = u1 at *
  refine (H1.out _ bc).mono ?_
  rintro e w1 ⟨rfl, hC⟩
  dsimp only
  replace kb := kb.on hC; replace kc := kc.on hC; replace kr := kr.on hC; replace bc := bc.trans (hC.mono bc.size); clear hC
  have hst := run_storeVar_row (P := Tryd.prog) w1 (w.heap.size + 1 + 1) 26 26 _ #[.int .i64 0, .int .i64 0, .int .i64 0, .int .i64 0, .int .i64 0, .int .i64 0, .int .i64 0, .int .i64 0, .slice none 0 0] kr info26 rfl (by simp [Value.oneCell'])
  simp [go_sem] at hst
  have hG := only_setRow w1 (w.heap.size + 1 + 1) #[.int .i64 0, .int .i64 0, .int .i64 0, .int .i64 0, .int .i64 0, .int .i64 0, .int .i64 0, .int .i64 0, .slice none 0 0]
  replace kb := kb.grown hG (some_ne (by omega)); replace kc := kc.grown hG (some_ne (by omega)); replace bc := Below.off bc bc.size (by omega) hG; replace kr := Blk.row kr #[.int .i64 0, .int .i64 0, .int .i64 0, .int .i64 0, .int .i64 0, .int .i64 0, .int .i64 0, .int .i64 0, .slice none 0 0]; clear hG
  go_wp2
  obtain ⟨xkr_0, xkr_1, xkr_2, xkr_3, xkr_4, xkr_5, xkr_6, xkr_7, xkr_8⟩ := kr.nine
  obtain ⟨xkr_0f, xkr_1f, xkr_2f, xkr_3f, xkr_4f, xkr_5f, xkr_6f, xkr_7f, xkr_8f⟩ := kr.nineF
  exact bodyPost_ret (v := .tuple #[.agg #[.int .i64 0, .int .i64 0, .int .i64 0, .int .i64 0, .int .i64 0, .int .i64 0, .int .i64 0, .int .i64 0, .slice none 0 0], .int .i64 10]) (by simp [results, Tryd.results18, go_sem, xkr_0, xkr_1, xkr_2, xkr_3, xkr_4, xkr_5, xkr_6, xkr_7, xkr_8]) rfl ⟨none, 0, 0, rfl, rfl, Byt.none _, bc⟩
set_option maxRecDepth 8000 in
set_option maxHeartbeats 4000000 in
theorem parse_state {w : World} {L : List Bool} {A : Option Addr} {n : Nat} (h : Bv w L A n) (c : Nat) (C : CS) (hC : ¬ mayC C 8 = true) (hW : WTab w) :
    Calls Tryd.prog 18 #[.agg #[.int .i64 L.length, .slice A n c], .agg C.cells] w (ResF w (40, zeroF)) := by
  have h1 := fun (W : World) (hb : Below w.heap.size w W) => check_list (h.on hb) c
  have h2 := fun (W : World) (hb : Below w.heap.size w W) => bits_not C (w := W) hC (hW.on hb)
  obtain ⟨C0, C1, C2, C3, C4⟩ := C
  unfold CS.cells at *
  have H1 := Lib.hid h1; have H2 := Lib.hid h2; clear h1 h2 h hC
  obtain ⟨kb, kc, kr, bc⟩ := bx3 w #[.int .i64 L.length, .slice A n c] #[.int .i64 C0, .int .i64 C1, .int .i64 C2, .int .i64 C3, .int .i64 C4] #[.int .i64 0, .int .i64 0, .int .i64 0, .int .i64 0, .int .i64 0, .int .i64 0, .int .i64 0, .int .i64 0, .slice none 0 0] 28 23 26
  go_enter Tryd.func18, Tryd.ntmps18
  go_wp2_with fail
  generalize ((w.alloc (.cells #[.int .i64 L.length, .slice A n c] 28)).alloc (.cells #[.int .i64 C0, .int .i64 C1, .int .i64 C2, .int .i64 C3, .int .i64 C4] 23)).alloc (.cells #[.int .i64 0, .int .i64 0, .int .i64 0, .int .i64 0, .int .i64 0, .int .i64 0, .int .i64 0, .int .i64 0, .slice none 0 0] 26) = u1 at *
  refine (H1.out _ bc).mono ?_
  rintro e w1 ⟨rfl, hC⟩
  dsimp only
  replace kb := kb.on hC; replace kc := kc.on hC; replace kr := kr.on hC; replace bc := bc.trans (hC.mono bc.size); clear hC
  obtain ⟨⟨pkc_0, pkc_1, pkc_2, pkc_3, pkc_4⟩, pkc_0f, pkc_1f, pkc_2f, pkc_3f, pkc_4f⟩ := kc.five
  go_wp2_with fail
  clear pkc_0 pkc_1 pkc_2 pkc_3 pkc_4 pkc_0f pkc_1f pkc_2f pkc_3f pkc_4f
  refine (H2.out _ bc).mono ?_
  rintro e w2 ⟨A2, n2, c2, rfl, v2, hC⟩
  dsimp only at v2 ⊢
  replace kb := kb.on hC; replace kc := kc.on hC; replace kr := kr.on hC; replace bc := bc.trans (hC.mono bc.size); clear hC
  have z_ks_kb := kb.lt
  have z_ks_kc := kc.lt
  have z_ks_kr := kr.lt
  have zb_ks := bc.size
  have ks := Blk.new w2 28 #[.int .i64 0, .slice A2 n2 c2]
  have al := Below.al w2 (.cells #[.int .i64 0, .slice A2 n2 c2] 28)
  replace kb := kb.on al; replace kc := kc.on al; replace kr := kr.on al; replace v2 := v2.on al; replace bc := bc.trans (al.mono bc.size); clear al
  have hst := run_storeVar_row (P := Tryd.prog) (w2.alloc (.cells #[.int .i64 0, .slice A2 n2 c2] 28)) (w.heap.size + 1 + 1) 26 26 _ #[.int .i64 0, .int .i64 0, .int .i64 0, .int .i64 0, .int .i64 0, .int .i64 0, .int .i64 0, .int .i64 0, .slice none 0 0] kr info26 rfl (by simp [Value.oneCell'])
  simp [go_sem, z_ks_kr] at hst
  have hG := only_setRow (w2.alloc (.cells #[.int .i64 0, .slice A2 n2 c2] 28)) (w.heap.size + 1 + 1) #[.int .i64 0, .int .i64 0, .int .i64 0, .int .i64 0, .int .i64 0, .int .i64 0, .int .i64 0, .int .i64 0, .slice none 0 0]
  replace kb := kb.grown hG (some_ne (by omega)); replace kc := kc.grown hG (some_ne (by omega)); replace ks := ks.grown hG (some_ne (by omega)); replace v2 := v2.off kr (no_u8_9 _ _ _ _ _ _ _ _ _ _ _) hG; replace bc := Below.off bc bc.size (by omega) hG; replace kr := Blk.row kr #[.int .i64 0, .int .i64 0, .int .i64 0, .int .i64 0, .int .i64 0, .int .i64 0, .int .i64 0, .int .i64 0, .slice none 0 0]; clear hG
  go_wp2
  obtain ⟨xkr_0, xkr_1, xkr_2, xkr_3, xkr_4, xkr_5, xkr_6, xkr_7, xkr_8⟩ := kr.nine
  obtain ⟨xkr_0f, xkr_1f, xkr_2f, xkr_3f, xkr_4f, xkr_5f, xkr_6f, xkr_7f, xkr_8f⟩ := kr.nineF
  exact bodyPost_ret (v := .tuple #[.agg #[.int .i64 0, .int .i64 0, .int .i64 0, .int .i64 0, .int .i64 0, .int .i64 0, .int .i64 0, .int .i64 0, .slice none 0 0], .int .i64 40]) (by simp [results, Tryd.results18, go_sem, xkr_0, xkr_1, xkr_2, xkr_3, xkr_4, xkr_5, xkr_6, xkr_7, xkr_8]) rfl ⟨none, 0, 0, rfl, rfl, Byt.none _, bc⟩
set_option maxRecDepth 8000 in
set_option maxHeartbeats 4000000 in
theorem parse_long {w : World} {L : List Bool} {A : Option Addr} {n : Nat} (h : Bv w L A n) (c : Nat) (C : CS) (hC : mayC C 8 = true) (hl : longF (kindL L) L.length = false) (hW : WTab w) :
    Calls Tryd.prog 18 #[.agg #[.int .i64 L.length, .slice A n c], .agg C.cells] w (ResF w (51, zeroF)) := by
  have h1 := fun (W : World) (hb : Below w.heap.size w W) => check_list (h.on hb) c
  have h2 := fun (W : World) (hb : Below w.heap.size w W) => bits_list C (w := W) hC (hW.on hb)
  have h3 := fun (W : World) (hb : Below w.heap.size w W) => kindOf_no (h.on hb) c hl
  generalize bitsOf C = S at *
  obtain ⟨C0, C1, C2, C3, C4⟩ := C
  unfold CS.cells at *
  have H1 := Lib.hid h1; have H2 := Lib.hid h2; have H3 := Lib.hid h3; clear h1 h2 h3 h hC hl
  obtain ⟨kb, kc, kr, bc⟩ := bx3 w #[.int .i64 L.length, .slice A n c] #[.int .i64 C0, .int .i64 C1, .int .i64 C2, .int .i64 C3, .int .i64 C4] #[.int .i64 0, .int .i64 0, .int .i64 0, .int .i64 0, .int .i64 0, .int .i64 0, .int .i64 0, .int .i64 0, .slice none 0 0] 28 23 26
  go_enter Tryd.func18, Tryd.ntmps18
  go_wp2_with fail
  generalize ((w.alloc (.cells #[.int .i64 L.length, .slice A n c] 28)).alloc (.cells #[.int .i64 C0, .int .i64 C1, .int .i64 C2, .int .i64 C3, .int .i64 C4] 23)).alloc (.cells #[.int .i64 0, .int .i64 0, .int .i64 0, .int .i64 0, .int .i64 0, .int .i64 0, .int .i64 0, .int .i64 0, .slice none 0 0] 26) = u1 at *
  refine (H1.out _ bc).mono ?_
  rintro e w1 ⟨rfl, hC⟩
  dsimp only
  replace kb := kb.on hC; replace kc := kc.on hC; replace kr := kr.on hC; replace bc := bc.trans (hC.mono bc.size); clear hC
  obtain ⟨⟨pkc_0, pkc_1, pkc_2, pkc_3, pkc_4⟩, pkc_0f, pkc_1f, pkc_2f, pkc_3f, pkc_4f⟩ := kc.five
  go_wp2_with fail
  clear pkc_0 pkc_1 pkc_2 pkc_3 pkc_4 pkc_0f pkc_1f pkc_2f pkc_3f pkc_4f
  refine (H2.out _ bc).mono ?_
  rintro e w2 ⟨A2, n2, c2, rfl, v2, hC⟩
  dsimp only at v2 ⊢
  replace kb := kb.on hC; replace kc := kc.on hC; replace kr := kr.on hC; replace bc := bc.trans (hC.mono bc.size); clear hC
  have z_ks_kb := kb.lt
  have z_ks_kc := kc.lt
  have z_ks_kr := kr.lt
  have zb_ks := bc.size
  have ks := Blk.new w2 28 #[.int .i64 S.length, .slice A2 n2 c2]
  have al := Below.al w2 (.cells #[.int .i64 S.length, .slice A2 n2 c2] 28)
  replace kb := kb.on al; replace kc := kc.on al; replace kr := kr.on al; replace v2 := v2.on al; replace bc := bc.trans (al.mono bc.size); clear al
  obtain ⟨pkb_0, pkb_1, pkb_0f, pkb_1f⟩ := kb.two
  go_wp2_with fail
  clear pkb_0 pkb_1 pkb_0f pkb_1f
  generalize w2.alloc (.cells #[.int .i64 S.length, .slice A2 n2 c2] 28) = u2 at *
  generalize w2.heap.size = g2 at *
  refine (H3.out _ bc).mono ?_
  rintro e w3 ⟨⟨k, rfl⟩, hC⟩
  dsimp only
  replace kb := kb.on hC; replace kc := kc.on hC; replace kr := kr.on hC; replace ks := ks.on hC; replace v2 := v2.on hC; replace bc := bc.trans (hC.mono bc.size); clear hC
  have hst := run_storeVar_row (P := Tryd.prog) w3 (w.heap.size + 1 + 1) 26 26 _ #[.int .i64 0, .int .i64 0, .int .i64 0, .int .i64 0, .int .i64 0, .int .i64 0, .int .i64 0, .int .i64 0, .slice none 0 0] kr info26 rfl (by simp [Value.oneCell'])
  simp [go_sem] at hst
  have hG := only_setRow w3 (w.heap.size + 1 + 1) #[.int .i64 0, .int .i64 0, .int .i64 0, .int .i64 0, .int .i64 0, .int .i64 0, .int .i64 0, .int .i64 0, .slice none 0 0]
  replace kb := kb.grown hG (some_ne (by omega)); replace kc := kc.grown hG (some_ne (by omega)); replace ks := ks.grown hG (some_ne (by omega)); replace v2 := v2.off kr (no_u8_9 _ _ _ _ _ _ _ _ _ _ _) hG; replace bc := Below.off bc bc.size (by omega) hG; replace kr := Blk.row kr #[.int .i64 0, .int .i64 0, .int .i64 0, .int .i64 0, .int .i64 0, .int .i64 0, .int .i64 0, .int .i64 0, .slice none 0 0]; clear hG
  go_wp2
  obtain ⟨xkr_0, xkr_1, xkr_2, xkr_3, xkr_4, xkr_5, xkr_6, xkr_7, xkr_8⟩ := kr.nine
  obtain ⟨xkr_0f, xkr_1f, xkr_2f, xkr_3f, xkr_4f, xkr_5f, xkr_6f, xkr_7f, xkr_8f⟩ := kr.nineF
  exact bodyPost_ret (v := .tuple #[.agg #[.int .i64 0, .int .i64 0, .int .i64 0, .int .i64 0, .int .i64 0, .int .i64 0, .int .i64 0, .int .i64 0, .slice none 0 0], .int .i64 51]) (by simp [results, Tryd.results18, go_sem, xkr_0, xkr_1, xkr_2, xkr_3, xkr_4, xkr_5, xkr_6, xkr_7, xkr_8]) rfl ⟨none, 0, 0, rfl, rfl, Byt.none _, bc⟩
theorem parse_any (N : Int) (A : Option Addr) (n c : Nat) (bs : List UInt8) (C : CS) (w : World) (hn : n = bs.length) (hm : n ≤ maxLen) (hA : Byt w.heap.size w A bs) (hT : Tab w) (hW : WTab w) :
    Calls Tryd.prog 18 #[.agg #[.int .i64 N, .slice A n c], .agg C.cells] w (ResF w (readF N bs C)) := by
  by_cases hg : goodB N bs = true
  · obtain ⟨hv, hN⟩ := Bv.of_good hn hA hg
    by_cases hC : mayC C 8 = true
    · have hr : readF N bs C = readL (listOf N bs) C := by unfold readF; rw [if_pos hg, if_pos hC]
      rw [hr, hN]
      have hll : listOf ((listOf N bs).length : Int) bs = listOf N bs := by rw [← hN]
      rw [hll]
      generalize listOf N bs = L at *
      cases hl : longF (kindL L) L.length with
      | false => rw [read_no_long hl]; exact parse_long hv c C hC hl hW
      | true =>
        rcases longF_cases hl with ⟨hk, hn⟩ | ⟨hk, hn⟩ | ⟨hk, hn⟩ | ⟨hk, hn⟩
        · exact parse_1 hv c C hk (by rw [← hk]; exact hl) hn hC hT hW
        · exact parse_2 hv c C hk (by rw [← hk]; exact hl) hn hC hT hW
        · exact parse_3 hv c C hk (by rw [← hk]; exact hl) hn hC hT hW
        · exact parse_4 hv c C hk (by rw [← hk]; exact hl) hn hC hT hW
    · have hr : readF N bs C = (40, zeroF) := by unfold readF; rw [if_pos hg, if_neg hC]
      rw [hr, hN]
      exact parse_state hv c C hC hW
  · have hr : readF N bs C = (10, zeroF) := by unfold readF; rw [if_neg hg]
    rw [hr]
    exact parse_bits N A n c bs C w hn hm hA (by simpa using hg)
end Go.Proofs.YtcfbeelljhjnoaaDoor
