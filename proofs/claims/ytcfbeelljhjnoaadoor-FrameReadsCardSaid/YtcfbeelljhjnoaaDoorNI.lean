/-
  Contracts of said of package frame: the frame that bits tell. Conditions: that the bits can be read and are as long as a frame of their Kind, and that the array of widths holds what the program's text lays.
-/
import Derived.Test.YtcfbeelljhjnoaaDoorNG
namespace Go.Proofs.YtcfbeelljhjnoaaDoor
open Go.RowKit

set_option maxRecDepth 8000 in
set_option maxHeartbeats 4000000 in
theorem said_1 {w : World} {L S : List Bool} {A B : Option Addr} {n m : Nat} (h : Bv w L A n) (_hS : Bv w S B m) (c d : Nat) (_hSl : S.length = 24) (hl : L.length = 40) (_hT : WTab w) (c0 : CS) :
    Calls Tryd.prog 48 #[.agg #[.int .i64 L.length, .slice A n c], .int .i64 1, .agg #[.int .i64 11, .int .i64 3, .int .i64 0, .int .i64 24, .int .i64 0], .agg #[.int .i64 S.length, .slice B m d]] w (ResG w ((true, toldF 1 L c0))) := by
  have hreq := fun (W : World) (hb : Below w.heap.size w W) => number_list (h.on hb) c (N := L.length) (ai := 2) (Wi := 3) (a := 2) (W := 3) rfl rfl rfl (by decide) (by omega)
  rw [told_1]
  have htm := fun (W : World) (hb : Below w.heap.size w W) => number_list (h.on hb) c (N := L.length) (ai := 5) (Wi := 8) (a := 5) (W := 8) rfl rfl rfl (by decide) (by omega)
  generalize numOf ((L.drop 2).take 3) = v at *
  generalize numOf ((L.drop 5).take 8) = t at *
  have HR := Lib.hid hreq; have HM := Lib.hid htm; clear hreq htm h _hS _hSl hl
  obtain ⟨kb, kp, ks, kr, bc⟩ := bx4 w #[.int .i64 L.length, .slice A n c] #[.int .i64 11, .int .i64 3, .int .i64 0, .int .i64 24, .int .i64 0] #[.int .i64 S.length, .slice B m d] #[.int .i64 0, .int .i64 0, .int .i64 0, .int .i64 0, .int .i64 0, .int .i64 0, .int .i64 0, .int .i64 0, .slice none 0 0] 28 51 28 26
  go_enter Tryd.func48, Tryd.ntmps48
  go_wp2_with fail
  generalize (((w.alloc (.cells #[.int .i64 L.length, .slice A n c] 28)).alloc (.cells #[.int .i64 11, .int .i64 3, .int .i64 0, .int .i64 24, .int .i64 0] 51)).alloc (.cells #[.int .i64 S.length, .slice B m d] 28)).alloc (.cells #[.int .i64 0, .int .i64 0, .int .i64 0, .int .i64 0, .int .i64 0, .int .i64 0, .int .i64 0, .int .i64 0, .slice none 0 0] 26) = u1 at *
  refine (HM.out _ bc).mono ?_
  rintro e w1 ⟨rfl, hC⟩
  dsimp only
  replace kb := kb.on hC; replace kp := kp.on hC; replace ks := ks.on hC; replace kr := kr.on hC; replace bc := bc.trans (hC.mono bc.size); clear hC
  have z_kc_kb := kb.lt
  have z_kc_kp := kp.lt
  have z_kc_ks := ks.lt
  have z_kc_kr := kr.lt
  have zb_kc := bc.size
  have kc := Blk.new w1 23 #[.int .i64 t, .int .i64 0, .int .i64 0, .int .i64 0, .int .i64 0]
  have al := Below.al w1 (.cells #[.int .i64 t, .int .i64 0, .int .i64 0, .int .i64 0, .int .i64 0] 23)
  replace kb := kb.on al; replace kp := kp.on al; replace ks := ks.on al; replace kr := kr.on al; replace bc := bc.trans (al.mono bc.size); clear al
  obtain ⟨pkb_0, pkb_1, pkb_0f, pkb_1f⟩ := kb.two
  obtain ⟨⟨pkc_0, pkc_1, pkc_2, pkc_3, pkc_4⟩, pkc_0f, pkc_1f, pkc_2f, pkc_3f, pkc_4f⟩ := kc.five
  obtain ⟨pkr_0, pkr_1, pkr_2, pkr_3, pkr_4, pkr_5, pkr_6, pkr_7, pkr_8⟩ := kr.nine
  obtain ⟨pkr_0f, pkr_1f, pkr_2f, pkr_3f, pkr_4f, pkr_5f, pkr_6f, pkr_7f, pkr_8f⟩ := kr.nineF
  go_wp2_with fail
  clear pkb_0 pkb_1 pkb_0f pkb_1f pkc_0 pkc_1 pkc_2 pkc_3 pkc_4 pkc_0f pkc_1f pkc_2f pkc_3f pkc_4f pkr_0 pkr_1 pkr_2 pkr_3 pkr_4 pkr_5 pkr_6 pkr_7 pkr_8 pkr_0f pkr_1f pkr_2f pkr_3f pkr_4f pkr_5f pkr_6f pkr_7f pkr_8f
  generalize w1.alloc (.cells #[.int .i64 t, .int .i64 0, .int .i64 0, .int .i64 0, .int .i64 0] 23) = u2 at *
  generalize w1.heap.size = g2 at *
  have hdr : Below u2.heap.size u2 u2.drew := (Below.refl _ _).drew
  replace kb := kb.on hdr; replace kp := kp.on hdr; replace ks := ks.on hdr; replace kr := kr.on hdr; replace kc := kc.on hdr; replace bc := bc.trans (hdr.mono bc.size)
  clear hdr
  obtain ⟨pkb_0, pkb_1, pkb_0f, pkb_1f⟩ := kb.two
  obtain ⟨⟨pkc_0, pkc_1, pkc_2, pkc_3, pkc_4⟩, pkc_0f, pkc_1f, pkc_2f, pkc_3f, pkc_4f⟩ := kc.five
  go_region_held3 (fun w' => w'.cell? ⟨w.heap.size, 0, none⟩ = some (.int .i64 L.length) ∧ w'.cell? ⟨w.heap.size, 1, none⟩ = some (.slice A n c) ∧ w'.cell? ⟨g2, 0, none⟩ = some (.int .i64 t) ∧ w'.cell? ⟨g2, 1, none⟩ = some (.int .i64 0) ∧ w'.cell? ⟨g2, 2, none⟩ = some (.int .i64 0) ∧ w'.cell? ⟨g2, 3, none⟩ = some (.int .i64 0) ∧ w'.cell? ⟨g2, 4, none⟩ = some (.int .i64 0)) (first | exact ⟨zkb_0, zkb_1, zkc_0, zkc_1, zkc_2, zkc_3, zkc_4⟩ | exact ⟨qkb_0, qkb_1, qkc_0, qkc_1, qkc_2, qkc_3, qkc_4⟩ | exact ⟨pkb_0, pkb_1, pkc_0, pkc_1, pkc_2, pkc_3, pkc_4⟩) (first | (go_at_call 45; refine (HR.out _ bc).mono ?_; rintro e w2 ⟨rfl, hC⟩; dsimp only; replace kb := kb.on hC; replace kp := kp.on hC; replace ks := ks.on hC; replace kr := kr.on hC; replace kc := kc.on hC; replace bc := bc.trans (hC.mono bc.size); clear hC; clear pkb_0 pkb_1 pkb_0f pkb_1f pkc_0 pkc_1 pkc_2 pkc_3 pkc_4 pkc_0f pkc_1f pkc_2f pkc_3f pkc_4f; obtain ⟨pkb_0, pkb_1, pkb_0f, pkb_1f⟩ := kb.two; obtain ⟨⟨pkc_0, pkc_1, pkc_2, pkc_3, pkc_4⟩, pkc_0f, pkc_1f, pkc_2f, pkc_3f, pkc_4f⟩ := kc.five; have hst := run_storeVar_row (P := Tryd.prog) w2 (w.heap.size + 1 + 1 + 1) 26 26 _ #[.int .i64 1, .int .i64 0, .int .i64 t, .int .i64 0, .int .i64 0, .int .i64 0, .int .i64 0, .int .i64 v, .slice none 0 0] kr info26 rfl (by simp [Value.oneCell']); simp [go_sem] at hst; have hG := only_setRow w2 (w.heap.size + 1 + 1 + 1) #[.int .i64 1, .int .i64 0, .int .i64 t, .int .i64 0, .int .i64 0, .int .i64 0, .int .i64 0, .int .i64 v, .slice none 0 0]; replace kb := kb.grown hG (some_ne (by omega)); replace kp := kp.grown hG (some_ne (by omega)); replace ks := ks.grown hG (some_ne (by omega)); replace kc := kc.grown hG (some_ne (by omega)); replace bc := Below.off bc bc.size (by omega) hG; replace kr := Blk.row kr #[.int .i64 1, .int .i64 0, .int .i64 t, .int .i64 0, .int .i64 0, .int .i64 0, .int .i64 0, .int .i64 v, .slice none 0 0]; clear hG; obtain ⟨zkb_0, zkb_1, zkb_0f, zkb_1f⟩ := kb.two; obtain ⟨⟨zkc_0, zkc_1, zkc_2, zkc_3, zkc_4⟩, zkc_0f, zkc_1f, zkc_2f, zkc_3f, zkc_4f⟩ := kc.five))
  go_wp2
  obtain ⟨xkr_0, xkr_1, xkr_2, xkr_3, xkr_4, xkr_5, xkr_6, xkr_7, xkr_8⟩ := kr.nine
  obtain ⟨xkr_0f, xkr_1f, xkr_2f, xkr_3f, xkr_4f, xkr_5f, xkr_6f, xkr_7f, xkr_8f⟩ := kr.nineF
  exact bodyPost_ret (v := .tuple #[.agg #[.int .i64 1, .int .i64 0, .int .i64 t, .int .i64 0, .int .i64 0, .int .i64 0, .int .i64 0, .int .i64 v, .slice none 0 0], .bool true]) (by simp [results, Tryd.results48, go_sem, xkr_0, xkr_1, xkr_2, xkr_3, xkr_4, xkr_5, xkr_6, xkr_7, xkr_8]) rfl ⟨none, 0, 0, rfl, rfl, Byt.none _, bc⟩
set_option maxRecDepth 8000 in
set_option maxHeartbeats 4000000 in
theorem said_2 {w : World} {L S : List Bool} {A B : Option Addr} {n m : Nat} (h : Bv w L A n) (hS : Bv w S B m) (c d : Nat) (hSl : S.length = 24) (hl : (29 ≤ L.length ∧ L.length ≤ 93 ∧ L.length % 8 = 5)) (hT : WTab w) :
    Calls Tryd.prog 48 #[.agg #[.int .i64 L.length, .slice A n c], .int .i64 2, .agg #[.int .i64 3, .int .i64 0, .int .i64 0, .int .i64 0, .int .i64 8], .agg #[.int .i64 S.length, .slice B m d]] w (ResG w (if mayC (fieldsOf S) 8 = true then (true, ⟨2, numOf ((L.drop 2).take 3), fieldsOf S, 0, bytesL ((L.drop 5).take (L.length - 29))⟩) else (false, zeroF))) := by
  have hreq := fun (W : World) (hb : Below w.heap.size w W) => number_list (h.on hb) c (N := L.length) (ai := 2) (Wi := 3) (a := 2) (W := 3) rfl rfl rfl (by decide) (by omega)
  have hpar := fun (W : World) (hb : Below w.heap.size w W) => read_list (h := hS.on hb) d (N := S.length) rfl hSl (hT.on hb)
  have hdc := fun (W : World) => dataCount_any L.length 2 A n c W (by omega)
  have hq : ((L.length : Int) - sizeF 2 0).tdiv 8 = (((L.length - 29) / 8 : Nat) : Int) := by
    rw [show sizeF 2 0 = 29 by decide, Int.tdiv_eq_ediv_of_nonneg (by omega)]; omega
  rw [hq] at hdc
  obtain ⟨q, hqd⟩ : ∃ q : Nat, q = (L.length - 29) / 8 := ⟨_, rfl⟩
  rw [← hqd] at hdc
  have hq8 : q ≤ 8 := by omega
  have hsl := fun (W : World) (hb : Below w.heap.size w W) => slice_list (h.on hb) c (N := L.length) (ai := 5) (bi := 5 + (q : Int) * 8) (a := 5) (b := 5 + q * 8) rfl rfl (by omega) (by omega) (by omega)
  rw [show (5 + q * 8) - 5 = q * 8 by omega] at hsl
  have hDl : ((L.drop 5).take (q * 8)).length = q * 8 := by rw [List.length_take, List.length_drop]; omega
  have hw1 : IntKind.i64.wrap 5 = 5 := by decide
  have hw2 : IntKind.i64.wrap ((q : Int) * 8) = (q : Int) * 8 := IntWalk.i64_in _ (by omega)
  have hw3 : IntKind.i64.wrap (5 + (q : Int) * 8) = 5 + (q : Int) * 8 := IntWalk.i64_in _ (by omega)
  rw [show (L.drop 5).take (L.length - 29) = (L.drop 5).take (q * 8) by rw [show L.length - 29 = q * 8 by omega]]
  generalize (L.drop 5).take (q * 8) = D at *
  generalize numOf ((L.drop 2).take 3) = v at *
  generalize fieldsOf S = C at *
  obtain ⟨C0, C1, C2, C3, C4⟩ := C
  unfold ResC CS.cells at hpar
  by_cases hm : mayC ⟨C0, C1, C2, C3, C4⟩ 8 = true
  · simp only [if_pos hm] at hpar ⊢
    have HR := Lib.hid hreq; have HP := Lib.hid hpar; have HD := Lib.hid hdc; have HS := Lib.hid hsl; have HDL := Lib.hid hDl; clear hreq hpar hdc hsl hDl h hS hSl hl hq hqd
    clear hm
    obtain ⟨kb, kp, ks, kr, bc⟩ := bx4 w #[.int .i64 L.length, .slice A n c] #[.int .i64 3, .int .i64 0, .int .i64 0, .int .i64 0, .int .i64 8] #[.int .i64 S.length, .slice B m d] #[.int .i64 0, .int .i64 0, .int .i64 0, .int .i64 0, .int .i64 0, .int .i64 0, .int .i64 0, .int .i64 0, .slice none 0 0] 28 51 28 26
    go_enter Tryd.func48, Tryd.ntmps48
    go_wp2_with fail
    generalize (((w.alloc (.cells #[.int .i64 L.length, .slice A n c] 28)).alloc (.cells #[.int .i64 3, .int .i64 0, .int .i64 0, .int .i64 0, .int .i64 8] 51)).alloc (.cells #[.int .i64 S.length, .slice B m d] 28)).alloc (.cells #[.int .i64 0, .int .i64 0, .int .i64 0, .int .i64 0, .int .i64 0, .int .i64 0, .int .i64 0, .int .i64 0, .slice none 0 0] 26) = u1 at *
    refine (HP.out _ bc).mono ?_
    rintro e w1 ⟨rfl, hC⟩
    dsimp only
    replace kb := kb.on hC; replace kp := kp.on hC; replace ks := ks.on hC; replace kr := kr.on hC; replace bc := bc.trans (hC.mono bc.size); clear hC
    have z_kc_kb := kb.lt
    have z_kc_kp := kp.lt
    have z_kc_ks := ks.lt
    have z_kc_kr := kr.lt
    have zb_kc := bc.size
    have kc := Blk.new w1 23 #[.int .i64 C0, .int .i64 C1, .int .i64 C2, .int .i64 C3, .int .i64 C4]
    have al := Below.al w1 (.cells #[.int .i64 C0, .int .i64 C1, .int .i64 C2, .int .i64 C3, .int .i64 C4] 23)
    replace kb := kb.on al; replace kp := kp.on al; replace ks := ks.on al; replace kr := kr.on al; replace bc := bc.trans (al.mono bc.size); clear al
    obtain ⟨pkb_0, pkb_1, pkb_0f, pkb_1f⟩ := kb.two
    obtain ⟨⟨pkp_0, pkp_1, pkp_2, pkp_3, pkp_4⟩, pkp_0f, pkp_1f, pkp_2f, pkp_3f, pkp_4f⟩ := kp.five
    obtain ⟨pks_0, pks_1, pks_0f, pks_1f⟩ := ks.two
    obtain ⟨pkr_0, pkr_1, pkr_2, pkr_3, pkr_4, pkr_5, pkr_6, pkr_7, pkr_8⟩ := kr.nine
    obtain ⟨pkr_0f, pkr_1f, pkr_2f, pkr_3f, pkr_4f, pkr_5f, pkr_6f, pkr_7f, pkr_8f⟩ := kr.nineF
    obtain ⟨⟨pkc_0, pkc_1, pkc_2, pkc_3, pkc_4⟩, pkc_0f, pkc_1f, pkc_2f, pkc_3f, pkc_4f⟩ := kc.five
    go_wp2_with fail
    clear pkb_0 pkb_1 pkb_0f pkb_1f pkp_0 pkp_1 pkp_2 pkp_3 pkp_4 pkp_0f pkp_1f pkp_2f pkp_3f pkp_4f pks_0 pks_1 pks_0f pks_1f pkr_0 pkr_1 pkr_2 pkr_3 pkr_4 pkr_5 pkr_6 pkr_7 pkr_8 pkr_0f pkr_1f pkr_2f pkr_3f pkr_4f pkr_5f pkr_6f pkr_7f pkr_8f pkc_0 pkc_1 pkc_2 pkc_3 pkc_4 pkc_0f pkc_1f pkc_2f pkc_3f pkc_4f
    generalize w1.alloc (.cells #[.int .i64 C0, .int .i64 C1, .int .i64 C2, .int .i64 C3, .int .i64 C4] 23) = u2 at *
    generalize w1.heap.size = g2 at *
    have hdr : Below u2.heap.size u2 u2.drew := (Below.refl _ _).drew
    replace kb := kb.on hdr; replace kp := kp.on hdr; replace ks := ks.on hdr; replace kr := kr.on hdr; replace kc := kc.on hdr; replace bc := bc.trans (hdr.mono bc.size)
    clear hdr
    obtain ⟨⟨pkp_0, pkp_1, pkp_2, pkp_3, pkp_4⟩, pkp_0f, pkp_1f, pkp_2f, pkp_3f, pkp_4f⟩ := kp.five
    go_region_held3 (fun w' => w'.cell? ⟨w.heap.size + 1, 0, none⟩ = some (.int .i64 3) ∧ w'.cell? ⟨w.heap.size + 1, 1, none⟩ = some (.int .i64 0) ∧ w'.cell? ⟨w.heap.size + 1, 2, none⟩ = some (.int .i64 0) ∧ w'.cell? ⟨w.heap.size + 1, 3, none⟩ = some (.int .i64 0) ∧ w'.cell? ⟨w.heap.size + 1, 4, none⟩ = some (.int .i64 8)) (first | exact ⟨zkp_0, zkp_1, zkp_2, zkp_3, zkp_4⟩ | exact ⟨qkp_0, qkp_1, qkp_2, qkp_3, qkp_4⟩ | exact ⟨pkp_0, pkp_1, pkp_2, pkp_3, pkp_4⟩) (first | (go_at_call 41; refine (head_2 _).mono ?_; rintro e w2 ⟨rfl, hC⟩; dsimp only; replace kb := kb.on hC; replace kp := kp.on hC; replace ks := ks.on hC; replace kr := kr.on hC; replace kc := kc.on hC; replace bc := bc.trans (hC.mono bc.size); clear hC; clear pkp_0 pkp_1 pkp_2 pkp_3 pkp_4 pkp_0f pkp_1f pkp_2f pkp_3f pkp_4f; obtain ⟨⟨pkp_0, pkp_1, pkp_2, pkp_3, pkp_4⟩, pkp_0f, pkp_1f, pkp_2f, pkp_3f, pkp_4f⟩ := kp.five))
    obtain ⟨pkb_0, pkb_1, pkb_0f, pkb_1f⟩ := kb.two
    obtain ⟨⟨pkp_0, pkp_1, pkp_2, pkp_3, pkp_4⟩, pkp_0f, pkp_1f, pkp_2f, pkp_3f, pkp_4f⟩ := kp.five
    obtain ⟨pks_0, pks_1, pks_0f, pks_1f⟩ := ks.two
    obtain ⟨pkr_0, pkr_1, pkr_2, pkr_3, pkr_4, pkr_5, pkr_6, pkr_7, pkr_8⟩ := kr.nine
    obtain ⟨pkr_0f, pkr_1f, pkr_2f, pkr_3f, pkr_4f, pkr_5f, pkr_6f, pkr_7f, pkr_8f⟩ := kr.nineF
    obtain ⟨⟨pkc_0, pkc_1, pkc_2, pkc_3, pkc_4⟩, pkc_0f, pkc_1f, pkc_2f, pkc_3f, pkc_4f⟩ := kc.five
    go_wp2_with fail
    clear pkb_0 pkb_1 pkb_0f pkb_1f pkp_0 pkp_1 pkp_2 pkp_3 pkp_4 pkp_0f pkp_1f pkp_2f pkp_3f pkp_4f pks_0 pks_1 pks_0f pks_1f pkr_0 pkr_1 pkr_2 pkr_3 pkr_4 pkr_5 pkr_6 pkr_7 pkr_8 pkr_0f pkr_1f pkr_2f pkr_3f pkr_4f pkr_5f pkr_6f pkr_7f pkr_8f pkc_0 pkc_1 pkc_2 pkc_3 pkc_4 pkc_0f pkc_1f pkc_2f pkc_3f pkc_4f
    have hdr : Below w2.heap.size w2 w2.drew := (Below.refl _ _).drew
    replace kb := kb.on hdr; replace kp := kp.on hdr; replace ks := ks.on hdr; replace kr := kr.on hdr; replace kc := kc.on hdr; replace bc := bc.trans (hdr.mono bc.size)
    clear hdr
    obtain ⟨pkb_0, pkb_1, pkb_0f, pkb_1f⟩ := kb.two
    have al := Below.al w2 (.cells #[.int .i64 0, .slice none 0 0] 28)
    obtain ⟨qkb_0, qkb_1, -, -⟩ := (Blk.on (w := w2) kb al).two
    clear al
    go_region_held3 (fun w' => w'.cell? ⟨w.heap.size, 0, none⟩ = some (.int .i64 L.length) ∧ w'.cell? ⟨w.heap.size, 1, none⟩ = some (.slice A n c)) (first | exact ⟨zkb_0, zkb_1⟩ | exact ⟨rkb_0, rkb_1⟩ | exact ⟨qkb_0, qkb_1⟩ | exact ⟨pkb_0, pkb_1⟩) (first | (have _ := kd; go_at_call 46; refine (HS.out _ bc).mono ?_; rintro e w4 ⟨A4, n4, c4, rfl, v4, hC⟩; dsimp only at v4 ⊢; replace kb := kb.on hC; replace kp := kp.on hC; replace ks := ks.on hC; replace kr := kr.on hC; replace kc := kc.on hC; replace kd := kd.on hC; replace bc := bc.trans (hC.mono bc.size); clear hC; obtain ⟨pkb_0, pkb_1, pkb_0f, pkb_1f⟩ := kb.two; obtain ⟨okd_0, okd_1, okd_0f, okd_1f⟩ := kd.two; have hG := st2 w4 (gd) (.int .i64 D.length) (.slice A4 n4 c4); replace kb := kb.grown hG (some_ne (by omega)); replace kp := kp.grown hG (some_ne (by omega)); replace ks := ks.grown hG (some_ne (by omega)); replace kr := kr.grown hG (some_ne (by omega)); replace kc := kc.grown hG (some_ne (by omega)); replace v4 := v4.off kd (no_u8 _ _ _ _) hG; replace bc := Below.off bc bc.size (by omega) hG; replace kd := kd.put2 (.int .i64 D.length) (.slice A4 n4 c4); clear hG; obtain ⟨zkb_0, zkb_1, zkb_0f, zkb_1f⟩ := kb.two) | (go_at_call 46; refine (HS.out _ bc).mono ?_; rintro e w4 ⟨A4, n4, c4, rfl, v4, hC⟩; dsimp only at v4 ⊢; replace kb := kb.on hC; replace kp := kp.on hC; replace ks := ks.on hC; replace kr := kr.on hC; replace kc := kc.on hC; replace bc := bc.trans (hC.mono bc.size); clear hC; obtain ⟨pkb_0, pkb_1, pkb_0f, pkb_1f⟩ := kb.two; have al := Below.al w4 (.cells #[.int .i64 0, .slice none 0 0] 28); obtain ⟨qkb_0, qkb_1, -, -⟩ := (Blk.on (w := w4) kb al).two; clear al; have al := Below.al w4 (.cells #[.int .i64 D.length, .slice A4 n4 c4] 28); obtain ⟨rkb_0, rkb_1, -, -⟩ := (Blk.on (w := w4) kb al).two; clear al) | (have z_kd_kb := kb.lt; have z_kd_kp := kp.lt; have z_kd_ks := ks.lt; have z_kd_kr := kr.lt; have z_kd_kc := kc.lt; have zb_kd := bc.size; have kd := Blk.new w3 28 #[.int .i64 0, .slice none 0 0]; have al := Below.al w3 (.cells #[.int .i64 0, .slice none 0 0] 28); replace kb := kb.on al; replace kp := kp.on al; replace ks := ks.on al; replace kr := kr.on al; replace kc := kc.on al; replace bc := bc.trans (al.mono bc.size); clear al; go_at_call 46; refine (HS.out _ bc).mono ?_; rintro e w4 ⟨A4, n4, c4, rfl, v4, hC⟩; dsimp only at v4 ⊢; replace kb := kb.on hC; replace kp := kp.on hC; replace ks := ks.on hC; replace kr := kr.on hC; replace kc := kc.on hC; replace kd := kd.on hC; replace bc := bc.trans (hC.mono bc.size); clear hC; generalize w3.heap.size = gd at *; obtain ⟨pkb_0, pkb_1, pkb_0f, pkb_1f⟩ := kb.two; obtain ⟨okd_0, okd_1, okd_0f, okd_1f⟩ := kd.two; have hG := st2 w4 (gd) (.int .i64 D.length) (.slice A4 n4 c4); replace kb := kb.grown hG (some_ne (by omega)); replace kp := kp.grown hG (some_ne (by omega)); replace ks := ks.grown hG (some_ne (by omega)); replace kr := kr.grown hG (some_ne (by omega)); replace kc := kc.grown hG (some_ne (by omega)); replace v4 := v4.off kd (no_u8 _ _ _ _) hG; replace bc := Below.off bc bc.size (by omega) hG; replace kd := kd.put2 (.int .i64 D.length) (.slice A4 n4 c4); clear hG; obtain ⟨zkb_0, zkb_1, zkb_0f, zkb_1f⟩ := kb.two) | (go_at_call 73; refine (HD.out _).mono ?_; rintro e w3 ⟨rfl, hC⟩; dsimp only; replace kb := kb.on hC; replace kp := kp.on hC; replace ks := ks.on hC; replace kr := kr.on hC; replace kc := kc.on hC; replace bc := bc.trans (hC.mono bc.size); clear hC; obtain ⟨pkb_0, pkb_1, pkb_0f, pkb_1f⟩ := kb.two; have al := Below.al w3 (.cells #[.int .i64 0, .slice none 0 0] 28); obtain ⟨qkb_0, qkb_1, -, -⟩ := (Blk.on (w := w3) kb al).two; clear al) | (have z_kd_kb := kb.lt; have z_kd_kp := kp.lt; have z_kd_ks := ks.lt; have z_kd_kr := kr.lt; have z_kd_kc := kc.lt; have zb_kd := bc.size; have kd := Blk.new w2.drew 28 #[.int .i64 0, .slice none 0 0]; have hsz : w2.drew.heap.size = w2.heap.size := (by first | rfl | simp); rw [hsz] at kd z_kd_kb z_kd_kp z_kd_ks z_kd_kr z_kd_kc zb_kd; clear hsz; have al := Below.al w2.drew (.cells #[.int .i64 0, .slice none 0 0] 28); replace kb := kb.on al; replace kp := kp.on al; replace ks := ks.on al; replace kr := kr.on al; replace kc := kc.on al; replace bc := bc.trans (al.mono bc.size); clear al; go_at_call 73; refine (HD.out _).mono ?_; rintro e w3 ⟨rfl, hC⟩; dsimp only; replace kb := kb.on hC; replace kp := kp.on hC; replace ks := ks.on hC; replace kr := kr.on hC; replace kc := kc.on hC; replace kd := kd.on hC; replace bc := bc.trans (hC.mono bc.size); clear hC; generalize w2.heap.size = gd at *; obtain ⟨pkb_0, pkb_1, pkb_0f, pkb_1f⟩ := kb.two))
    all_goals first
      | (have z_kd_kb := kb.lt
         have z_kd_kp := kp.lt
         have z_kd_ks := ks.lt
         have z_kd_kr := kr.lt
         have z_kd_kc := kc.lt
         have zb_kd := bc.size
         have kd := Blk.new w4 28 #[.int .i64 D.length, .slice A4 n4 c4]
         have al := Below.al w4 (.cells #[.int .i64 D.length, .slice A4 n4 c4] 28)
         replace kb := kb.on al; replace kp := kp.on al; replace ks := ks.on al; replace kr := kr.on al; replace kc := kc.on al; replace v4 := v4.on al; replace bc := bc.trans (al.mono bc.size); clear al
         obtain ⟨pkb_0, pkb_1, pkb_0f, pkb_1f⟩ := kb.two
         obtain ⟨⟨pkp_0, pkp_1, pkp_2, pkp_3, pkp_4⟩, pkp_0f, pkp_1f, pkp_2f, pkp_3f, pkp_4f⟩ := kp.five
         obtain ⟨pks_0, pks_1, pks_0f, pks_1f⟩ := ks.two
         obtain ⟨pkr_0, pkr_1, pkr_2, pkr_3, pkr_4, pkr_5, pkr_6, pkr_7, pkr_8⟩ := kr.nine
         obtain ⟨pkr_0f, pkr_1f, pkr_2f, pkr_3f, pkr_4f, pkr_5f, pkr_6f, pkr_7f, pkr_8f⟩ := kr.nineF
         obtain ⟨⟨pkc_0, pkc_1, pkc_2, pkc_3, pkc_4⟩, pkc_0f, pkc_1f, pkc_2f, pkc_3f, pkc_4f⟩ := kc.five
         obtain ⟨pkd_0, pkd_1, pkd_0f, pkd_1f⟩ := kd.two
         go_wp2_with fail
         clear pkb_0 pkb_1 pkb_0f pkb_1f pkp_0 pkp_1 pkp_2 pkp_3 pkp_4 pkp_0f pkp_1f pkp_2f pkp_3f pkp_4f pks_0 pks_1 pks_0f pks_1f pkr_0 pkr_1 pkr_2 pkr_3 pkr_4 pkr_5 pkr_6 pkr_7 pkr_8 pkr_0f pkr_1f pkr_2f pkr_3f pkr_4f pkr_5f pkr_6f pkr_7f pkr_8f pkc_0 pkc_1 pkc_2 pkc_3 pkc_4 pkc_0f pkc_1f pkc_2f pkc_3f pkc_4f pkd_0 pkd_1 pkd_0f pkd_1f
         generalize w4.alloc (.cells #[.int .i64 D.length, .slice A4 n4 c4] 28) = u3 at *
         generalize w4.heap.size = g3 at *
         have hdr : Below u3.heap.size u3 u3.drew := (Below.refl _ _).drew
         replace kb := kb.on hdr; replace kp := kp.on hdr; replace ks := ks.on hdr; replace kr := kr.on hdr; replace kc := kc.on hdr; replace kd := kd.on hdr; replace v4 := v4.on hdr; replace bc := bc.trans (hdr.mono bc.size)
         clear hdr
         obtain ⟨pkb_0, pkb_1, pkb_0f, pkb_1f⟩ := kb.two
         obtain ⟨⟨pkc_0, pkc_1, pkc_2, pkc_3, pkc_4⟩, pkc_0f, pkc_1f, pkc_2f, pkc_3f, pkc_4f⟩ := kc.five
         obtain ⟨pkd_0, pkd_1, pkd_0f, pkd_1f⟩ := kd.two
         obtain ⟨bs, hbn, hbi, -, hby⟩ := v4
         have hbb := isBits_bytes hbi (by have := HDL.out; omega)
         have hbl : n4 ≤ 65536 := by have := HDL.out; have := bytesL_length D; rw [hbn, hbb]; omega
         have HBN := Lib.hid hbn; have HBB := Lib.hid hbb; clear hbn hbb hbi
         go_region_held3 (fun w' => w'.cell? ⟨w.heap.size, 0, none⟩ = some (.int .i64 L.length) ∧ w'.cell? ⟨w.heap.size, 1, none⟩ = some (.slice A n c) ∧ w'.cell? ⟨g2, 0, none⟩ = some (.int .i64 C0) ∧ w'.cell? ⟨g2, 1, none⟩ = some (.int .i64 C1) ∧ w'.cell? ⟨g2, 2, none⟩ = some (.int .i64 C2) ∧ w'.cell? ⟨g2, 3, none⟩ = some (.int .i64 C3) ∧ w'.cell? ⟨g2, 4, none⟩ = some (.int .i64 C4) ∧ w'.cell? ⟨g3, 0, none⟩ = some (.int .i64 D.length) ∧ w'.cell? ⟨g3, 1, none⟩ = some (.slice A4 n4 c4)) (first | exact ⟨zkb_0, zkb_1, zkc_0, zkc_1, zkc_2, zkc_3, zkc_4, zkd_0, zkd_1⟩ | exact ⟨qkb_0, qkb_1, qkc_0, qkc_1, qkc_2, qkc_3, qkc_4, qkd_0, qkd_1⟩ | exact ⟨pkb_0, pkb_1, pkc_0, pkc_1, pkc_2, pkc_3, pkc_4, pkd_0, pkd_1⟩) (first | (have _ := hnum; go_at_call 64; refine (own_any A4 n4 c4 bs _ HBN.out hbl hby).mono ?_; rintro e w6 ⟨A6, c6, rfl, y6, hC⟩; dsimp only at y6 ⊢; replace kb := kb.on hC; replace kp := kp.on hC; replace ks := ks.on hC; replace kr := kr.on hC; replace kc := kc.on hC; replace kd := kd.on hC; replace hby := hby.on hC; replace bc := bc.trans (hC.mono bc.size); clear hC; clear pkb_0 pkb_1 pkb_0f pkb_1f pkc_0 pkc_1 pkc_2 pkc_3 pkc_4 pkc_0f pkc_1f pkc_2f pkc_3f pkc_4f pkd_0 pkd_1 pkd_0f pkd_1f; obtain ⟨pkb_0, pkb_1, pkb_0f, pkb_1f⟩ := kb.two; obtain ⟨⟨pkc_0, pkc_1, pkc_2, pkc_3, pkc_4⟩, pkc_0f, pkc_1f, pkc_2f, pkc_3f, pkc_4f⟩ := kc.five; obtain ⟨pkd_0, pkd_1, pkd_0f, pkd_1f⟩ := kd.two; have hst := run_storeVar_row (P := Tryd.prog) w6 (w.heap.size + 1 + 1 + 1) 26 26 _ #[.int .i64 2, .int .i64 v, .int .i64 C0, .int .i64 C1, .int .i64 C2, .int .i64 C3, .int .i64 C4, .int .i64 0, .slice A6 n4 c6] kr info26 rfl (by simp [Value.oneCell']); simp [go_sem] at hst; have hG := only_setRow w6 (w.heap.size + 1 + 1 + 1) #[.int .i64 2, .int .i64 v, .int .i64 C0, .int .i64 C1, .int .i64 C2, .int .i64 C3, .int .i64 C4, .int .i64 0, .slice A6 n4 c6]; replace kb := kb.grown hG (some_ne (by omega)); replace kp := kp.grown hG (some_ne (by omega)); replace ks := ks.grown hG (some_ne (by omega)); replace kc := kc.grown hG (some_ne (by omega)); replace kd := kd.grown hG (some_ne (by omega)); replace hby := hby.off kr (no_u8_9 _ _ _ _ _ _ _ _ _ _ _) hG; replace y6 := y6.off kr (no_u8_9 _ _ _ _ _ _ _ _ _ _ _) hG; replace bc := Below.off bc bc.size (by omega) hG; replace kr := Blk.row kr #[.int .i64 2, .int .i64 v, .int .i64 C0, .int .i64 C1, .int .i64 C2, .int .i64 C3, .int .i64 C4, .int .i64 0, .slice A6 n4 c6]; clear hG; obtain ⟨zkb_0, zkb_1, zkb_0f, zkb_1f⟩ := kb.two; obtain ⟨⟨zkc_0, zkc_1, zkc_2, zkc_3, zkc_4⟩, zkc_0f, zkc_1f, zkc_2f, zkc_3f, zkc_4f⟩ := kc.five; obtain ⟨zkd_0, zkd_1, zkd_0f, zkd_1f⟩ := kd.two) | (have _ := y6; go_at_call 45; refine (HR.out _ bc).mono ?_; rintro e w5 ⟨rfl, hC⟩; dsimp only; replace kb := kb.on hC; replace kp := kp.on hC; replace ks := ks.on hC; replace kr := kr.on hC; replace kc := kc.on hC; replace kd := kd.on hC; replace hby := hby.on hC; replace y6 := y6.on hC; replace bc := bc.trans (hC.mono bc.size); clear hC; clear pkb_0 pkb_1 pkb_0f pkb_1f pkc_0 pkc_1 pkc_2 pkc_3 pkc_4 pkc_0f pkc_1f pkc_2f pkc_3f pkc_4f pkd_0 pkd_1 pkd_0f pkd_1f; obtain ⟨pkb_0, pkb_1, pkb_0f, pkb_1f⟩ := kb.two; obtain ⟨⟨pkc_0, pkc_1, pkc_2, pkc_3, pkc_4⟩, pkc_0f, pkc_1f, pkc_2f, pkc_3f, pkc_4f⟩ := kc.five; obtain ⟨pkd_0, pkd_1, pkd_0f, pkd_1f⟩ := kd.two; have hst := run_storeVar_row (P := Tryd.prog) w5 (w.heap.size + 1 + 1 + 1) 26 26 _ #[.int .i64 2, .int .i64 v, .int .i64 C0, .int .i64 C1, .int .i64 C2, .int .i64 C3, .int .i64 C4, .int .i64 0, .slice A6 n4 c6] kr info26 rfl (by simp [Value.oneCell']); simp [go_sem] at hst; have hG := only_setRow w5 (w.heap.size + 1 + 1 + 1) #[.int .i64 2, .int .i64 v, .int .i64 C0, .int .i64 C1, .int .i64 C2, .int .i64 C3, .int .i64 C4, .int .i64 0, .slice A6 n4 c6]; replace kb := kb.grown hG (some_ne (by omega)); replace kp := kp.grown hG (some_ne (by omega)); replace ks := ks.grown hG (some_ne (by omega)); replace kc := kc.grown hG (some_ne (by omega)); replace kd := kd.grown hG (some_ne (by omega)); replace hby := hby.off kr (no_u8_9 _ _ _ _ _ _ _ _ _ _ _) hG; replace y6 := y6.off kr (no_u8_9 _ _ _ _ _ _ _ _ _ _ _) hG; replace bc := Below.off bc bc.size (by omega) hG; replace kr := Blk.row kr #[.int .i64 2, .int .i64 v, .int .i64 C0, .int .i64 C1, .int .i64 C2, .int .i64 C3, .int .i64 C4, .int .i64 0, .slice A6 n4 c6]; clear hG; obtain ⟨zkb_0, zkb_1, zkb_0f, zkb_1f⟩ := kb.two; obtain ⟨⟨zkc_0, zkc_1, zkc_2, zkc_3, zkc_4⟩, zkc_0f, zkc_1f, zkc_2f, zkc_3f, zkc_4f⟩ := kc.five; obtain ⟨zkd_0, zkd_1, zkd_0f, zkd_1f⟩ := kd.two) | (go_at_call 45; refine (HR.out _ bc).mono ?_; rintro e w5 ⟨rfl, hC⟩; dsimp only; replace kb := kb.on hC; replace kp := kp.on hC; replace ks := ks.on hC; replace kr := kr.on hC; replace kc := kc.on hC; replace kd := kd.on hC; replace hby := hby.on hC; replace bc := bc.trans (hC.mono bc.size); clear hC; have hnum := 0; clear pkb_0 pkb_1 pkb_0f pkb_1f pkc_0 pkc_1 pkc_2 pkc_3 pkc_4 pkc_0f pkc_1f pkc_2f pkc_3f pkc_4f pkd_0 pkd_1 pkd_0f pkd_1f; obtain ⟨pkb_0, pkb_1, pkb_0f, pkb_1f⟩ := kb.two; obtain ⟨⟨pkc_0, pkc_1, pkc_2, pkc_3, pkc_4⟩, pkc_0f, pkc_1f, pkc_2f, pkc_3f, pkc_4f⟩ := kc.five; obtain ⟨pkd_0, pkd_1, pkd_0f, pkd_1f⟩ := kd.two) | (go_at_call 64; refine (own_any A4 n4 c4 bs _ HBN.out hbl hby).mono ?_; rintro e w6 ⟨A6, c6, rfl, y6, hC⟩; dsimp only at y6 ⊢; replace kb := kb.on hC; replace kp := kp.on hC; replace ks := ks.on hC; replace kr := kr.on hC; replace kc := kc.on hC; replace kd := kd.on hC; replace hby := hby.on hC; replace bc := bc.trans (hC.mono bc.size); clear hC; clear pkb_0 pkb_1 pkb_0f pkb_1f pkc_0 pkc_1 pkc_2 pkc_3 pkc_4 pkc_0f pkc_1f pkc_2f pkc_3f pkc_4f pkd_0 pkd_1 pkd_0f pkd_1f; obtain ⟨pkb_0, pkb_1, pkb_0f, pkb_1f⟩ := kb.two; obtain ⟨⟨pkc_0, pkc_1, pkc_2, pkc_3, pkc_4⟩, pkc_0f, pkc_1f, pkc_2f, pkc_3f, pkc_4f⟩ := kc.five; obtain ⟨pkd_0, pkd_1, pkd_0f, pkd_1f⟩ := kd.two))
         all_goals
           go_wp2
           obtain ⟨xkr_0, xkr_1, xkr_2, xkr_3, xkr_4, xkr_5, xkr_6, xkr_7, xkr_8⟩ := kr.nine
           obtain ⟨xkr_0f, xkr_1f, xkr_2f, xkr_3f, xkr_4f, xkr_5f, xkr_6f, xkr_7f, xkr_8f⟩ := kr.nineF
           refine bodyPost_ret (v := .tuple #[.agg #[.int .i64 2, .int .i64 v, .int .i64 C0, .int .i64 C1, .int .i64 C2, .int .i64 C3, .int .i64 C4, .int .i64 0, .slice A6 n4 c6], .bool true]) (by simp [results, Tryd.results48, go_sem, xkr_0, xkr_1, xkr_2, xkr_3, xkr_4, xkr_5, xkr_6, xkr_7, xkr_8]) rfl ⟨A6, n4, c6, rfl, ?_, ?_, bc⟩
           · rw [HBN.out, HBB.out]
           · rw [← HBB.out]; exact y6)
      | (obtain ⟨pkb_0, pkb_1, pkb_0f, pkb_1f⟩ := kb.two
         obtain ⟨⟨pkp_0, pkp_1, pkp_2, pkp_3, pkp_4⟩, pkp_0f, pkp_1f, pkp_2f, pkp_3f, pkp_4f⟩ := kp.five
         obtain ⟨pks_0, pks_1, pks_0f, pks_1f⟩ := ks.two
         obtain ⟨pkr_0, pkr_1, pkr_2, pkr_3, pkr_4, pkr_5, pkr_6, pkr_7, pkr_8⟩ := kr.nine
         obtain ⟨pkr_0f, pkr_1f, pkr_2f, pkr_3f, pkr_4f, pkr_5f, pkr_6f, pkr_7f, pkr_8f⟩ := kr.nineF
         obtain ⟨⟨pkc_0, pkc_1, pkc_2, pkc_3, pkc_4⟩, pkc_0f, pkc_1f, pkc_2f, pkc_3f, pkc_4f⟩ := kc.five
         obtain ⟨pkd_0, pkd_1, pkd_0f, pkd_1f⟩ := kd.two
         go_wp2_with fail
         clear pkb_0 pkb_1 pkb_0f pkb_1f pkp_0 pkp_1 pkp_2 pkp_3 pkp_4 pkp_0f pkp_1f pkp_2f pkp_3f pkp_4f pks_0 pks_1 pks_0f pks_1f pkr_0 pkr_1 pkr_2 pkr_3 pkr_4 pkr_5 pkr_6 pkr_7 pkr_8 pkr_0f pkr_1f pkr_2f pkr_3f pkr_4f pkr_5f pkr_6f pkr_7f pkr_8f pkc_0 pkc_1 pkc_2 pkc_3 pkc_4 pkc_0f pkc_1f pkc_2f pkc_3f pkc_4f pkd_0 pkd_1 pkd_0f pkd_1f
         generalize (w4.setCell ⟨gd, 0, none⟩ (.int .i64 D.length)).setCell ⟨gd, 1, none⟩ (.slice A4 n4 c4) = u3 at *
         have hdr : Below u3.heap.size u3 u3.drew := (Below.refl _ _).drew
         replace kb := kb.on hdr; replace kp := kp.on hdr; replace ks := ks.on hdr; replace kr := kr.on hdr; replace kc := kc.on hdr; replace kd := kd.on hdr; replace v4 := v4.on hdr; replace bc := bc.trans (hdr.mono bc.size)
         clear hdr
         obtain ⟨pkb_0, pkb_1, pkb_0f, pkb_1f⟩ := kb.two
         obtain ⟨⟨pkc_0, pkc_1, pkc_2, pkc_3, pkc_4⟩, pkc_0f, pkc_1f, pkc_2f, pkc_3f, pkc_4f⟩ := kc.five
         obtain ⟨pkd_0, pkd_1, pkd_0f, pkd_1f⟩ := kd.two
         obtain ⟨bs, hbn, hbi, -, hby⟩ := v4
         have hbb := isBits_bytes hbi (by have := HDL.out; omega)
         have hbl : n4 ≤ 65536 := by have := HDL.out; have := bytesL_length D; rw [hbn, hbb]; omega
         have HBN := Lib.hid hbn; have HBB := Lib.hid hbb; clear hbn hbb hbi
         go_region_held3 (fun w' => w'.cell? ⟨w.heap.size, 0, none⟩ = some (.int .i64 L.length) ∧ w'.cell? ⟨w.heap.size, 1, none⟩ = some (.slice A n c) ∧ w'.cell? ⟨g2, 0, none⟩ = some (.int .i64 C0) ∧ w'.cell? ⟨g2, 1, none⟩ = some (.int .i64 C1) ∧ w'.cell? ⟨g2, 2, none⟩ = some (.int .i64 C2) ∧ w'.cell? ⟨g2, 3, none⟩ = some (.int .i64 C3) ∧ w'.cell? ⟨g2, 4, none⟩ = some (.int .i64 C4) ∧ w'.cell? ⟨gd, 0, none⟩ = some (.int .i64 D.length) ∧ w'.cell? ⟨gd, 1, none⟩ = some (.slice A4 n4 c4)) (first | exact ⟨zkb_0, zkb_1, zkc_0, zkc_1, zkc_2, zkc_3, zkc_4, zkd_0, zkd_1⟩ | exact ⟨qkb_0, qkb_1, qkc_0, qkc_1, qkc_2, qkc_3, qkc_4, qkd_0, qkd_1⟩ | exact ⟨pkb_0, pkb_1, pkc_0, pkc_1, pkc_2, pkc_3, pkc_4, pkd_0, pkd_1⟩) (first | (have _ := hnum; go_at_call 64; refine (own_any A4 n4 c4 bs _ HBN.out hbl hby).mono ?_; rintro e w6 ⟨A6, c6, rfl, y6, hC⟩; dsimp only at y6 ⊢; replace kb := kb.on hC; replace kp := kp.on hC; replace ks := ks.on hC; replace kr := kr.on hC; replace kc := kc.on hC; replace kd := kd.on hC; replace hby := hby.on hC; replace bc := bc.trans (hC.mono bc.size); clear hC; clear pkb_0 pkb_1 pkb_0f pkb_1f pkc_0 pkc_1 pkc_2 pkc_3 pkc_4 pkc_0f pkc_1f pkc_2f pkc_3f pkc_4f pkd_0 pkd_1 pkd_0f pkd_1f; obtain ⟨pkb_0, pkb_1, pkb_0f, pkb_1f⟩ := kb.two; obtain ⟨⟨pkc_0, pkc_1, pkc_2, pkc_3, pkc_4⟩, pkc_0f, pkc_1f, pkc_2f, pkc_3f, pkc_4f⟩ := kc.five; obtain ⟨pkd_0, pkd_1, pkd_0f, pkd_1f⟩ := kd.two; have hst := run_storeVar_row (P := Tryd.prog) w6 (w.heap.size + 1 + 1 + 1) 26 26 _ #[.int .i64 2, .int .i64 v, .int .i64 C0, .int .i64 C1, .int .i64 C2, .int .i64 C3, .int .i64 C4, .int .i64 0, .slice A6 n4 c6] kr info26 rfl (by simp [Value.oneCell']); simp [go_sem] at hst; have hG := only_setRow w6 (w.heap.size + 1 + 1 + 1) #[.int .i64 2, .int .i64 v, .int .i64 C0, .int .i64 C1, .int .i64 C2, .int .i64 C3, .int .i64 C4, .int .i64 0, .slice A6 n4 c6]; replace kb := kb.grown hG (some_ne (by omega)); replace kp := kp.grown hG (some_ne (by omega)); replace ks := ks.grown hG (some_ne (by omega)); replace kc := kc.grown hG (some_ne (by omega)); replace kd := kd.grown hG (some_ne (by omega)); replace hby := hby.off kr (no_u8_9 _ _ _ _ _ _ _ _ _ _ _) hG; replace y6 := y6.off kr (no_u8_9 _ _ _ _ _ _ _ _ _ _ _) hG; replace bc := Below.off bc bc.size (by omega) hG; replace kr := Blk.row kr #[.int .i64 2, .int .i64 v, .int .i64 C0, .int .i64 C1, .int .i64 C2, .int .i64 C3, .int .i64 C4, .int .i64 0, .slice A6 n4 c6]; clear hG; obtain ⟨zkb_0, zkb_1, zkb_0f, zkb_1f⟩ := kb.two; obtain ⟨⟨zkc_0, zkc_1, zkc_2, zkc_3, zkc_4⟩, zkc_0f, zkc_1f, zkc_2f, zkc_3f, zkc_4f⟩ := kc.five; obtain ⟨zkd_0, zkd_1, zkd_0f, zkd_1f⟩ := kd.two) | (have _ := y6; go_at_call 45; refine (HR.out _ bc).mono ?_; rintro e w5 ⟨rfl, hC⟩; dsimp only; replace kb := kb.on hC; replace kp := kp.on hC; replace ks := ks.on hC; replace kr := kr.on hC; replace kc := kc.on hC; replace kd := kd.on hC; replace hby := hby.on hC; replace y6 := y6.on hC; replace bc := bc.trans (hC.mono bc.size); clear hC; clear pkb_0 pkb_1 pkb_0f pkb_1f pkc_0 pkc_1 pkc_2 pkc_3 pkc_4 pkc_0f pkc_1f pkc_2f pkc_3f pkc_4f pkd_0 pkd_1 pkd_0f pkd_1f; obtain ⟨pkb_0, pkb_1, pkb_0f, pkb_1f⟩ := kb.two; obtain ⟨⟨pkc_0, pkc_1, pkc_2, pkc_3, pkc_4⟩, pkc_0f, pkc_1f, pkc_2f, pkc_3f, pkc_4f⟩ := kc.five; obtain ⟨pkd_0, pkd_1, pkd_0f, pkd_1f⟩ := kd.two; have hst := run_storeVar_row (P := Tryd.prog) w5 (w.heap.size + 1 + 1 + 1) 26 26 _ #[.int .i64 2, .int .i64 v, .int .i64 C0, .int .i64 C1, .int .i64 C2, .int .i64 C3, .int .i64 C4, .int .i64 0, .slice A6 n4 c6] kr info26 rfl (by simp [Value.oneCell']); simp [go_sem] at hst; have hG := only_setRow w5 (w.heap.size + 1 + 1 + 1) #[.int .i64 2, .int .i64 v, .int .i64 C0, .int .i64 C1, .int .i64 C2, .int .i64 C3, .int .i64 C4, .int .i64 0, .slice A6 n4 c6]; replace kb := kb.grown hG (some_ne (by omega)); replace kp := kp.grown hG (some_ne (by omega)); replace ks := ks.grown hG (some_ne (by omega)); replace kc := kc.grown hG (some_ne (by omega)); replace kd := kd.grown hG (some_ne (by omega)); replace hby := hby.off kr (no_u8_9 _ _ _ _ _ _ _ _ _ _ _) hG; replace y6 := y6.off kr (no_u8_9 _ _ _ _ _ _ _ _ _ _ _) hG; replace bc := Below.off bc bc.size (by omega) hG; replace kr := Blk.row kr #[.int .i64 2, .int .i64 v, .int .i64 C0, .int .i64 C1, .int .i64 C2, .int .i64 C3, .int .i64 C4, .int .i64 0, .slice A6 n4 c6]; clear hG; obtain ⟨zkb_0, zkb_1, zkb_0f, zkb_1f⟩ := kb.two; obtain ⟨⟨zkc_0, zkc_1, zkc_2, zkc_3, zkc_4⟩, zkc_0f, zkc_1f, zkc_2f, zkc_3f, zkc_4f⟩ := kc.five; obtain ⟨zkd_0, zkd_1, zkd_0f, zkd_1f⟩ := kd.two) | (go_at_call 45; refine (HR.out _ bc).mono ?_; rintro e w5 ⟨rfl, hC⟩; dsimp only; replace kb := kb.on hC; replace kp := kp.on hC; replace ks := ks.on hC; replace kr := kr.on hC; replace kc := kc.on hC; replace kd := kd.on hC; replace hby := hby.on hC; replace bc := bc.trans (hC.mono bc.size); clear hC; have hnum := 0; clear pkb_0 pkb_1 pkb_0f pkb_1f pkc_0 pkc_1 pkc_2 pkc_3 pkc_4 pkc_0f pkc_1f pkc_2f pkc_3f pkc_4f pkd_0 pkd_1 pkd_0f pkd_1f; obtain ⟨pkb_0, pkb_1, pkb_0f, pkb_1f⟩ := kb.two; obtain ⟨⟨pkc_0, pkc_1, pkc_2, pkc_3, pkc_4⟩, pkc_0f, pkc_1f, pkc_2f, pkc_3f, pkc_4f⟩ := kc.five; obtain ⟨pkd_0, pkd_1, pkd_0f, pkd_1f⟩ := kd.two) | (go_at_call 64; refine (own_any A4 n4 c4 bs _ HBN.out hbl hby).mono ?_; rintro e w6 ⟨A6, c6, rfl, y6, hC⟩; dsimp only at y6 ⊢; replace kb := kb.on hC; replace kp := kp.on hC; replace ks := ks.on hC; replace kr := kr.on hC; replace kc := kc.on hC; replace kd := kd.on hC; replace hby := hby.on hC; replace bc := bc.trans (hC.mono bc.size); clear hC; clear pkb_0 pkb_1 pkb_0f pkb_1f pkc_0 pkc_1 pkc_2 pkc_3 pkc_4 pkc_0f pkc_1f pkc_2f pkc_3f pkc_4f pkd_0 pkd_1 pkd_0f pkd_1f; obtain ⟨pkb_0, pkb_1, pkb_0f, pkb_1f⟩ := kb.two; obtain ⟨⟨pkc_0, pkc_1, pkc_2, pkc_3, pkc_4⟩, pkc_0f, pkc_1f, pkc_2f, pkc_3f, pkc_4f⟩ := kc.five; obtain ⟨pkd_0, pkd_1, pkd_0f, pkd_1f⟩ := kd.two))
         all_goals
           go_wp2
           obtain ⟨xkr_0, xkr_1, xkr_2, xkr_3, xkr_4, xkr_5, xkr_6, xkr_7, xkr_8⟩ := kr.nine
           obtain ⟨xkr_0f, xkr_1f, xkr_2f, xkr_3f, xkr_4f, xkr_5f, xkr_6f, xkr_7f, xkr_8f⟩ := kr.nineF
           refine bodyPost_ret (v := .tuple #[.agg #[.int .i64 2, .int .i64 v, .int .i64 C0, .int .i64 C1, .int .i64 C2, .int .i64 C3, .int .i64 C4, .int .i64 0, .slice A6 n4 c6], .bool true]) (by simp [results, Tryd.results48, go_sem, xkr_0, xkr_1, xkr_2, xkr_3, xkr_4, xkr_5, xkr_6, xkr_7, xkr_8]) rfl ⟨A6, n4, c6, rfl, ?_, ?_, bc⟩
           · rw [HBN.out, HBB.out]
           · rw [← HBB.out]; exact y6)
  · simp only [if_neg hm] at hpar ⊢
    have HR := Lib.hid hreq; have HP := Lib.hid hpar; have HD := Lib.hid hdc; have HS := Lib.hid hsl; have HDL := Lib.hid hDl; clear hreq hpar hdc hsl hDl h hS hSl hl hq hqd
    clear hm
    obtain ⟨kb, kp, ks, kr, bc⟩ := bx4 w #[.int .i64 L.length, .slice A n c] #[.int .i64 3, .int .i64 0, .int .i64 0, .int .i64 0, .int .i64 8] #[.int .i64 S.length, .slice B m d] #[.int .i64 0, .int .i64 0, .int .i64 0, .int .i64 0, .int .i64 0, .int .i64 0, .int .i64 0, .int .i64 0, .slice none 0 0] 28 51 28 26
    go_enter Tryd.func48, Tryd.ntmps48
    go_wp2_with fail
    generalize (((w.alloc (.cells #[.int .i64 L.length, .slice A n c] 28)).alloc (.cells #[.int .i64 3, .int .i64 0, .int .i64 0, .int .i64 0, .int .i64 8] 51)).alloc (.cells #[.int .i64 S.length, .slice B m d] 28)).alloc (.cells #[.int .i64 0, .int .i64 0, .int .i64 0, .int .i64 0, .int .i64 0, .int .i64 0, .int .i64 0, .int .i64 0, .slice none 0 0] 26) = u1 at *
    refine (HP.out _ bc).mono ?_
    rintro e w1 ⟨rfl, hC⟩
    dsimp only
    replace kb := kb.on hC; replace kp := kp.on hC; replace ks := ks.on hC; replace kr := kr.on hC; replace bc := bc.trans (hC.mono bc.size); clear hC
    unfold zeroC
    have z_kc_kb := kb.lt
    have z_kc_kp := kp.lt
    have z_kc_ks := ks.lt
    have z_kc_kr := kr.lt
    have zb_kc := bc.size
    have kc := Blk.new w1 23 #[.int .i64 0, .int .i64 0, .int .i64 0, .int .i64 0, .int .i64 0]
    have al := Below.al w1 (.cells #[.int .i64 0, .int .i64 0, .int .i64 0, .int .i64 0, .int .i64 0] 23)
    replace kb := kb.on al; replace kp := kp.on al; replace ks := ks.on al; replace kr := kr.on al; replace bc := bc.trans (al.mono bc.size); clear al
    have hst := run_storeVar_row (P := Tryd.prog) (w1.alloc (.cells #[.int .i64 0, .int .i64 0, .int .i64 0, .int .i64 0, .int .i64 0] 23)) (w.heap.size + 1 + 1 + 1) 26 26 _ #[.int .i64 0, .int .i64 0, .int .i64 0, .int .i64 0, .int .i64 0, .int .i64 0, .int .i64 0, .int .i64 0, .slice none 0 0] kr info26 rfl (by simp [Value.oneCell'])
    simp [go_sem, z_kc_kr] at hst
    have hG := only_setRow (w1.alloc (.cells #[.int .i64 0, .int .i64 0, .int .i64 0, .int .i64 0, .int .i64 0] 23)) (w.heap.size + 1 + 1 + 1) #[.int .i64 0, .int .i64 0, .int .i64 0, .int .i64 0, .int .i64 0, .int .i64 0, .int .i64 0, .int .i64 0, .slice none 0 0]
    replace kb := kb.grown hG (some_ne (by omega)); replace kp := kp.grown hG (some_ne (by omega)); replace ks := ks.grown hG (some_ne (by omega)); replace kc := kc.grown hG (some_ne (by omega)); replace bc := Below.off bc bc.size (by omega) hG; replace kr := Blk.row kr #[.int .i64 0, .int .i64 0, .int .i64 0, .int .i64 0, .int .i64 0, .int .i64 0, .int .i64 0, .int .i64 0, .slice none 0 0]; clear hG
    go_wp2
    obtain ⟨xkr_0, xkr_1, xkr_2, xkr_3, xkr_4, xkr_5, xkr_6, xkr_7, xkr_8⟩ := kr.nine
    obtain ⟨xkr_0f, xkr_1f, xkr_2f, xkr_3f, xkr_4f, xkr_5f, xkr_6f, xkr_7f, xkr_8f⟩ := kr.nineF
    exact bodyPost_ret (v := .tuple #[.agg #[.int .i64 0, .int .i64 0, .int .i64 0, .int .i64 0, .int .i64 0, .int .i64 0, .int .i64 0, .int .i64 0, .slice none 0 0], .bool false]) (by simp [results, Tryd.results48, go_sem, xkr_0, xkr_1, xkr_2, xkr_3, xkr_4, xkr_5, xkr_6, xkr_7, xkr_8]) rfl ⟨none, 0, 0, rfl, rfl, Byt.none _, bc⟩
set_option maxRecDepth 8000 in
set_option maxHeartbeats 4000000 in
theorem said_3 {w : World} {L S : List Bool} {A B : Option Addr} {n m : Nat} (h : Bv w L A n) (hS : Bv w S B m) (c d : Nat) (hSl : S.length = 24) (hl : L.length = 54) (hT : WTab w) :
    Calls Tryd.prog 48 #[.agg #[.int .i64 L.length, .slice A n c], .int .i64 3, .agg #[.int .i64 3, .int .i64 1, .int .i64 24, .int .i64 24, .int .i64 0], .agg #[.int .i64 S.length, .slice B m d]] w (ResG w (if mayC (fieldsOf S) 8 = true then (true, ⟨3, numOf ((L.drop 2).take 3), fieldsOf S, 0, []⟩) else (false, zeroF))) := by
  have hreq := fun (W : World) (hb : Below w.heap.size w W) => number_list (h.on hb) c (N := L.length) (ai := 2) (Wi := 3) (a := 2) (W := 3) rfl rfl rfl (by decide) (by omega)
  have hpar := fun (W : World) (hb : Below w.heap.size w W) => read_list (h := hS.on hb) d (N := S.length) rfl hSl (hT.on hb)
  have hdc := fun (W : World) => dataCount_any L.length 3 A n c W (by omega)
  have hq : ((L.length : Int) - sizeF 3 0).tdiv 8 = ((0 : Nat) : Int) := by
    rw [show sizeF 3 0 = 54 by decide, Int.tdiv_eq_ediv_of_nonneg (by omega)]; omega
  rw [hq] at hdc
  obtain ⟨q, hqd⟩ : ∃ q : Nat, q = 0 := ⟨_, rfl⟩
  rw [← hqd] at hdc
  have hq8 : q ≤ 8 := by omega
  have hsl := fun (W : World) (hb : Below w.heap.size w W) => slice_list (h.on hb) c (N := L.length) (ai := 54) (bi := 54 + (q : Int) * 8) (a := 54) (b := 54 + q * 8) rfl rfl (by omega) (by omega) (by omega)
  rw [show (54 + q * 8) - 54 = q * 8 by omega] at hsl
  have hDl : ((L.drop 54).take (q * 8)).length = q * 8 := by rw [List.length_take, List.length_drop]; omega
  have hw1 : IntKind.i64.wrap 54 = 54 := by decide
  have hw2 : IntKind.i64.wrap ((q : Int) * 8) = (q : Int) * 8 := IntWalk.i64_in _ (by omega)
  have hw3 : IntKind.i64.wrap (54 + (q : Int) * 8) = 54 + (q : Int) * 8 := IntWalk.i64_in _ (by omega)
  have hds : ([] : List UInt8) = bytesL ((L.drop 54).take (q * 8)) := by rw [hqd]; simp [bytesL]
  rw [hds]
  generalize (L.drop 54).take (q * 8) = D at *
  generalize numOf ((L.drop 2).take 3) = v at *
  generalize fieldsOf S = C at *
  obtain ⟨C0, C1, C2, C3, C4⟩ := C
  unfold ResC CS.cells at hpar
  by_cases hm : mayC ⟨C0, C1, C2, C3, C4⟩ 8 = true
  · simp only [if_pos hm] at hpar ⊢
    have HR := Lib.hid hreq; have HP := Lib.hid hpar; have HD := Lib.hid hdc; have HS := Lib.hid hsl; have HDL := Lib.hid hDl; clear hreq hpar hdc hsl hDl h hS hSl hl hq hqd hds
    clear hm
    obtain ⟨kb, kp, ks, kr, bc⟩ := bx4 w #[.int .i64 L.length, .slice A n c] #[.int .i64 3, .int .i64 1, .int .i64 24, .int .i64 24, .int .i64 0] #[.int .i64 S.length, .slice B m d] #[.int .i64 0, .int .i64 0, .int .i64 0, .int .i64 0, .int .i64 0, .int .i64 0, .int .i64 0, .int .i64 0, .slice none 0 0] 28 51 28 26
    go_enter Tryd.func48, Tryd.ntmps48
    go_wp2_with fail
    generalize (((w.alloc (.cells #[.int .i64 L.length, .slice A n c] 28)).alloc (.cells #[.int .i64 3, .int .i64 1, .int .i64 24, .int .i64 24, .int .i64 0] 51)).alloc (.cells #[.int .i64 S.length, .slice B m d] 28)).alloc (.cells #[.int .i64 0, .int .i64 0, .int .i64 0, .int .i64 0, .int .i64 0, .int .i64 0, .int .i64 0, .int .i64 0, .slice none 0 0] 26) = u1 at *
    refine (HP.out _ bc).mono ?_
    rintro e w1 ⟨rfl, hC⟩
    dsimp only
    replace kb := kb.on hC; replace kp := kp.on hC; replace ks := ks.on hC; replace kr := kr.on hC; replace bc := bc.trans (hC.mono bc.size); clear hC
    have z_kc_kb := kb.lt
    have z_kc_kp := kp.lt
    have z_kc_ks := ks.lt
    have z_kc_kr := kr.lt
    have zb_kc := bc.size
    have kc := Blk.new w1 23 #[.int .i64 C0, .int .i64 C1, .int .i64 C2, .int .i64 C3, .int .i64 C4]
    have al := Below.al w1 (.cells #[.int .i64 C0, .int .i64 C1, .int .i64 C2, .int .i64 C3, .int .i64 C4] 23)
    replace kb := kb.on al; replace kp := kp.on al; replace ks := ks.on al; replace kr := kr.on al; replace bc := bc.trans (al.mono bc.size); clear al
    obtain ⟨pkb_0, pkb_1, pkb_0f, pkb_1f⟩ := kb.two
    obtain ⟨⟨pkp_0, pkp_1, pkp_2, pkp_3, pkp_4⟩, pkp_0f, pkp_1f, pkp_2f, pkp_3f, pkp_4f⟩ := kp.five
    obtain ⟨pks_0, pks_1, pks_0f, pks_1f⟩ := ks.two
    obtain ⟨pkr_0, pkr_1, pkr_2, pkr_3, pkr_4, pkr_5, pkr_6, pkr_7, pkr_8⟩ := kr.nine
    obtain ⟨pkr_0f, pkr_1f, pkr_2f, pkr_3f, pkr_4f, pkr_5f, pkr_6f, pkr_7f, pkr_8f⟩ := kr.nineF
    obtain ⟨⟨pkc_0, pkc_1, pkc_2, pkc_3, pkc_4⟩, pkc_0f, pkc_1f, pkc_2f, pkc_3f, pkc_4f⟩ := kc.five
    go_wp2_with fail
    clear pkb_0 pkb_1 pkb_0f pkb_1f pkp_0 pkp_1 pkp_2 pkp_3 pkp_4 pkp_0f pkp_1f pkp_2f pkp_3f pkp_4f pks_0 pks_1 pks_0f pks_1f pkr_0 pkr_1 pkr_2 pkr_3 pkr_4 pkr_5 pkr_6 pkr_7 pkr_8 pkr_0f pkr_1f pkr_2f pkr_3f pkr_4f pkr_5f pkr_6f pkr_7f pkr_8f pkc_0 pkc_1 pkc_2 pkc_3 pkc_4 pkc_0f pkc_1f pkc_2f pkc_3f pkc_4f
    generalize w1.alloc (.cells #[.int .i64 C0, .int .i64 C1, .int .i64 C2, .int .i64 C3, .int .i64 C4] 23) = u2 at *
    generalize w1.heap.size = g2 at *
    have hdr : Below u2.heap.size u2 u2.drew := (Below.refl _ _).drew
    replace kb := kb.on hdr; replace kp := kp.on hdr; replace ks := ks.on hdr; replace kr := kr.on hdr; replace kc := kc.on hdr; replace bc := bc.trans (hdr.mono bc.size)
    clear hdr
    obtain ⟨⟨pkp_0, pkp_1, pkp_2, pkp_3, pkp_4⟩, pkp_0f, pkp_1f, pkp_2f, pkp_3f, pkp_4f⟩ := kp.five
    go_region_held3 (fun w' => w'.cell? ⟨w.heap.size + 1, 0, none⟩ = some (.int .i64 3) ∧ w'.cell? ⟨w.heap.size + 1, 1, none⟩ = some (.int .i64 1) ∧ w'.cell? ⟨w.heap.size + 1, 2, none⟩ = some (.int .i64 24) ∧ w'.cell? ⟨w.heap.size + 1, 3, none⟩ = some (.int .i64 24) ∧ w'.cell? ⟨w.heap.size + 1, 4, none⟩ = some (.int .i64 0)) (first | exact ⟨zkp_0, zkp_1, zkp_2, zkp_3, zkp_4⟩ | exact ⟨qkp_0, qkp_1, qkp_2, qkp_3, qkp_4⟩ | exact ⟨pkp_0, pkp_1, pkp_2, pkp_3, pkp_4⟩) (first | (go_at_call 41; refine (head_3 _).mono ?_; rintro e w2 ⟨rfl, hC⟩; dsimp only; replace kb := kb.on hC; replace kp := kp.on hC; replace ks := ks.on hC; replace kr := kr.on hC; replace kc := kc.on hC; replace bc := bc.trans (hC.mono bc.size); clear hC; clear pkp_0 pkp_1 pkp_2 pkp_3 pkp_4 pkp_0f pkp_1f pkp_2f pkp_3f pkp_4f; obtain ⟨⟨pkp_0, pkp_1, pkp_2, pkp_3, pkp_4⟩, pkp_0f, pkp_1f, pkp_2f, pkp_3f, pkp_4f⟩ := kp.five))
    obtain ⟨pkb_0, pkb_1, pkb_0f, pkb_1f⟩ := kb.two
    obtain ⟨⟨pkp_0, pkp_1, pkp_2, pkp_3, pkp_4⟩, pkp_0f, pkp_1f, pkp_2f, pkp_3f, pkp_4f⟩ := kp.five
    obtain ⟨pks_0, pks_1, pks_0f, pks_1f⟩ := ks.two
    obtain ⟨pkr_0, pkr_1, pkr_2, pkr_3, pkr_4, pkr_5, pkr_6, pkr_7, pkr_8⟩ := kr.nine
    obtain ⟨pkr_0f, pkr_1f, pkr_2f, pkr_3f, pkr_4f, pkr_5f, pkr_6f, pkr_7f, pkr_8f⟩ := kr.nineF
    obtain ⟨⟨pkc_0, pkc_1, pkc_2, pkc_3, pkc_4⟩, pkc_0f, pkc_1f, pkc_2f, pkc_3f, pkc_4f⟩ := kc.five
    go_wp2_with fail
    clear pkb_0 pkb_1 pkb_0f pkb_1f pkp_0 pkp_1 pkp_2 pkp_3 pkp_4 pkp_0f pkp_1f pkp_2f pkp_3f pkp_4f pks_0 pks_1 pks_0f pks_1f pkr_0 pkr_1 pkr_2 pkr_3 pkr_4 pkr_5 pkr_6 pkr_7 pkr_8 pkr_0f pkr_1f pkr_2f pkr_3f pkr_4f pkr_5f pkr_6f pkr_7f pkr_8f pkc_0 pkc_1 pkc_2 pkc_3 pkc_4 pkc_0f pkc_1f pkc_2f pkc_3f pkc_4f
    have hdr : Below w2.heap.size w2 w2.drew := (Below.refl _ _).drew
    replace kb := kb.on hdr; replace kp := kp.on hdr; replace ks := ks.on hdr; replace kr := kr.on hdr; replace kc := kc.on hdr; replace bc := bc.trans (hdr.mono bc.size)
    clear hdr
    obtain ⟨pkb_0, pkb_1, pkb_0f, pkb_1f⟩ := kb.two
    have al := Below.al w2 (.cells #[.int .i64 0, .slice none 0 0] 28)
    obtain ⟨qkb_0, qkb_1, -, -⟩ := (Blk.on (w := w2) kb al).two
    clear al
    go_region_held3 (fun w' => w'.cell? ⟨w.heap.size, 0, none⟩ = some (.int .i64 L.length) ∧ w'.cell? ⟨w.heap.size, 1, none⟩ = some (.slice A n c)) (first | exact ⟨zkb_0, zkb_1⟩ | exact ⟨rkb_0, rkb_1⟩ | exact ⟨qkb_0, qkb_1⟩ | exact ⟨pkb_0, pkb_1⟩) (first | (have _ := kd; go_at_call 46; refine (HS.out _ bc).mono ?_; rintro e w4 ⟨A4, n4, c4, rfl, v4, hC⟩; dsimp only at v4 ⊢; replace kb := kb.on hC; replace kp := kp.on hC; replace ks := ks.on hC; replace kr := kr.on hC; replace kc := kc.on hC; replace kd := kd.on hC; replace bc := bc.trans (hC.mono bc.size); clear hC; obtain ⟨pkb_0, pkb_1, pkb_0f, pkb_1f⟩ := kb.two; obtain ⟨okd_0, okd_1, okd_0f, okd_1f⟩ := kd.two; have hG := st2 w4 (gd) (.int .i64 D.length) (.slice A4 n4 c4); replace kb := kb.grown hG (some_ne (by omega)); replace kp := kp.grown hG (some_ne (by omega)); replace ks := ks.grown hG (some_ne (by omega)); replace kr := kr.grown hG (some_ne (by omega)); replace kc := kc.grown hG (some_ne (by omega)); replace v4 := v4.off kd (no_u8 _ _ _ _) hG; replace bc := Below.off bc bc.size (by omega) hG; replace kd := kd.put2 (.int .i64 D.length) (.slice A4 n4 c4); clear hG; obtain ⟨zkb_0, zkb_1, zkb_0f, zkb_1f⟩ := kb.two) | (go_at_call 46; refine (HS.out _ bc).mono ?_; rintro e w4 ⟨A4, n4, c4, rfl, v4, hC⟩; dsimp only at v4 ⊢; replace kb := kb.on hC; replace kp := kp.on hC; replace ks := ks.on hC; replace kr := kr.on hC; replace kc := kc.on hC; replace bc := bc.trans (hC.mono bc.size); clear hC; obtain ⟨pkb_0, pkb_1, pkb_0f, pkb_1f⟩ := kb.two; have al := Below.al w4 (.cells #[.int .i64 0, .slice none 0 0] 28); obtain ⟨qkb_0, qkb_1, -, -⟩ := (Blk.on (w := w4) kb al).two; clear al; have al := Below.al w4 (.cells #[.int .i64 D.length, .slice A4 n4 c4] 28); obtain ⟨rkb_0, rkb_1, -, -⟩ := (Blk.on (w := w4) kb al).two; clear al) | (have z_kd_kb := kb.lt; have z_kd_kp := kp.lt; have z_kd_ks := ks.lt; have z_kd_kr := kr.lt; have z_kd_kc := kc.lt; have zb_kd := bc.size; have kd := Blk.new w3 28 #[.int .i64 0, .slice none 0 0]; have al := Below.al w3 (.cells #[.int .i64 0, .slice none 0 0] 28); replace kb := kb.on al; replace kp := kp.on al; replace ks := ks.on al; replace kr := kr.on al; replace kc := kc.on al; replace bc := bc.trans (al.mono bc.size); clear al; go_at_call 46; refine (HS.out _ bc).mono ?_; rintro e w4 ⟨A4, n4, c4, rfl, v4, hC⟩; dsimp only at v4 ⊢; replace kb := kb.on hC; replace kp := kp.on hC; replace ks := ks.on hC; replace kr := kr.on hC; replace kc := kc.on hC; replace kd := kd.on hC; replace bc := bc.trans (hC.mono bc.size); clear hC; generalize w3.heap.size = gd at *; obtain ⟨pkb_0, pkb_1, pkb_0f, pkb_1f⟩ := kb.two; obtain ⟨okd_0, okd_1, okd_0f, okd_1f⟩ := kd.two; have hG := st2 w4 (gd) (.int .i64 D.length) (.slice A4 n4 c4); replace kb := kb.grown hG (some_ne (by omega)); replace kp := kp.grown hG (some_ne (by omega)); replace ks := ks.grown hG (some_ne (by omega)); replace kr := kr.grown hG (some_ne (by omega)); replace kc := kc.grown hG (some_ne (by omega)); replace v4 := v4.off kd (no_u8 _ _ _ _) hG; replace bc := Below.off bc bc.size (by omega) hG; replace kd := kd.put2 (.int .i64 D.length) (.slice A4 n4 c4); clear hG; obtain ⟨zkb_0, zkb_1, zkb_0f, zkb_1f⟩ := kb.two) | (go_at_call 73; refine (HD.out _).mono ?_; rintro e w3 ⟨rfl, hC⟩; dsimp only; replace kb := kb.on hC; replace kp := kp.on hC; replace ks := ks.on hC; replace kr := kr.on hC; replace kc := kc.on hC; replace bc := bc.trans (hC.mono bc.size); clear hC; obtain ⟨pkb_0, pkb_1, pkb_0f, pkb_1f⟩ := kb.two; have al := Below.al w3 (.cells #[.int .i64 0, .slice none 0 0] 28); obtain ⟨qkb_0, qkb_1, -, -⟩ := (Blk.on (w := w3) kb al).two; clear al) | (have z_kd_kb := kb.lt; have z_kd_kp := kp.lt; have z_kd_ks := ks.lt; have z_kd_kr := kr.lt; have z_kd_kc := kc.lt; have zb_kd := bc.size; have kd := Blk.new w2.drew 28 #[.int .i64 0, .slice none 0 0]; have hsz : w2.drew.heap.size = w2.heap.size := (by first | rfl | simp); rw [hsz] at kd z_kd_kb z_kd_kp z_kd_ks z_kd_kr z_kd_kc zb_kd; clear hsz; have al := Below.al w2.drew (.cells #[.int .i64 0, .slice none 0 0] 28); replace kb := kb.on al; replace kp := kp.on al; replace ks := ks.on al; replace kr := kr.on al; replace kc := kc.on al; replace bc := bc.trans (al.mono bc.size); clear al; go_at_call 73; refine (HD.out _).mono ?_; rintro e w3 ⟨rfl, hC⟩; dsimp only; replace kb := kb.on hC; replace kp := kp.on hC; replace ks := ks.on hC; replace kr := kr.on hC; replace kc := kc.on hC; replace kd := kd.on hC; replace bc := bc.trans (hC.mono bc.size); clear hC; generalize w2.heap.size = gd at *; obtain ⟨pkb_0, pkb_1, pkb_0f, pkb_1f⟩ := kb.two))
    all_goals first
      | (have z_kd_kb := kb.lt
         have z_kd_kp := kp.lt
         have z_kd_ks := ks.lt
         have z_kd_kr := kr.lt
         have z_kd_kc := kc.lt
         have zb_kd := bc.size
         have kd := Blk.new w4 28 #[.int .i64 D.length, .slice A4 n4 c4]
         have al := Below.al w4 (.cells #[.int .i64 D.length, .slice A4 n4 c4] 28)
         replace kb := kb.on al; replace kp := kp.on al; replace ks := ks.on al; replace kr := kr.on al; replace kc := kc.on al; replace v4 := v4.on al; replace bc := bc.trans (al.mono bc.size); clear al
         obtain ⟨pkb_0, pkb_1, pkb_0f, pkb_1f⟩ := kb.two
         obtain ⟨⟨pkp_0, pkp_1, pkp_2, pkp_3, pkp_4⟩, pkp_0f, pkp_1f, pkp_2f, pkp_3f, pkp_4f⟩ := kp.five
         obtain ⟨pks_0, pks_1, pks_0f, pks_1f⟩ := ks.two
         obtain ⟨pkr_0, pkr_1, pkr_2, pkr_3, pkr_4, pkr_5, pkr_6, pkr_7, pkr_8⟩ := kr.nine
         obtain ⟨pkr_0f, pkr_1f, pkr_2f, pkr_3f, pkr_4f, pkr_5f, pkr_6f, pkr_7f, pkr_8f⟩ := kr.nineF
         obtain ⟨⟨pkc_0, pkc_1, pkc_2, pkc_3, pkc_4⟩, pkc_0f, pkc_1f, pkc_2f, pkc_3f, pkc_4f⟩ := kc.five
         obtain ⟨pkd_0, pkd_1, pkd_0f, pkd_1f⟩ := kd.two
         go_wp2_with fail
         clear pkb_0 pkb_1 pkb_0f pkb_1f pkp_0 pkp_1 pkp_2 pkp_3 pkp_4 pkp_0f pkp_1f pkp_2f pkp_3f pkp_4f pks_0 pks_1 pks_0f pks_1f pkr_0 pkr_1 pkr_2 pkr_3 pkr_4 pkr_5 pkr_6 pkr_7 pkr_8 pkr_0f pkr_1f pkr_2f pkr_3f pkr_4f pkr_5f pkr_6f pkr_7f pkr_8f pkc_0 pkc_1 pkc_2 pkc_3 pkc_4 pkc_0f pkc_1f pkc_2f pkc_3f pkc_4f pkd_0 pkd_1 pkd_0f pkd_1f
         generalize w4.alloc (.cells #[.int .i64 D.length, .slice A4 n4 c4] 28) = u3 at *
         generalize w4.heap.size = g3 at *
         have hdr : Below u3.heap.size u3 u3.drew := (Below.refl _ _).drew
         replace kb := kb.on hdr; replace kp := kp.on hdr; replace ks := ks.on hdr; replace kr := kr.on hdr; replace kc := kc.on hdr; replace kd := kd.on hdr; replace v4 := v4.on hdr; replace bc := bc.trans (hdr.mono bc.size)
         clear hdr
         obtain ⟨pkb_0, pkb_1, pkb_0f, pkb_1f⟩ := kb.two
         obtain ⟨⟨pkc_0, pkc_1, pkc_2, pkc_3, pkc_4⟩, pkc_0f, pkc_1f, pkc_2f, pkc_3f, pkc_4f⟩ := kc.five
         obtain ⟨pkd_0, pkd_1, pkd_0f, pkd_1f⟩ := kd.two
         obtain ⟨bs, hbn, hbi, -, hby⟩ := v4
         have hbb := isBits_bytes hbi (by have := HDL.out; omega)
         have hbl : n4 ≤ 65536 := by have := HDL.out; have := bytesL_length D; rw [hbn, hbb]; omega
         have HBN := Lib.hid hbn; have HBB := Lib.hid hbb; clear hbn hbb hbi
         go_region_held3 (fun w' => w'.cell? ⟨w.heap.size, 0, none⟩ = some (.int .i64 L.length) ∧ w'.cell? ⟨w.heap.size, 1, none⟩ = some (.slice A n c) ∧ w'.cell? ⟨g2, 0, none⟩ = some (.int .i64 C0) ∧ w'.cell? ⟨g2, 1, none⟩ = some (.int .i64 C1) ∧ w'.cell? ⟨g2, 2, none⟩ = some (.int .i64 C2) ∧ w'.cell? ⟨g2, 3, none⟩ = some (.int .i64 C3) ∧ w'.cell? ⟨g2, 4, none⟩ = some (.int .i64 C4) ∧ w'.cell? ⟨g3, 0, none⟩ = some (.int .i64 D.length) ∧ w'.cell? ⟨g3, 1, none⟩ = some (.slice A4 n4 c4)) (first | exact ⟨zkb_0, zkb_1, zkc_0, zkc_1, zkc_2, zkc_3, zkc_4, zkd_0, zkd_1⟩ | exact ⟨qkb_0, qkb_1, qkc_0, qkc_1, qkc_2, qkc_3, qkc_4, qkd_0, qkd_1⟩ | exact ⟨pkb_0, pkb_1, pkc_0, pkc_1, pkc_2, pkc_3, pkc_4, pkd_0, pkd_1⟩) (first | (have _ := hnum; go_at_call 64; refine (own_any A4 n4 c4 bs _ HBN.out hbl hby).mono ?_; rintro e w6 ⟨A6, c6, rfl, y6, hC⟩; dsimp only at y6 ⊢; replace kb := kb.on hC; replace kp := kp.on hC; replace ks := ks.on hC; replace kr := kr.on hC; replace kc := kc.on hC; replace kd := kd.on hC; replace hby := hby.on hC; replace bc := bc.trans (hC.mono bc.size); clear hC; clear pkb_0 pkb_1 pkb_0f pkb_1f pkc_0 pkc_1 pkc_2 pkc_3 pkc_4 pkc_0f pkc_1f pkc_2f pkc_3f pkc_4f pkd_0 pkd_1 pkd_0f pkd_1f; obtain ⟨pkb_0, pkb_1, pkb_0f, pkb_1f⟩ := kb.two; obtain ⟨⟨pkc_0, pkc_1, pkc_2, pkc_3, pkc_4⟩, pkc_0f, pkc_1f, pkc_2f, pkc_3f, pkc_4f⟩ := kc.five; obtain ⟨pkd_0, pkd_1, pkd_0f, pkd_1f⟩ := kd.two; have hst := run_storeVar_row (P := Tryd.prog) w6 (w.heap.size + 1 + 1 + 1) 26 26 _ #[.int .i64 3, .int .i64 v, .int .i64 C0, .int .i64 C1, .int .i64 C2, .int .i64 C3, .int .i64 C4, .int .i64 0, .slice A6 n4 c6] kr info26 rfl (by simp [Value.oneCell']); simp [go_sem] at hst; have hG := only_setRow w6 (w.heap.size + 1 + 1 + 1) #[.int .i64 3, .int .i64 v, .int .i64 C0, .int .i64 C1, .int .i64 C2, .int .i64 C3, .int .i64 C4, .int .i64 0, .slice A6 n4 c6]; replace kb := kb.grown hG (some_ne (by omega)); replace kp := kp.grown hG (some_ne (by omega)); replace ks := ks.grown hG (some_ne (by omega)); replace kc := kc.grown hG (some_ne (by omega)); replace kd := kd.grown hG (some_ne (by omega)); replace hby := hby.off kr (no_u8_9 _ _ _ _ _ _ _ _ _ _ _) hG; replace y6 := y6.off kr (no_u8_9 _ _ _ _ _ _ _ _ _ _ _) hG; replace bc := Below.off bc bc.size (by omega) hG; replace kr := Blk.row kr #[.int .i64 3, .int .i64 v, .int .i64 C0, .int .i64 C1, .int .i64 C2, .int .i64 C3, .int .i64 C4, .int .i64 0, .slice A6 n4 c6]; clear hG; obtain ⟨zkb_0, zkb_1, zkb_0f, zkb_1f⟩ := kb.two; obtain ⟨⟨zkc_0, zkc_1, zkc_2, zkc_3, zkc_4⟩, zkc_0f, zkc_1f, zkc_2f, zkc_3f, zkc_4f⟩ := kc.five; obtain ⟨zkd_0, zkd_1, zkd_0f, zkd_1f⟩ := kd.two) | (have _ := y6; go_at_call 45; refine (HR.out _ bc).mono ?_; rintro e w5 ⟨rfl, hC⟩; dsimp only; replace kb := kb.on hC; replace kp := kp.on hC; replace ks := ks.on hC; replace kr := kr.on hC; replace kc := kc.on hC; replace kd := kd.on hC; replace hby := hby.on hC; replace y6 := y6.on hC; replace bc := bc.trans (hC.mono bc.size); clear hC; clear pkb_0 pkb_1 pkb_0f pkb_1f pkc_0 pkc_1 pkc_2 pkc_3 pkc_4 pkc_0f pkc_1f pkc_2f pkc_3f pkc_4f pkd_0 pkd_1 pkd_0f pkd_1f; obtain ⟨pkb_0, pkb_1, pkb_0f, pkb_1f⟩ := kb.two; obtain ⟨⟨pkc_0, pkc_1, pkc_2, pkc_3, pkc_4⟩, pkc_0f, pkc_1f, pkc_2f, pkc_3f, pkc_4f⟩ := kc.five; obtain ⟨pkd_0, pkd_1, pkd_0f, pkd_1f⟩ := kd.two; have hst := run_storeVar_row (P := Tryd.prog) w5 (w.heap.size + 1 + 1 + 1) 26 26 _ #[.int .i64 3, .int .i64 v, .int .i64 C0, .int .i64 C1, .int .i64 C2, .int .i64 C3, .int .i64 C4, .int .i64 0, .slice A6 n4 c6] kr info26 rfl (by simp [Value.oneCell']); simp [go_sem] at hst; have hG := only_setRow w5 (w.heap.size + 1 + 1 + 1) #[.int .i64 3, .int .i64 v, .int .i64 C0, .int .i64 C1, .int .i64 C2, .int .i64 C3, .int .i64 C4, .int .i64 0, .slice A6 n4 c6]; replace kb := kb.grown hG (some_ne (by omega)); replace kp := kp.grown hG (some_ne (by omega)); replace ks := ks.grown hG (some_ne (by omega)); replace kc := kc.grown hG (some_ne (by omega)); replace kd := kd.grown hG (some_ne (by omega)); replace hby := hby.off kr (no_u8_9 _ _ _ _ _ _ _ _ _ _ _) hG; replace y6 := y6.off kr (no_u8_9 _ _ _ _ _ _ _ _ _ _ _) hG; replace bc := Below.off bc bc.size (by omega) hG; replace kr := Blk.row kr #[.int .i64 3, .int .i64 v, .int .i64 C0, .int .i64 C1, .int .i64 C2, .int .i64 C3, .int .i64 C4, .int .i64 0, .slice A6 n4 c6]; clear hG; obtain ⟨zkb_0, zkb_1, zkb_0f, zkb_1f⟩ := kb.two; obtain ⟨⟨zkc_0, zkc_1, zkc_2, zkc_3, zkc_4⟩, zkc_0f, zkc_1f, zkc_2f, zkc_3f, zkc_4f⟩ := kc.five; obtain ⟨zkd_0, zkd_1, zkd_0f, zkd_1f⟩ := kd.two) | (go_at_call 45; refine (HR.out _ bc).mono ?_; rintro e w5 ⟨rfl, hC⟩; dsimp only; replace kb := kb.on hC; replace kp := kp.on hC; replace ks := ks.on hC; replace kr := kr.on hC; replace kc := kc.on hC; replace kd := kd.on hC; replace hby := hby.on hC; replace bc := bc.trans (hC.mono bc.size); clear hC; have hnum := 0; clear pkb_0 pkb_1 pkb_0f pkb_1f pkc_0 pkc_1 pkc_2 pkc_3 pkc_4 pkc_0f pkc_1f pkc_2f pkc_3f pkc_4f pkd_0 pkd_1 pkd_0f pkd_1f; obtain ⟨pkb_0, pkb_1, pkb_0f, pkb_1f⟩ := kb.two; obtain ⟨⟨pkc_0, pkc_1, pkc_2, pkc_3, pkc_4⟩, pkc_0f, pkc_1f, pkc_2f, pkc_3f, pkc_4f⟩ := kc.five; obtain ⟨pkd_0, pkd_1, pkd_0f, pkd_1f⟩ := kd.two) | (go_at_call 64; refine (own_any A4 n4 c4 bs _ HBN.out hbl hby).mono ?_; rintro e w6 ⟨A6, c6, rfl, y6, hC⟩; dsimp only at y6 ⊢; replace kb := kb.on hC; replace kp := kp.on hC; replace ks := ks.on hC; replace kr := kr.on hC; replace kc := kc.on hC; replace kd := kd.on hC; replace hby := hby.on hC; replace bc := bc.trans (hC.mono bc.size); clear hC; clear pkb_0 pkb_1 pkb_0f pkb_1f pkc_0 pkc_1 pkc_2 pkc_3 pkc_4 pkc_0f pkc_1f pkc_2f pkc_3f pkc_4f pkd_0 pkd_1 pkd_0f pkd_1f; obtain ⟨pkb_0, pkb_1, pkb_0f, pkb_1f⟩ := kb.two; obtain ⟨⟨pkc_0, pkc_1, pkc_2, pkc_3, pkc_4⟩, pkc_0f, pkc_1f, pkc_2f, pkc_3f, pkc_4f⟩ := kc.five; obtain ⟨pkd_0, pkd_1, pkd_0f, pkd_1f⟩ := kd.two))
         all_goals
           go_wp2
           obtain ⟨xkr_0, xkr_1, xkr_2, xkr_3, xkr_4, xkr_5, xkr_6, xkr_7, xkr_8⟩ := kr.nine
           obtain ⟨xkr_0f, xkr_1f, xkr_2f, xkr_3f, xkr_4f, xkr_5f, xkr_6f, xkr_7f, xkr_8f⟩ := kr.nineF
           refine bodyPost_ret (v := .tuple #[.agg #[.int .i64 3, .int .i64 v, .int .i64 C0, .int .i64 C1, .int .i64 C2, .int .i64 C3, .int .i64 C4, .int .i64 0, .slice A6 n4 c6], .bool true]) (by simp [results, Tryd.results48, go_sem, xkr_0, xkr_1, xkr_2, xkr_3, xkr_4, xkr_5, xkr_6, xkr_7, xkr_8]) rfl ⟨A6, n4, c6, rfl, ?_, ?_, bc⟩
           · rw [HBN.out, HBB.out]
           · rw [← HBB.out]; exact y6)
      | (obtain ⟨pkb_0, pkb_1, pkb_0f, pkb_1f⟩ := kb.two
         obtain ⟨⟨pkp_0, pkp_1, pkp_2, pkp_3, pkp_4⟩, pkp_0f, pkp_1f, pkp_2f, pkp_3f, pkp_4f⟩ := kp.five
         obtain ⟨pks_0, pks_1, pks_0f, pks_1f⟩ := ks.two
         obtain ⟨pkr_0, pkr_1, pkr_2, pkr_3, pkr_4, pkr_5, pkr_6, pkr_7, pkr_8⟩ := kr.nine
         obtain ⟨pkr_0f, pkr_1f, pkr_2f, pkr_3f, pkr_4f, pkr_5f, pkr_6f, pkr_7f, pkr_8f⟩ := kr.nineF
         obtain ⟨⟨pkc_0, pkc_1, pkc_2, pkc_3, pkc_4⟩, pkc_0f, pkc_1f, pkc_2f, pkc_3f, pkc_4f⟩ := kc.five
         obtain ⟨pkd_0, pkd_1, pkd_0f, pkd_1f⟩ := kd.two
         go_wp2_with fail
         clear pkb_0 pkb_1 pkb_0f pkb_1f pkp_0 pkp_1 pkp_2 pkp_3 pkp_4 pkp_0f pkp_1f pkp_2f pkp_3f pkp_4f pks_0 pks_1 pks_0f pks_1f pkr_0 pkr_1 pkr_2 pkr_3 pkr_4 pkr_5 pkr_6 pkr_7 pkr_8 pkr_0f pkr_1f pkr_2f pkr_3f pkr_4f pkr_5f pkr_6f pkr_7f pkr_8f pkc_0 pkc_1 pkc_2 pkc_3 pkc_4 pkc_0f pkc_1f pkc_2f pkc_3f pkc_4f pkd_0 pkd_1 pkd_0f pkd_1f
         generalize (w4.setCell ⟨gd, 0, none⟩ (.int .i64 D.length)).setCell ⟨gd, 1, none⟩ (.slice A4 n4 c4) = u3 at *
         have hdr : Below u3.heap.size u3 u3.drew := (Below.refl _ _).drew
         replace kb := kb.on hdr; replace kp := kp.on hdr; replace ks := ks.on hdr; replace kr := kr.on hdr; replace kc := kc.on hdr; replace kd := kd.on hdr; replace v4 := v4.on hdr; replace bc := bc.trans (hdr.mono bc.size)
         clear hdr
         obtain ⟨pkb_0, pkb_1, pkb_0f, pkb_1f⟩ := kb.two
         obtain ⟨⟨pkc_0, pkc_1, pkc_2, pkc_3, pkc_4⟩, pkc_0f, pkc_1f, pkc_2f, pkc_3f, pkc_4f⟩ := kc.five
         obtain ⟨pkd_0, pkd_1, pkd_0f, pkd_1f⟩ := kd.two
         obtain ⟨bs, hbn, hbi, -, hby⟩ := v4
         have hbb := isBits_bytes hbi (by have := HDL.out; omega)
         have hbl : n4 ≤ 65536 := by have := HDL.out; have := bytesL_length D; rw [hbn, hbb]; omega
         have HBN := Lib.hid hbn; have HBB := Lib.hid hbb; clear hbn hbb hbi
         go_region_held3 (fun w' => w'.cell? ⟨w.heap.size, 0, none⟩ = some (.int .i64 L.length) ∧ w'.cell? ⟨w.heap.size, 1, none⟩ = some (.slice A n c) ∧ w'.cell? ⟨g2, 0, none⟩ = some (.int .i64 C0) ∧ w'.cell? ⟨g2, 1, none⟩ = some (.int .i64 C1) ∧ w'.cell? ⟨g2, 2, none⟩ = some (.int .i64 C2) ∧ w'.cell? ⟨g2, 3, none⟩ = some (.int .i64 C3) ∧ w'.cell? ⟨g2, 4, none⟩ = some (.int .i64 C4) ∧ w'.cell? ⟨gd, 0, none⟩ = some (.int .i64 D.length) ∧ w'.cell? ⟨gd, 1, none⟩ = some (.slice A4 n4 c4)) (first | exact ⟨zkb_0, zkb_1, zkc_0, zkc_1, zkc_2, zkc_3, zkc_4, zkd_0, zkd_1⟩ | exact ⟨qkb_0, qkb_1, qkc_0, qkc_1, qkc_2, qkc_3, qkc_4, qkd_0, qkd_1⟩ | exact ⟨pkb_0, pkb_1, pkc_0, pkc_1, pkc_2, pkc_3, pkc_4, pkd_0, pkd_1⟩) (first | (have _ := hnum; go_at_call 64; refine (own_any A4 n4 c4 bs _ HBN.out hbl hby).mono ?_; rintro e w6 ⟨A6, c6, rfl, y6, hC⟩; dsimp only at y6 ⊢; replace kb := kb.on hC; replace kp := kp.on hC; replace ks := ks.on hC; replace kr := kr.on hC; replace kc := kc.on hC; replace kd := kd.on hC; replace hby := hby.on hC; replace bc := bc.trans (hC.mono bc.size); clear hC; clear pkb_0 pkb_1 pkb_0f pkb_1f pkc_0 pkc_1 pkc_2 pkc_3 pkc_4 pkc_0f pkc_1f pkc_2f pkc_3f pkc_4f pkd_0 pkd_1 pkd_0f pkd_1f; obtain ⟨pkb_0, pkb_1, pkb_0f, pkb_1f⟩ := kb.two; obtain ⟨⟨pkc_0, pkc_1, pkc_2, pkc_3, pkc_4⟩, pkc_0f, pkc_1f, pkc_2f, pkc_3f, pkc_4f⟩ := kc.five; obtain ⟨pkd_0, pkd_1, pkd_0f, pkd_1f⟩ := kd.two; have hst := run_storeVar_row (P := Tryd.prog) w6 (w.heap.size + 1 + 1 + 1) 26 26 _ #[.int .i64 3, .int .i64 v, .int .i64 C0, .int .i64 C1, .int .i64 C2, .int .i64 C3, .int .i64 C4, .int .i64 0, .slice A6 n4 c6] kr info26 rfl (by simp [Value.oneCell']); simp [go_sem] at hst; have hG := only_setRow w6 (w.heap.size + 1 + 1 + 1) #[.int .i64 3, .int .i64 v, .int .i64 C0, .int .i64 C1, .int .i64 C2, .int .i64 C3, .int .i64 C4, .int .i64 0, .slice A6 n4 c6]; replace kb := kb.grown hG (some_ne (by omega)); replace kp := kp.grown hG (some_ne (by omega)); replace ks := ks.grown hG (some_ne (by omega)); replace kc := kc.grown hG (some_ne (by omega)); replace kd := kd.grown hG (some_ne (by omega)); replace hby := hby.off kr (no_u8_9 _ _ _ _ _ _ _ _ _ _ _) hG; replace y6 := y6.off kr (no_u8_9 _ _ _ _ _ _ _ _ _ _ _) hG; replace bc := Below.off bc bc.size (by omega) hG; replace kr := Blk.row kr #[.int .i64 3, .int .i64 v, .int .i64 C0, .int .i64 C1, .int .i64 C2, .int .i64 C3, .int .i64 C4, .int .i64 0, .slice A6 n4 c6]; clear hG; obtain ⟨zkb_0, zkb_1, zkb_0f, zkb_1f⟩ := kb.two; obtain ⟨⟨zkc_0, zkc_1, zkc_2, zkc_3, zkc_4⟩, zkc_0f, zkc_1f, zkc_2f, zkc_3f, zkc_4f⟩ := kc.five; obtain ⟨zkd_0, zkd_1, zkd_0f, zkd_1f⟩ := kd.two) | (have _ := y6; go_at_call 45; refine (HR.out _ bc).mono ?_; rintro e w5 ⟨rfl, hC⟩; dsimp only; replace kb := kb.on hC; replace kp := kp.on hC; replace ks := ks.on hC; replace kr := kr.on hC; replace kc := kc.on hC; replace kd := kd.on hC; replace hby := hby.on hC; replace y6 := y6.on hC; replace bc := bc.trans (hC.mono bc.size); clear hC; clear pkb_0 pkb_1 pkb_0f pkb_1f pkc_0 pkc_1 pkc_2 pkc_3 pkc_4 pkc_0f pkc_1f pkc_2f pkc_3f pkc_4f pkd_0 pkd_1 pkd_0f pkd_1f; obtain ⟨pkb_0, pkb_1, pkb_0f, pkb_1f⟩ := kb.two; obtain ⟨⟨pkc_0, pkc_1, pkc_2, pkc_3, pkc_4⟩, pkc_0f, pkc_1f, pkc_2f, pkc_3f, pkc_4f⟩ := kc.five; obtain ⟨pkd_0, pkd_1, pkd_0f, pkd_1f⟩ := kd.two; have hst := run_storeVar_row (P := Tryd.prog) w5 (w.heap.size + 1 + 1 + 1) 26 26 _ #[.int .i64 3, .int .i64 v, .int .i64 C0, .int .i64 C1, .int .i64 C2, .int .i64 C3, .int .i64 C4, .int .i64 0, .slice A6 n4 c6] kr info26 rfl (by simp [Value.oneCell']); simp [go_sem] at hst; have hG := only_setRow w5 (w.heap.size + 1 + 1 + 1) #[.int .i64 3, .int .i64 v, .int .i64 C0, .int .i64 C1, .int .i64 C2, .int .i64 C3, .int .i64 C4, .int .i64 0, .slice A6 n4 c6]; replace kb := kb.grown hG (some_ne (by omega)); replace kp := kp.grown hG (some_ne (by omega)); replace ks := ks.grown hG (some_ne (by omega)); replace kc := kc.grown hG (some_ne (by omega)); replace kd := kd.grown hG (some_ne (by omega)); replace hby := hby.off kr (no_u8_9 _ _ _ _ _ _ _ _ _ _ _) hG; replace y6 := y6.off kr (no_u8_9 _ _ _ _ _ _ _ _ _ _ _) hG; replace bc := Below.off bc bc.size (by omega) hG; replace kr := Blk.row kr #[.int .i64 3, .int .i64 v, .int .i64 C0, .int .i64 C1, .int .i64 C2, .int .i64 C3, .int .i64 C4, .int .i64 0, .slice A6 n4 c6]; clear hG; obtain ⟨zkb_0, zkb_1, zkb_0f, zkb_1f⟩ := kb.two; obtain ⟨⟨zkc_0, zkc_1, zkc_2, zkc_3, zkc_4⟩, zkc_0f, zkc_1f, zkc_2f, zkc_3f, zkc_4f⟩ := kc.five; obtain ⟨zkd_0, zkd_1, zkd_0f, zkd_1f⟩ := kd.two) | (go_at_call 45; refine (HR.out _ bc).mono ?_; rintro e w5 ⟨rfl, hC⟩; dsimp only; replace kb := kb.on hC; replace kp := kp.on hC; replace ks := ks.on hC; replace kr := kr.on hC; replace kc := kc.on hC; replace kd := kd.on hC; replace hby := hby.on hC; replace bc := bc.trans (hC.mono bc.size); clear hC; have hnum := 0; clear pkb_0 pkb_1 pkb_0f pkb_1f pkc_0 pkc_1 pkc_2 pkc_3 pkc_4 pkc_0f pkc_1f pkc_2f pkc_3f pkc_4f pkd_0 pkd_1 pkd_0f pkd_1f; obtain ⟨pkb_0, pkb_1, pkb_0f, pkb_1f⟩ := kb.two; obtain ⟨⟨pkc_0, pkc_1, pkc_2, pkc_3, pkc_4⟩, pkc_0f, pkc_1f, pkc_2f, pkc_3f, pkc_4f⟩ := kc.five; obtain ⟨pkd_0, pkd_1, pkd_0f, pkd_1f⟩ := kd.two) | (go_at_call 64; refine (own_any A4 n4 c4 bs _ HBN.out hbl hby).mono ?_; rintro e w6 ⟨A6, c6, rfl, y6, hC⟩; dsimp only at y6 ⊢; replace kb := kb.on hC; replace kp := kp.on hC; replace ks := ks.on hC; replace kr := kr.on hC; replace kc := kc.on hC; replace kd := kd.on hC; replace hby := hby.on hC; replace bc := bc.trans (hC.mono bc.size); clear hC; clear pkb_0 pkb_1 pkb_0f pkb_1f pkc_0 pkc_1 pkc_2 pkc_3 pkc_4 pkc_0f pkc_1f pkc_2f pkc_3f pkc_4f pkd_0 pkd_1 pkd_0f pkd_1f; obtain ⟨pkb_0, pkb_1, pkb_0f, pkb_1f⟩ := kb.two; obtain ⟨⟨pkc_0, pkc_1, pkc_2, pkc_3, pkc_4⟩, pkc_0f, pkc_1f, pkc_2f, pkc_3f, pkc_4f⟩ := kc.five; obtain ⟨pkd_0, pkd_1, pkd_0f, pkd_1f⟩ := kd.two))
         all_goals
           go_wp2
           obtain ⟨xkr_0, xkr_1, xkr_2, xkr_3, xkr_4, xkr_5, xkr_6, xkr_7, xkr_8⟩ := kr.nine
           obtain ⟨xkr_0f, xkr_1f, xkr_2f, xkr_3f, xkr_4f, xkr_5f, xkr_6f, xkr_7f, xkr_8f⟩ := kr.nineF
           refine bodyPost_ret (v := .tuple #[.agg #[.int .i64 3, .int .i64 v, .int .i64 C0, .int .i64 C1, .int .i64 C2, .int .i64 C3, .int .i64 C4, .int .i64 0, .slice A6 n4 c6], .bool true]) (by simp [results, Tryd.results48, go_sem, xkr_0, xkr_1, xkr_2, xkr_3, xkr_4, xkr_5, xkr_6, xkr_7, xkr_8]) rfl ⟨A6, n4, c6, rfl, ?_, ?_, bc⟩
           · rw [HBN.out, HBB.out]
           · rw [← HBB.out]; exact y6)
  · simp only [if_neg hm] at hpar ⊢
    have HR := Lib.hid hreq; have HP := Lib.hid hpar; have HD := Lib.hid hdc; have HS := Lib.hid hsl; have HDL := Lib.hid hDl; clear hreq hpar hdc hsl hDl h hS hSl hl hq hqd hds
    clear hm
    obtain ⟨kb, kp, ks, kr, bc⟩ := bx4 w #[.int .i64 L.length, .slice A n c] #[.int .i64 3, .int .i64 1, .int .i64 24, .int .i64 24, .int .i64 0] #[.int .i64 S.length, .slice B m d] #[.int .i64 0, .int .i64 0, .int .i64 0, .int .i64 0, .int .i64 0, .int .i64 0, .int .i64 0, .int .i64 0, .slice none 0 0] 28 51 28 26
    go_enter Tryd.func48, Tryd.ntmps48
    go_wp2_with fail
    generalize (((w.alloc (.cells #[.int .i64 L.length, .slice A n c] 28)).alloc (.cells #[.int .i64 3, .int .i64 1, .int .i64 24, .int .i64 24, .int .i64 0] 51)).alloc (.cells #[.int .i64 S.length, .slice B m d] 28)).alloc (.cells #[.int .i64 0, .int .i64 0, .int .i64 0, .int .i64 0, .int .i64 0, .int .i64 0, .int .i64 0, .int .i64 0, .slice none 0 0] 26) = u1 at *
    refine (HP.out _ bc).mono ?_
    rintro e w1 ⟨rfl, hC⟩
    dsimp only
    replace kb := kb.on hC; replace kp := kp.on hC; replace ks := ks.on hC; replace kr := kr.on hC; replace bc := bc.trans (hC.mono bc.size); clear hC
    unfold zeroC
    have z_kc_kb := kb.lt
    have z_kc_kp := kp.lt
    have z_kc_ks := ks.lt
    have z_kc_kr := kr.lt
    have zb_kc := bc.size
    have kc := Blk.new w1 23 #[.int .i64 0, .int .i64 0, .int .i64 0, .int .i64 0, .int .i64 0]
    have al := Below.al w1 (.cells #[.int .i64 0, .int .i64 0, .int .i64 0, .int .i64 0, .int .i64 0] 23)
    replace kb := kb.on al; replace kp := kp.on al; replace ks := ks.on al; replace kr := kr.on al; replace bc := bc.trans (al.mono bc.size); clear al
    have hst := run_storeVar_row (P := Tryd.prog) (w1.alloc (.cells #[.int .i64 0, .int .i64 0, .int .i64 0, .int .i64 0, .int .i64 0] 23)) (w.heap.size + 1 + 1 + 1) 26 26 _ #[.int .i64 0, .int .i64 0, .int .i64 0, .int .i64 0, .int .i64 0, .int .i64 0, .int .i64 0, .int .i64 0, .slice none 0 0] kr info26 rfl (by simp [Value.oneCell'])
    simp [go_sem, z_kc_kr] at hst
    have hG := only_setRow (w1.alloc (.cells #[.int .i64 0, .int .i64 0, .int .i64 0, .int .i64 0, .int .i64 0] 23)) (w.heap.size + 1 + 1 + 1) #[.int .i64 0, .int .i64 0, .int .i64 0, .int .i64 0, .int .i64 0, .int .i64 0, .int .i64 0, .int .i64 0, .slice none 0 0]
    replace kb := kb.grown hG (some_ne (by omega)); replace kp := kp.grown hG (some_ne (by omega)); replace ks := ks.grown hG (some_ne (by omega)); replace kc := kc.grown hG (some_ne (by omega)); replace bc := Below.off bc bc.size (by omega) hG; replace kr := Blk.row kr #[.int .i64 0, .int .i64 0, .int .i64 0, .int .i64 0, .int .i64 0, .int .i64 0, .int .i64 0, .int .i64 0, .slice none 0 0]; clear hG
    go_wp2
    obtain ⟨xkr_0, xkr_1, xkr_2, xkr_3, xkr_4, xkr_5, xkr_6, xkr_7, xkr_8⟩ := kr.nine
    obtain ⟨xkr_0f, xkr_1f, xkr_2f, xkr_3f, xkr_4f, xkr_5f, xkr_6f, xkr_7f, xkr_8f⟩ := kr.nineF
    exact bodyPost_ret (v := .tuple #[.agg #[.int .i64 0, .int .i64 0, .int .i64 0, .int .i64 0, .int .i64 0, .int .i64 0, .int .i64 0, .int .i64 0, .slice none 0 0], .bool false]) (by simp [results, Tryd.results48, go_sem, xkr_0, xkr_1, xkr_2, xkr_3, xkr_4, xkr_5, xkr_6, xkr_7, xkr_8]) rfl ⟨none, 0, 0, rfl, rfl, Byt.none _, bc⟩
set_option maxRecDepth 8000 in
set_option maxHeartbeats 4000000 in
theorem said_4 {w : World} {L S : List Bool} {A B : Option Addr} {n m : Nat} (h : Bv w L A n) (hS : Bv w S B m) (c d : Nat) (hSl : S.length = 24) (hl : (79 ≤ L.length ∧ L.length ≤ 143 ∧ L.length % 8 = 7)) (hT : WTab w) :
    Calls Tryd.prog 48 #[.agg #[.int .i64 L.length, .slice A n c], .int .i64 4, .agg #[.int .i64 3, .int .i64 2, .int .i64 24, .int .i64 24, .int .i64 8], .agg #[.int .i64 S.length, .slice B m d]] w (ResG w (if mayC (fieldsOf S) 8 = true then (true, ⟨4, numOf ((L.drop 2).take 3), fieldsOf S, 0, bytesL ((L.drop 55).take (L.length - 79))⟩) else (false, zeroF))) := by
  have hreq := fun (W : World) (hb : Below w.heap.size w W) => number_list (h.on hb) c (N := L.length) (ai := 2) (Wi := 3) (a := 2) (W := 3) rfl rfl rfl (by decide) (by omega)
  have hpar := fun (W : World) (hb : Below w.heap.size w W) => read_list (h := hS.on hb) d (N := S.length) rfl hSl (hT.on hb)
  have hdc := fun (W : World) => dataCount_any L.length 4 A n c W (by omega)
  have hq : ((L.length : Int) - sizeF 4 0).tdiv 8 = (((L.length - 79) / 8 : Nat) : Int) := by
    rw [show sizeF 4 0 = 79 by decide, Int.tdiv_eq_ediv_of_nonneg (by omega)]; omega
  rw [hq] at hdc
  obtain ⟨q, hqd⟩ : ∃ q : Nat, q = (L.length - 79) / 8 := ⟨_, rfl⟩
  rw [← hqd] at hdc
  have hq8 : q ≤ 8 := by omega
  have hsl := fun (W : World) (hb : Below w.heap.size w W) => slice_list (h.on hb) c (N := L.length) (ai := 55) (bi := 55 + (q : Int) * 8) (a := 55) (b := 55 + q * 8) rfl rfl (by omega) (by omega) (by omega)
  rw [show (55 + q * 8) - 55 = q * 8 by omega] at hsl
  have hDl : ((L.drop 55).take (q * 8)).length = q * 8 := by rw [List.length_take, List.length_drop]; omega
  have hw1 : IntKind.i64.wrap 55 = 55 := by decide
  have hw2 : IntKind.i64.wrap ((q : Int) * 8) = (q : Int) * 8 := IntWalk.i64_in _ (by omega)
  have hw3 : IntKind.i64.wrap (55 + (q : Int) * 8) = 55 + (q : Int) * 8 := IntWalk.i64_in _ (by omega)
  rw [show (L.drop 55).take (L.length - 79) = (L.drop 55).take (q * 8) by rw [show L.length - 79 = q * 8 by omega]]
  generalize (L.drop 55).take (q * 8) = D at *
  generalize numOf ((L.drop 2).take 3) = v at *
  generalize fieldsOf S = C at *
  obtain ⟨C0, C1, C2, C3, C4⟩ := C
  unfold ResC CS.cells at hpar
  by_cases hm : mayC ⟨C0, C1, C2, C3, C4⟩ 8 = true
  · simp only [if_pos hm] at hpar ⊢
    have HR := Lib.hid hreq; have HP := Lib.hid hpar; have HD := Lib.hid hdc; have HS := Lib.hid hsl; have HDL := Lib.hid hDl; clear hreq hpar hdc hsl hDl h hS hSl hl hq hqd
    clear hm
    obtain ⟨kb, kp, ks, kr, bc⟩ := bx4 w #[.int .i64 L.length, .slice A n c] #[.int .i64 3, .int .i64 2, .int .i64 24, .int .i64 24, .int .i64 8] #[.int .i64 S.length, .slice B m d] #[.int .i64 0, .int .i64 0, .int .i64 0, .int .i64 0, .int .i64 0, .int .i64 0, .int .i64 0, .int .i64 0, .slice none 0 0] 28 51 28 26
    go_enter Tryd.func48, Tryd.ntmps48
    go_wp2_with fail
    generalize (((w.alloc (.cells #[.int .i64 L.length, .slice A n c] 28)).alloc (.cells #[.int .i64 3, .int .i64 2, .int .i64 24, .int .i64 24, .int .i64 8] 51)).alloc (.cells #[.int .i64 S.length, .slice B m d] 28)).alloc (.cells #[.int .i64 0, .int .i64 0, .int .i64 0, .int .i64 0, .int .i64 0, .int .i64 0, .int .i64 0, .int .i64 0, .slice none 0 0] 26) = u1 at *
    refine (HP.out _ bc).mono ?_
    rintro e w1 ⟨rfl, hC⟩
    dsimp only
    replace kb := kb.on hC; replace kp := kp.on hC; replace ks := ks.on hC; replace kr := kr.on hC; replace bc := bc.trans (hC.mono bc.size); clear hC
    have z_kc_kb := kb.lt
    have z_kc_kp := kp.lt
    have z_kc_ks := ks.lt
    have z_kc_kr := kr.lt
    have zb_kc := bc.size
    have kc := Blk.new w1 23 #[.int .i64 C0, .int .i64 C1, .int .i64 C2, .int .i64 C3, .int .i64 C4]
    have al := Below.al w1 (.cells #[.int .i64 C0, .int .i64 C1, .int .i64 C2, .int .i64 C3, .int .i64 C4] 23)
    replace kb := kb.on al; replace kp := kp.on al; replace ks := ks.on al; replace kr := kr.on al; replace bc := bc.trans (al.mono bc.size); clear al
    obtain ⟨pkb_0, pkb_1, pkb_0f, pkb_1f⟩ := kb.two
    obtain ⟨⟨pkp_0, pkp_1, pkp_2, pkp_3, pkp_4⟩, pkp_0f, pkp_1f, pkp_2f, pkp_3f, pkp_4f⟩ := kp.five
    obtain ⟨pks_0, pks_1, pks_0f, pks_1f⟩ := ks.two
    obtain ⟨pkr_0, pkr_1, pkr_2, pkr_3, pkr_4, pkr_5, pkr_6, pkr_7, pkr_8⟩ := kr.nine
    obtain ⟨pkr_0f, pkr_1f, pkr_2f, pkr_3f, pkr_4f, pkr_5f, pkr_6f, pkr_7f, pkr_8f⟩ := kr.nineF
    obtain ⟨⟨pkc_0, pkc_1, pkc_2, pkc_3, pkc_4⟩, pkc_0f, pkc_1f, pkc_2f, pkc_3f, pkc_4f⟩ := kc.five
    go_wp2_with fail
    clear pkb_0 pkb_1 pkb_0f pkb_1f pkp_0 pkp_1 pkp_2 pkp_3 pkp_4 pkp_0f pkp_1f pkp_2f pkp_3f pkp_4f pks_0 pks_1 pks_0f pks_1f pkr_0 pkr_1 pkr_2 pkr_3 pkr_4 pkr_5 pkr_6 pkr_7 pkr_8 pkr_0f pkr_1f pkr_2f pkr_3f pkr_4f pkr_5f pkr_6f pkr_7f pkr_8f pkc_0 pkc_1 pkc_2 pkc_3 pkc_4 pkc_0f pkc_1f pkc_2f pkc_3f pkc_4f
    generalize w1.alloc (.cells #[.int .i64 C0, .int .i64 C1, .int .i64 C2, .int .i64 C3, .int .i64 C4] 23) = u2 at *
    generalize w1.heap.size = g2 at *
    have hdr : Below u2.heap.size u2 u2.drew := (Below.refl _ _).drew
    replace kb := kb.on hdr; replace kp := kp.on hdr; replace ks := ks.on hdr; replace kr := kr.on hdr; replace kc := kc.on hdr; replace bc := bc.trans (hdr.mono bc.size)
    clear hdr
    obtain ⟨⟨pkp_0, pkp_1, pkp_2, pkp_3, pkp_4⟩, pkp_0f, pkp_1f, pkp_2f, pkp_3f, pkp_4f⟩ := kp.five
    go_region_held3 (fun w' => w'.cell? ⟨w.heap.size + 1, 0, none⟩ = some (.int .i64 3) ∧ w'.cell? ⟨w.heap.size + 1, 1, none⟩ = some (.int .i64 2) ∧ w'.cell? ⟨w.heap.size + 1, 2, none⟩ = some (.int .i64 24) ∧ w'.cell? ⟨w.heap.size + 1, 3, none⟩ = some (.int .i64 24) ∧ w'.cell? ⟨w.heap.size + 1, 4, none⟩ = some (.int .i64 8)) (first | exact ⟨zkp_0, zkp_1, zkp_2, zkp_3, zkp_4⟩ | exact ⟨qkp_0, qkp_1, qkp_2, qkp_3, qkp_4⟩ | exact ⟨pkp_0, pkp_1, pkp_2, pkp_3, pkp_4⟩) (first | (go_at_call 41; refine (head_4 _).mono ?_; rintro e w2 ⟨rfl, hC⟩; dsimp only; replace kb := kb.on hC; replace kp := kp.on hC; replace ks := ks.on hC; replace kr := kr.on hC; replace kc := kc.on hC; replace bc := bc.trans (hC.mono bc.size); clear hC; clear pkp_0 pkp_1 pkp_2 pkp_3 pkp_4 pkp_0f pkp_1f pkp_2f pkp_3f pkp_4f; obtain ⟨⟨pkp_0, pkp_1, pkp_2, pkp_3, pkp_4⟩, pkp_0f, pkp_1f, pkp_2f, pkp_3f, pkp_4f⟩ := kp.five))
    obtain ⟨pkb_0, pkb_1, pkb_0f, pkb_1f⟩ := kb.two
    obtain ⟨⟨pkp_0, pkp_1, pkp_2, pkp_3, pkp_4⟩, pkp_0f, pkp_1f, pkp_2f, pkp_3f, pkp_4f⟩ := kp.five
    obtain ⟨pks_0, pks_1, pks_0f, pks_1f⟩ := ks.two
    obtain ⟨pkr_0, pkr_1, pkr_2, pkr_3, pkr_4, pkr_5, pkr_6, pkr_7, pkr_8⟩ := kr.nine
    obtain ⟨pkr_0f, pkr_1f, pkr_2f, pkr_3f, pkr_4f, pkr_5f, pkr_6f, pkr_7f, pkr_8f⟩ := kr.nineF
    obtain ⟨⟨pkc_0, pkc_1, pkc_2, pkc_3, pkc_4⟩, pkc_0f, pkc_1f, pkc_2f, pkc_3f, pkc_4f⟩ := kc.five
    go_wp2_with fail
    clear pkb_0 pkb_1 pkb_0f pkb_1f pkp_0 pkp_1 pkp_2 pkp_3 pkp_4 pkp_0f pkp_1f pkp_2f pkp_3f pkp_4f pks_0 pks_1 pks_0f pks_1f pkr_0 pkr_1 pkr_2 pkr_3 pkr_4 pkr_5 pkr_6 pkr_7 pkr_8 pkr_0f pkr_1f pkr_2f pkr_3f pkr_4f pkr_5f pkr_6f pkr_7f pkr_8f pkc_0 pkc_1 pkc_2 pkc_3 pkc_4 pkc_0f pkc_1f pkc_2f pkc_3f pkc_4f
    have hdr : Below w2.heap.size w2 w2.drew := (Below.refl _ _).drew
    replace kb := kb.on hdr; replace kp := kp.on hdr; replace ks := ks.on hdr; replace kr := kr.on hdr; replace kc := kc.on hdr; replace bc := bc.trans (hdr.mono bc.size)
    clear hdr
    obtain ⟨pkb_0, pkb_1, pkb_0f, pkb_1f⟩ := kb.two
    have al := Below.al w2 (.cells #[.int .i64 0, .slice none 0 0] 28)
    obtain ⟨qkb_0, qkb_1, -, -⟩ := (Blk.on (w := w2) kb al).two
    clear al
    go_region_held3 (fun w' => w'.cell? ⟨w.heap.size, 0, none⟩ = some (.int .i64 L.length) ∧ w'.cell? ⟨w.heap.size, 1, none⟩ = some (.slice A n c)) (first | exact ⟨zkb_0, zkb_1⟩ | exact ⟨rkb_0, rkb_1⟩ | exact ⟨qkb_0, qkb_1⟩ | exact ⟨pkb_0, pkb_1⟩) (first | (have _ := kd; go_at_call 46; refine (HS.out _ bc).mono ?_; rintro e w4 ⟨A4, n4, c4, rfl, v4, hC⟩; dsimp only at v4 ⊢; replace kb := kb.on hC; replace kp := kp.on hC; replace ks := ks.on hC; replace kr := kr.on hC; replace kc := kc.on hC; replace kd := kd.on hC; replace bc := bc.trans (hC.mono bc.size); clear hC; obtain ⟨pkb_0, pkb_1, pkb_0f, pkb_1f⟩ := kb.two; obtain ⟨okd_0, okd_1, okd_0f, okd_1f⟩ := kd.two; have hG := st2 w4 (gd) (.int .i64 D.length) (.slice A4 n4 c4); replace kb := kb.grown hG (some_ne (by omega)); replace kp := kp.grown hG (some_ne (by omega)); replace ks := ks.grown hG (some_ne (by omega)); replace kr := kr.grown hG (some_ne (by omega)); replace kc := kc.grown hG (some_ne (by omega)); replace v4 := v4.off kd (no_u8 _ _ _ _) hG; replace bc := Below.off bc bc.size (by omega) hG; replace kd := kd.put2 (.int .i64 D.length) (.slice A4 n4 c4); clear hG; obtain ⟨zkb_0, zkb_1, zkb_0f, zkb_1f⟩ := kb.two) | (go_at_call 46; refine (HS.out _ bc).mono ?_; rintro e w4 ⟨A4, n4, c4, rfl, v4, hC⟩; dsimp only at v4 ⊢; replace kb := kb.on hC; replace kp := kp.on hC; replace ks := ks.on hC; replace kr := kr.on hC; replace kc := kc.on hC; replace bc := bc.trans (hC.mono bc.size); clear hC; obtain ⟨pkb_0, pkb_1, pkb_0f, pkb_1f⟩ := kb.two; have al := Below.al w4 (.cells #[.int .i64 0, .slice none 0 0] 28); obtain ⟨qkb_0, qkb_1, -, -⟩ := (Blk.on (w := w4) kb al).two; clear al; have al := Below.al w4 (.cells #[.int .i64 D.length, .slice A4 n4 c4] 28); obtain ⟨rkb_0, rkb_1, -, -⟩ := (Blk.on (w := w4) kb al).two; clear al) | (have z_kd_kb := kb.lt; have z_kd_kp := kp.lt; have z_kd_ks := ks.lt; have z_kd_kr := kr.lt; have z_kd_kc := kc.lt; have zb_kd := bc.size; have kd := Blk.new w3 28 #[.int .i64 0, .slice none 0 0]; have al := Below.al w3 (.cells #[.int .i64 0, .slice none 0 0] 28); replace kb := kb.on al; replace kp := kp.on al; replace ks := ks.on al; replace kr := kr.on al; replace kc := kc.on al; replace bc := bc.trans (al.mono bc.size); clear al; go_at_call 46; refine (HS.out _ bc).mono ?_; rintro e w4 ⟨A4, n4, c4, rfl, v4, hC⟩; dsimp only at v4 ⊢; replace kb := kb.on hC; replace kp := kp.on hC; replace ks := ks.on hC; replace kr := kr.on hC; replace kc := kc.on hC; replace kd := kd.on hC; replace bc := bc.trans (hC.mono bc.size); clear hC; generalize w3.heap.size = gd at *; obtain ⟨pkb_0, pkb_1, pkb_0f, pkb_1f⟩ := kb.two; obtain ⟨okd_0, okd_1, okd_0f, okd_1f⟩ := kd.two; have hG := st2 w4 (gd) (.int .i64 D.length) (.slice A4 n4 c4); replace kb := kb.grown hG (some_ne (by omega)); replace kp := kp.grown hG (some_ne (by omega)); replace ks := ks.grown hG (some_ne (by omega)); replace kr := kr.grown hG (some_ne (by omega)); replace kc := kc.grown hG (some_ne (by omega)); replace v4 := v4.off kd (no_u8 _ _ _ _) hG; replace bc := Below.off bc bc.size (by omega) hG; replace kd := kd.put2 (.int .i64 D.length) (.slice A4 n4 c4); clear hG; obtain ⟨zkb_0, zkb_1, zkb_0f, zkb_1f⟩ := kb.two) | (go_at_call 73; refine (HD.out _).mono ?_; rintro e w3 ⟨rfl, hC⟩; dsimp only; replace kb := kb.on hC; replace kp := kp.on hC; replace ks := ks.on hC; replace kr := kr.on hC; replace kc := kc.on hC; replace bc := bc.trans (hC.mono bc.size); clear hC; obtain ⟨pkb_0, pkb_1, pkb_0f, pkb_1f⟩ := kb.two; have al := Below.al w3 (.cells #[.int .i64 0, .slice none 0 0] 28); obtain ⟨qkb_0, qkb_1, -, -⟩ := (Blk.on (w := w3) kb al).two; clear al) | (have z_kd_kb := kb.lt; have z_kd_kp := kp.lt; have z_kd_ks := ks.lt; have z_kd_kr := kr.lt; have z_kd_kc := kc.lt; have zb_kd := bc.size; have kd := Blk.new w2.drew 28 #[.int .i64 0, .slice none 0 0]; have hsz : w2.drew.heap.size = w2.heap.size := (by first | rfl | simp); rw [hsz] at kd z_kd_kb z_kd_kp z_kd_ks z_kd_kr z_kd_kc zb_kd; clear hsz; have al := Below.al w2.drew (.cells #[.int .i64 0, .slice none 0 0] 28); replace kb := kb.on al; replace kp := kp.on al; replace ks := ks.on al; replace kr := kr.on al; replace kc := kc.on al; replace bc := bc.trans (al.mono bc.size); clear al; go_at_call 73; refine (HD.out _).mono ?_; rintro e w3 ⟨rfl, hC⟩; dsimp only; replace kb := kb.on hC; replace kp := kp.on hC; replace ks := ks.on hC; replace kr := kr.on hC; replace kc := kc.on hC; replace kd := kd.on hC; replace bc := bc.trans (hC.mono bc.size); clear hC; generalize w2.heap.size = gd at *; obtain ⟨pkb_0, pkb_1, pkb_0f, pkb_1f⟩ := kb.two))
    all_goals first
      | (have z_kd_kb := kb.lt
         have z_kd_kp := kp.lt
         have z_kd_ks := ks.lt
         have z_kd_kr := kr.lt
         have z_kd_kc := kc.lt
         have zb_kd := bc.size
         have kd := Blk.new w4 28 #[.int .i64 D.length, .slice A4 n4 c4]
         have al := Below.al w4 (.cells #[.int .i64 D.length, .slice A4 n4 c4] 28)
         replace kb := kb.on al; replace kp := kp.on al; replace ks := ks.on al; replace kr := kr.on al; replace kc := kc.on al; replace v4 := v4.on al; replace bc := bc.trans (al.mono bc.size); clear al
         obtain ⟨pkb_0, pkb_1, pkb_0f, pkb_1f⟩ := kb.two
         obtain ⟨⟨pkp_0, pkp_1, pkp_2, pkp_3, pkp_4⟩, pkp_0f, pkp_1f, pkp_2f, pkp_3f, pkp_4f⟩ := kp.five
         obtain ⟨pks_0, pks_1, pks_0f, pks_1f⟩ := ks.two
         obtain ⟨pkr_0, pkr_1, pkr_2, pkr_3, pkr_4, pkr_5, pkr_6, pkr_7, pkr_8⟩ := kr.nine
         obtain ⟨pkr_0f, pkr_1f, pkr_2f, pkr_3f, pkr_4f, pkr_5f, pkr_6f, pkr_7f, pkr_8f⟩ := kr.nineF
         obtain ⟨⟨pkc_0, pkc_1, pkc_2, pkc_3, pkc_4⟩, pkc_0f, pkc_1f, pkc_2f, pkc_3f, pkc_4f⟩ := kc.five
         obtain ⟨pkd_0, pkd_1, pkd_0f, pkd_1f⟩ := kd.two
         go_wp2_with fail
         clear pkb_0 pkb_1 pkb_0f pkb_1f pkp_0 pkp_1 pkp_2 pkp_3 pkp_4 pkp_0f pkp_1f pkp_2f pkp_3f pkp_4f pks_0 pks_1 pks_0f pks_1f pkr_0 pkr_1 pkr_2 pkr_3 pkr_4 pkr_5 pkr_6 pkr_7 pkr_8 pkr_0f pkr_1f pkr_2f pkr_3f pkr_4f pkr_5f pkr_6f pkr_7f pkr_8f pkc_0 pkc_1 pkc_2 pkc_3 pkc_4 pkc_0f pkc_1f pkc_2f pkc_3f pkc_4f pkd_0 pkd_1 pkd_0f pkd_1f
         generalize w4.alloc (.cells #[.int .i64 D.length, .slice A4 n4 c4] 28) = u3 at *
         generalize w4.heap.size = g3 at *
         have hdr : Below u3.heap.size u3 u3.drew := (Below.refl _ _).drew
         replace kb := kb.on hdr; replace kp := kp.on hdr; replace ks := ks.on hdr; replace kr := kr.on hdr; replace kc := kc.on hdr; replace kd := kd.on hdr; replace v4 := v4.on hdr; replace bc := bc.trans (hdr.mono bc.size)
         clear hdr
         obtain ⟨pkb_0, pkb_1, pkb_0f, pkb_1f⟩ := kb.two
         obtain ⟨⟨pkc_0, pkc_1, pkc_2, pkc_3, pkc_4⟩, pkc_0f, pkc_1f, pkc_2f, pkc_3f, pkc_4f⟩ := kc.five
         obtain ⟨pkd_0, pkd_1, pkd_0f, pkd_1f⟩ := kd.two
         obtain ⟨bs, hbn, hbi, -, hby⟩ := v4
         have hbb := isBits_bytes hbi (by have := HDL.out; omega)
         have hbl : n4 ≤ 65536 := by have := HDL.out; have := bytesL_length D; rw [hbn, hbb]; omega
         have HBN := Lib.hid hbn; have HBB := Lib.hid hbb; clear hbn hbb hbi
         go_region_held3 (fun w' => w'.cell? ⟨w.heap.size, 0, none⟩ = some (.int .i64 L.length) ∧ w'.cell? ⟨w.heap.size, 1, none⟩ = some (.slice A n c) ∧ w'.cell? ⟨g2, 0, none⟩ = some (.int .i64 C0) ∧ w'.cell? ⟨g2, 1, none⟩ = some (.int .i64 C1) ∧ w'.cell? ⟨g2, 2, none⟩ = some (.int .i64 C2) ∧ w'.cell? ⟨g2, 3, none⟩ = some (.int .i64 C3) ∧ w'.cell? ⟨g2, 4, none⟩ = some (.int .i64 C4) ∧ w'.cell? ⟨g3, 0, none⟩ = some (.int .i64 D.length) ∧ w'.cell? ⟨g3, 1, none⟩ = some (.slice A4 n4 c4)) (first | exact ⟨zkb_0, zkb_1, zkc_0, zkc_1, zkc_2, zkc_3, zkc_4, zkd_0, zkd_1⟩ | exact ⟨qkb_0, qkb_1, qkc_0, qkc_1, qkc_2, qkc_3, qkc_4, qkd_0, qkd_1⟩ | exact ⟨pkb_0, pkb_1, pkc_0, pkc_1, pkc_2, pkc_3, pkc_4, pkd_0, pkd_1⟩) (first | (have _ := hnum; go_at_call 64; refine (own_any A4 n4 c4 bs _ HBN.out hbl hby).mono ?_; rintro e w6 ⟨A6, c6, rfl, y6, hC⟩; dsimp only at y6 ⊢; replace kb := kb.on hC; replace kp := kp.on hC; replace ks := ks.on hC; replace kr := kr.on hC; replace kc := kc.on hC; replace kd := kd.on hC; replace hby := hby.on hC; replace bc := bc.trans (hC.mono bc.size); clear hC; clear pkb_0 pkb_1 pkb_0f pkb_1f pkc_0 pkc_1 pkc_2 pkc_3 pkc_4 pkc_0f pkc_1f pkc_2f pkc_3f pkc_4f pkd_0 pkd_1 pkd_0f pkd_1f; obtain ⟨pkb_0, pkb_1, pkb_0f, pkb_1f⟩ := kb.two; obtain ⟨⟨pkc_0, pkc_1, pkc_2, pkc_3, pkc_4⟩, pkc_0f, pkc_1f, pkc_2f, pkc_3f, pkc_4f⟩ := kc.five; obtain ⟨pkd_0, pkd_1, pkd_0f, pkd_1f⟩ := kd.two; have hst := run_storeVar_row (P := Tryd.prog) w6 (w.heap.size + 1 + 1 + 1) 26 26 _ #[.int .i64 4, .int .i64 v, .int .i64 C0, .int .i64 C1, .int .i64 C2, .int .i64 C3, .int .i64 C4, .int .i64 0, .slice A6 n4 c6] kr info26 rfl (by simp [Value.oneCell']); simp [go_sem] at hst; have hG := only_setRow w6 (w.heap.size + 1 + 1 + 1) #[.int .i64 4, .int .i64 v, .int .i64 C0, .int .i64 C1, .int .i64 C2, .int .i64 C3, .int .i64 C4, .int .i64 0, .slice A6 n4 c6]; replace kb := kb.grown hG (some_ne (by omega)); replace kp := kp.grown hG (some_ne (by omega)); replace ks := ks.grown hG (some_ne (by omega)); replace kc := kc.grown hG (some_ne (by omega)); replace kd := kd.grown hG (some_ne (by omega)); replace hby := hby.off kr (no_u8_9 _ _ _ _ _ _ _ _ _ _ _) hG; replace y6 := y6.off kr (no_u8_9 _ _ _ _ _ _ _ _ _ _ _) hG; replace bc := Below.off bc bc.size (by omega) hG; replace kr := Blk.row kr #[.int .i64 4, .int .i64 v, .int .i64 C0, .int .i64 C1, .int .i64 C2, .int .i64 C3, .int .i64 C4, .int .i64 0, .slice A6 n4 c6]; clear hG; obtain ⟨zkb_0, zkb_1, zkb_0f, zkb_1f⟩ := kb.two; obtain ⟨⟨zkc_0, zkc_1, zkc_2, zkc_3, zkc_4⟩, zkc_0f, zkc_1f, zkc_2f, zkc_3f, zkc_4f⟩ := kc.five; obtain ⟨zkd_0, zkd_1, zkd_0f, zkd_1f⟩ := kd.two) | (have _ := y6; go_at_call 45; refine (HR.out _ bc).mono ?_; rintro e w5 ⟨rfl, hC⟩; dsimp only; replace kb := kb.on hC; replace kp := kp.on hC; replace ks := ks.on hC; replace kr := kr.on hC; replace kc := kc.on hC; replace kd := kd.on hC; replace hby := hby.on hC; replace y6 := y6.on hC; replace bc := bc.trans (hC.mono bc.size); clear hC; clear pkb_0 pkb_1 pkb_0f pkb_1f pkc_0 pkc_1 pkc_2 pkc_3 pkc_4 pkc_0f pkc_1f pkc_2f pkc_3f pkc_4f pkd_0 pkd_1 pkd_0f pkd_1f; obtain ⟨pkb_0, pkb_1, pkb_0f, pkb_1f⟩ := kb.two; obtain ⟨⟨pkc_0, pkc_1, pkc_2, pkc_3, pkc_4⟩, pkc_0f, pkc_1f, pkc_2f, pkc_3f, pkc_4f⟩ := kc.five; obtain ⟨pkd_0, pkd_1, pkd_0f, pkd_1f⟩ := kd.two; have hst := run_storeVar_row (P := Tryd.prog) w5 (w.heap.size + 1 + 1 + 1) 26 26 _ #[.int .i64 4, .int .i64 v, .int .i64 C0, .int .i64 C1, .int .i64 C2, .int .i64 C3, .int .i64 C4, .int .i64 0, .slice A6 n4 c6] kr info26 rfl (by simp [Value.oneCell']); simp [go_sem] at hst; have hG := only_setRow w5 (w.heap.size + 1 + 1 + 1) #[.int .i64 4, .int .i64 v, .int .i64 C0, .int .i64 C1, .int .i64 C2, .int .i64 C3, .int .i64 C4, .int .i64 0, .slice A6 n4 c6]; replace kb := kb.grown hG (some_ne (by omega)); replace kp := kp.grown hG (some_ne (by omega)); replace ks := ks.grown hG (some_ne (by omega)); replace kc := kc.grown hG (some_ne (by omega)); replace kd := kd.grown hG (some_ne (by omega)); replace hby := hby.off kr (no_u8_9 _ _ _ _ _ _ _ _ _ _ _) hG; replace y6 := y6.off kr (no_u8_9 _ _ _ _ _ _ _ _ _ _ _) hG; replace bc := Below.off bc bc.size (by omega) hG; replace kr := Blk.row kr #[.int .i64 4, .int .i64 v, .int .i64 C0, .int .i64 C1, .int .i64 C2, .int .i64 C3, .int .i64 C4, .int .i64 0, .slice A6 n4 c6]; clear hG; obtain ⟨zkb_0, zkb_1, zkb_0f, zkb_1f⟩ := kb.two; obtain ⟨⟨zkc_0, zkc_1, zkc_2, zkc_3, zkc_4⟩, zkc_0f, zkc_1f, zkc_2f, zkc_3f, zkc_4f⟩ := kc.five; obtain ⟨zkd_0, zkd_1, zkd_0f, zkd_1f⟩ := kd.two) | (go_at_call 45; refine (HR.out _ bc).mono ?_; rintro e w5 ⟨rfl, hC⟩; dsimp only; replace kb := kb.on hC; replace kp := kp.on hC; replace ks := ks.on hC; replace kr := kr.on hC; replace kc := kc.on hC; replace kd := kd.on hC; replace hby := hby.on hC; replace bc := bc.trans (hC.mono bc.size); clear hC; have hnum := 0; clear pkb_0 pkb_1 pkb_0f pkb_1f pkc_0 pkc_1 pkc_2 pkc_3 pkc_4 pkc_0f pkc_1f pkc_2f pkc_3f pkc_4f pkd_0 pkd_1 pkd_0f pkd_1f; obtain ⟨pkb_0, pkb_1, pkb_0f, pkb_1f⟩ := kb.two; obtain ⟨⟨pkc_0, pkc_1, pkc_2, pkc_3, pkc_4⟩, pkc_0f, pkc_1f, pkc_2f, pkc_3f, pkc_4f⟩ := kc.five; obtain ⟨pkd_0, pkd_1, pkd_0f, pkd_1f⟩ := kd.two) | (go_at_call 64; refine (own_any A4 n4 c4 bs _ HBN.out hbl hby).mono ?_; rintro e w6 ⟨A6, c6, rfl, y6, hC⟩; dsimp only at y6 ⊢; replace kb := kb.on hC; replace kp := kp.on hC; replace ks := ks.on hC; replace kr := kr.on hC; replace kc := kc.on hC; replace kd := kd.on hC; replace hby := hby.on hC; replace bc := bc.trans (hC.mono bc.size); clear hC; clear pkb_0 pkb_1 pkb_0f pkb_1f pkc_0 pkc_1 pkc_2 pkc_3 pkc_4 pkc_0f pkc_1f pkc_2f pkc_3f pkc_4f pkd_0 pkd_1 pkd_0f pkd_1f; obtain ⟨pkb_0, pkb_1, pkb_0f, pkb_1f⟩ := kb.two; obtain ⟨⟨pkc_0, pkc_1, pkc_2, pkc_3, pkc_4⟩, pkc_0f, pkc_1f, pkc_2f, pkc_3f, pkc_4f⟩ := kc.five; obtain ⟨pkd_0, pkd_1, pkd_0f, pkd_1f⟩ := kd.two))
         all_goals
           go_wp2
           obtain ⟨xkr_0, xkr_1, xkr_2, xkr_3, xkr_4, xkr_5, xkr_6, xkr_7, xkr_8⟩ := kr.nine
           obtain ⟨xkr_0f, xkr_1f, xkr_2f, xkr_3f, xkr_4f, xkr_5f, xkr_6f, xkr_7f, xkr_8f⟩ := kr.nineF
           refine bodyPost_ret (v := .tuple #[.agg #[.int .i64 4, .int .i64 v, .int .i64 C0, .int .i64 C1, .int .i64 C2, .int .i64 C3, .int .i64 C4, .int .i64 0, .slice A6 n4 c6], .bool true]) (by simp [results, Tryd.results48, go_sem, xkr_0, xkr_1, xkr_2, xkr_3, xkr_4, xkr_5, xkr_6, xkr_7, xkr_8]) rfl ⟨A6, n4, c6, rfl, ?_, ?_, bc⟩
           · rw [HBN.out, HBB.out]
           · rw [← HBB.out]; exact y6)
      | (obtain ⟨pkb_0, pkb_1, pkb_0f, pkb_1f⟩ := kb.two
         obtain ⟨⟨pkp_0, pkp_1, pkp_2, pkp_3, pkp_4⟩, pkp_0f, pkp_1f, pkp_2f, pkp_3f, pkp_4f⟩ := kp.five
         obtain ⟨pks_0, pks_1, pks_0f, pks_1f⟩ := ks.two
         obtain ⟨pkr_0, pkr_1, pkr_2, pkr_3, pkr_4, pkr_5, pkr_6, pkr_7, pkr_8⟩ := kr.nine
         obtain ⟨pkr_0f, pkr_1f, pkr_2f, pkr_3f, pkr_4f, pkr_5f, pkr_6f, pkr_7f, pkr_8f⟩ := kr.nineF
         obtain ⟨⟨pkc_0, pkc_1, pkc_2, pkc_3, pkc_4⟩, pkc_0f, pkc_1f, pkc_2f, pkc_3f, pkc_4f⟩ := kc.five
         obtain ⟨pkd_0, pkd_1, pkd_0f, pkd_1f⟩ := kd.two
         go_wp2_with fail
         clear pkb_0 pkb_1 pkb_0f pkb_1f pkp_0 pkp_1 pkp_2 pkp_3 pkp_4 pkp_0f pkp_1f pkp_2f pkp_3f pkp_4f pks_0 pks_1 pks_0f pks_1f pkr_0 pkr_1 pkr_2 pkr_3 pkr_4 pkr_5 pkr_6 pkr_7 pkr_8 pkr_0f pkr_1f pkr_2f pkr_3f pkr_4f pkr_5f pkr_6f pkr_7f pkr_8f pkc_0 pkc_1 pkc_2 pkc_3 pkc_4 pkc_0f pkc_1f pkc_2f pkc_3f pkc_4f pkd_0 pkd_1 pkd_0f pkd_1f
         generalize (w4.setCell ⟨gd, 0, none⟩ (.int .i64 D.length)).setCell ⟨gd, 1, none⟩ (.slice A4 n4 c4) = u3 at *
         have hdr : Below u3.heap.size u3 u3.drew := (Below.refl _ _).drew
         replace kb := kb.on hdr; replace kp := kp.on hdr; replace ks := ks.on hdr; replace kr := kr.on hdr; replace kc := kc.on hdr; replace kd := kd.on hdr; replace v4 := v4.on hdr; replace bc := bc.trans (hdr.mono bc.size)
         clear hdr
         obtain ⟨pkb_0, pkb_1, pkb_0f, pkb_1f⟩ := kb.two
         obtain ⟨⟨pkc_0, pkc_1, pkc_2, pkc_3, pkc_4⟩, pkc_0f, pkc_1f, pkc_2f, pkc_3f, pkc_4f⟩ := kc.five
         obtain ⟨pkd_0, pkd_1, pkd_0f, pkd_1f⟩ := kd.two
         obtain ⟨bs, hbn, hbi, -, hby⟩ := v4
         have hbb := isBits_bytes hbi (by have := HDL.out; omega)
         have hbl : n4 ≤ 65536 := by have := HDL.out; have := bytesL_length D; rw [hbn, hbb]; omega
         have HBN := Lib.hid hbn; have HBB := Lib.hid hbb; clear hbn hbb hbi
         go_region_held3 (fun w' => w'.cell? ⟨w.heap.size, 0, none⟩ = some (.int .i64 L.length) ∧ w'.cell? ⟨w.heap.size, 1, none⟩ = some (.slice A n c) ∧ w'.cell? ⟨g2, 0, none⟩ = some (.int .i64 C0) ∧ w'.cell? ⟨g2, 1, none⟩ = some (.int .i64 C1) ∧ w'.cell? ⟨g2, 2, none⟩ = some (.int .i64 C2) ∧ w'.cell? ⟨g2, 3, none⟩ = some (.int .i64 C3) ∧ w'.cell? ⟨g2, 4, none⟩ = some (.int .i64 C4) ∧ w'.cell? ⟨gd, 0, none⟩ = some (.int .i64 D.length) ∧ w'.cell? ⟨gd, 1, none⟩ = some (.slice A4 n4 c4)) (first | exact ⟨zkb_0, zkb_1, zkc_0, zkc_1, zkc_2, zkc_3, zkc_4, zkd_0, zkd_1⟩ | exact ⟨qkb_0, qkb_1, qkc_0, qkc_1, qkc_2, qkc_3, qkc_4, qkd_0, qkd_1⟩ | exact ⟨pkb_0, pkb_1, pkc_0, pkc_1, pkc_2, pkc_3, pkc_4, pkd_0, pkd_1⟩) (first | (have _ := hnum; go_at_call 64; refine (own_any A4 n4 c4 bs _ HBN.out hbl hby).mono ?_; rintro e w6 ⟨A6, c6, rfl, y6, hC⟩; dsimp only at y6 ⊢; replace kb := kb.on hC; replace kp := kp.on hC; replace ks := ks.on hC; replace kr := kr.on hC; replace kc := kc.on hC; replace kd := kd.on hC; replace hby := hby.on hC; replace bc := bc.trans (hC.mono bc.size); clear hC; clear pkb_0 pkb_1 pkb_0f pkb_1f pkc_0 pkc_1 pkc_2 pkc_3 pkc_4 pkc_0f pkc_1f pkc_2f pkc_3f pkc_4f pkd_0 pkd_1 pkd_0f pkd_1f; obtain ⟨pkb_0, pkb_1, pkb_0f, pkb_1f⟩ := kb.two; obtain ⟨⟨pkc_0, pkc_1, pkc_2, pkc_3, pkc_4⟩, pkc_0f, pkc_1f, pkc_2f, pkc_3f, pkc_4f⟩ := kc.five; obtain ⟨pkd_0, pkd_1, pkd_0f, pkd_1f⟩ := kd.two; have hst := run_storeVar_row (P := Tryd.prog) w6 (w.heap.size + 1 + 1 + 1) 26 26 _ #[.int .i64 4, .int .i64 v, .int .i64 C0, .int .i64 C1, .int .i64 C2, .int .i64 C3, .int .i64 C4, .int .i64 0, .slice A6 n4 c6] kr info26 rfl (by simp [Value.oneCell']); simp [go_sem] at hst; have hG := only_setRow w6 (w.heap.size + 1 + 1 + 1) #[.int .i64 4, .int .i64 v, .int .i64 C0, .int .i64 C1, .int .i64 C2, .int .i64 C3, .int .i64 C4, .int .i64 0, .slice A6 n4 c6]; replace kb := kb.grown hG (some_ne (by omega)); replace kp := kp.grown hG (some_ne (by omega)); replace ks := ks.grown hG (some_ne (by omega)); replace kc := kc.grown hG (some_ne (by omega)); replace kd := kd.grown hG (some_ne (by omega)); replace hby := hby.off kr (no_u8_9 _ _ _ _ _ _ _ _ _ _ _) hG; replace y6 := y6.off kr (no_u8_9 _ _ _ _ _ _ _ _ _ _ _) hG; replace bc := Below.off bc bc.size (by omega) hG; replace kr := Blk.row kr #[.int .i64 4, .int .i64 v, .int .i64 C0, .int .i64 C1, .int .i64 C2, .int .i64 C3, .int .i64 C4, .int .i64 0, .slice A6 n4 c6]; clear hG; obtain ⟨zkb_0, zkb_1, zkb_0f, zkb_1f⟩ := kb.two; obtain ⟨⟨zkc_0, zkc_1, zkc_2, zkc_3, zkc_4⟩, zkc_0f, zkc_1f, zkc_2f, zkc_3f, zkc_4f⟩ := kc.five; obtain ⟨zkd_0, zkd_1, zkd_0f, zkd_1f⟩ := kd.two) | (have _ := y6; go_at_call 45; refine (HR.out _ bc).mono ?_; rintro e w5 ⟨rfl, hC⟩; dsimp only; replace kb := kb.on hC; replace kp := kp.on hC; replace ks := ks.on hC; replace kr := kr.on hC; replace kc := kc.on hC; replace kd := kd.on hC; replace hby := hby.on hC; replace y6 := y6.on hC; replace bc := bc.trans (hC.mono bc.size); clear hC; clear pkb_0 pkb_1 pkb_0f pkb_1f pkc_0 pkc_1 pkc_2 pkc_3 pkc_4 pkc_0f pkc_1f pkc_2f pkc_3f pkc_4f pkd_0 pkd_1 pkd_0f pkd_1f; obtain ⟨pkb_0, pkb_1, pkb_0f, pkb_1f⟩ := kb.two; obtain ⟨⟨pkc_0, pkc_1, pkc_2, pkc_3, pkc_4⟩, pkc_0f, pkc_1f, pkc_2f, pkc_3f, pkc_4f⟩ := kc.five; obtain ⟨pkd_0, pkd_1, pkd_0f, pkd_1f⟩ := kd.two; have hst := run_storeVar_row (P := Tryd.prog) w5 (w.heap.size + 1 + 1 + 1) 26 26 _ #[.int .i64 4, .int .i64 v, .int .i64 C0, .int .i64 C1, .int .i64 C2, .int .i64 C3, .int .i64 C4, .int .i64 0, .slice A6 n4 c6] kr info26 rfl (by simp [Value.oneCell']); simp [go_sem] at hst; have hG := only_setRow w5 (w.heap.size + 1 + 1 + 1) #[.int .i64 4, .int .i64 v, .int .i64 C0, .int .i64 C1, .int .i64 C2, .int .i64 C3, .int .i64 C4, .int .i64 0, .slice A6 n4 c6]; replace kb := kb.grown hG (some_ne (by omega)); replace kp := kp.grown hG (some_ne (by omega)); replace ks := ks.grown hG (some_ne (by omega)); replace kc := kc.grown hG (some_ne (by omega)); replace kd := kd.grown hG (some_ne (by omega)); replace hby := hby.off kr (no_u8_9 _ _ _ _ _ _ _ _ _ _ _) hG; replace y6 := y6.off kr (no_u8_9 _ _ _ _ _ _ _ _ _ _ _) hG; replace bc := Below.off bc bc.size (by omega) hG; replace kr := Blk.row kr #[.int .i64 4, .int .i64 v, .int .i64 C0, .int .i64 C1, .int .i64 C2, .int .i64 C3, .int .i64 C4, .int .i64 0, .slice A6 n4 c6]; clear hG; obtain ⟨zkb_0, zkb_1, zkb_0f, zkb_1f⟩ := kb.two; obtain ⟨⟨zkc_0, zkc_1, zkc_2, zkc_3, zkc_4⟩, zkc_0f, zkc_1f, zkc_2f, zkc_3f, zkc_4f⟩ := kc.five; obtain ⟨zkd_0, zkd_1, zkd_0f, zkd_1f⟩ := kd.two) | (go_at_call 45; refine (HR.out _ bc).mono ?_; rintro e w5 ⟨rfl, hC⟩; dsimp only; replace kb := kb.on hC; replace kp := kp.on hC; replace ks := ks.on hC; replace kr := kr.on hC; replace kc := kc.on hC; replace kd := kd.on hC; replace hby := hby.on hC; replace bc := bc.trans (hC.mono bc.size); clear hC; have hnum := 0; clear pkb_0 pkb_1 pkb_0f pkb_1f pkc_0 pkc_1 pkc_2 pkc_3 pkc_4 pkc_0f pkc_1f pkc_2f pkc_3f pkc_4f pkd_0 pkd_1 pkd_0f pkd_1f; obtain ⟨pkb_0, pkb_1, pkb_0f, pkb_1f⟩ := kb.two; obtain ⟨⟨pkc_0, pkc_1, pkc_2, pkc_3, pkc_4⟩, pkc_0f, pkc_1f, pkc_2f, pkc_3f, pkc_4f⟩ := kc.five; obtain ⟨pkd_0, pkd_1, pkd_0f, pkd_1f⟩ := kd.two) | (go_at_call 64; refine (own_any A4 n4 c4 bs _ HBN.out hbl hby).mono ?_; rintro e w6 ⟨A6, c6, rfl, y6, hC⟩; dsimp only at y6 ⊢; replace kb := kb.on hC; replace kp := kp.on hC; replace ks := ks.on hC; replace kr := kr.on hC; replace kc := kc.on hC; replace kd := kd.on hC; replace hby := hby.on hC; replace bc := bc.trans (hC.mono bc.size); clear hC; clear pkb_0 pkb_1 pkb_0f pkb_1f pkc_0 pkc_1 pkc_2 pkc_3 pkc_4 pkc_0f pkc_1f pkc_2f pkc_3f pkc_4f pkd_0 pkd_1 pkd_0f pkd_1f; obtain ⟨pkb_0, pkb_1, pkb_0f, pkb_1f⟩ := kb.two; obtain ⟨⟨pkc_0, pkc_1, pkc_2, pkc_3, pkc_4⟩, pkc_0f, pkc_1f, pkc_2f, pkc_3f, pkc_4f⟩ := kc.five; obtain ⟨pkd_0, pkd_1, pkd_0f, pkd_1f⟩ := kd.two))
         all_goals
           go_wp2
           obtain ⟨xkr_0, xkr_1, xkr_2, xkr_3, xkr_4, xkr_5, xkr_6, xkr_7, xkr_8⟩ := kr.nine
           obtain ⟨xkr_0f, xkr_1f, xkr_2f, xkr_3f, xkr_4f, xkr_5f, xkr_6f, xkr_7f, xkr_8f⟩ := kr.nineF
           refine bodyPost_ret (v := .tuple #[.agg #[.int .i64 4, .int .i64 v, .int .i64 C0, .int .i64 C1, .int .i64 C2, .int .i64 C3, .int .i64 C4, .int .i64 0, .slice A6 n4 c6], .bool true]) (by simp [results, Tryd.results48, go_sem, xkr_0, xkr_1, xkr_2, xkr_3, xkr_4, xkr_5, xkr_6, xkr_7, xkr_8]) rfl ⟨A6, n4, c6, rfl, ?_, ?_, bc⟩
           · rw [HBN.out, HBB.out]
           · rw [← HBB.out]; exact y6)
  · simp only [if_neg hm] at hpar ⊢
    have HR := Lib.hid hreq; have HP := Lib.hid hpar; have HD := Lib.hid hdc; have HS := Lib.hid hsl; have HDL := Lib.hid hDl; clear hreq hpar hdc hsl hDl h hS hSl hl hq hqd
    clear hm
    obtain ⟨kb, kp, ks, kr, bc⟩ := bx4 w #[.int .i64 L.length, .slice A n c] #[.int .i64 3, .int .i64 2, .int .i64 24, .int .i64 24, .int .i64 8] #[.int .i64 S.length, .slice B m d] #[.int .i64 0, .int .i64 0, .int .i64 0, .int .i64 0, .int .i64 0, .int .i64 0, .int .i64 0, .int .i64 0, .slice none 0 0] 28 51 28 26
    go_enter Tryd.func48, Tryd.ntmps48
    go_wp2_with fail
    generalize (((w.alloc (.cells #[.int .i64 L.length, .slice A n c] 28)).alloc (.cells #[.int .i64 3, .int .i64 2, .int .i64 24, .int .i64 24, .int .i64 8] 51)).alloc (.cells #[.int .i64 S.length, .slice B m d] 28)).alloc (.cells #[.int .i64 0, .int .i64 0, .int .i64 0, .int .i64 0, .int .i64 0, .int .i64 0, .int .i64 0, .int .i64 0, .slice none 0 0] 26) = u1 at *
    refine (HP.out _ bc).mono ?_
    rintro e w1 ⟨rfl, hC⟩
    dsimp only
    replace kb := kb.on hC; replace kp := kp.on hC; replace ks := ks.on hC; replace kr := kr.on hC; replace bc := bc.trans (hC.mono bc.size); clear hC
    unfold zeroC
    have z_kc_kb := kb.lt
    have z_kc_kp := kp.lt
    have z_kc_ks := ks.lt
    have z_kc_kr := kr.lt
    have zb_kc := bc.size
    have kc := Blk.new w1 23 #[.int .i64 0, .int .i64 0, .int .i64 0, .int .i64 0, .int .i64 0]
    have al := Below.al w1 (.cells #[.int .i64 0, .int .i64 0, .int .i64 0, .int .i64 0, .int .i64 0] 23)
    replace kb := kb.on al; replace kp := kp.on al; replace ks := ks.on al; replace kr := kr.on al; replace bc := bc.trans (al.mono bc.size); clear al
    have hst := run_storeVar_row (P := Tryd.prog) (w1.alloc (.cells #[.int .i64 0, .int .i64 0, .int .i64 0, .int .i64 0, .int .i64 0] 23)) (w.heap.size + 1 + 1 + 1) 26 26 _ #[.int .i64 0, .int .i64 0, .int .i64 0, .int .i64 0, .int .i64 0, .int .i64 0, .int .i64 0, .int .i64 0, .slice none 0 0] kr info26 rfl (by simp [Value.oneCell'])
    simp [go_sem, z_kc_kr] at hst
    have hG := only_setRow (w1.alloc (.cells #[.int .i64 0, .int .i64 0, .int .i64 0, .int .i64 0, .int .i64 0] 23)) (w.heap.size + 1 + 1 + 1) #[.int .i64 0, .int .i64 0, .int .i64 0, .int .i64 0, .int .i64 0, .int .i64 0, .int .i64 0, .int .i64 0, .slice none 0 0]
    replace kb := kb.grown hG (some_ne (by omega)); replace kp := kp.grown hG (some_ne (by omega)); replace ks := ks.grown hG (some_ne (by omega)); replace kc := kc.grown hG (some_ne (by omega)); replace bc := Below.off bc bc.size (by omega) hG; replace kr := Blk.row kr #[.int .i64 0, .int .i64 0, .int .i64 0, .int .i64 0, .int .i64 0, .int .i64 0, .int .i64 0, .int .i64 0, .slice none 0 0]; clear hG
    go_wp2
    obtain ⟨xkr_0, xkr_1, xkr_2, xkr_3, xkr_4, xkr_5, xkr_6, xkr_7, xkr_8⟩ := kr.nine
    obtain ⟨xkr_0f, xkr_1f, xkr_2f, xkr_3f, xkr_4f, xkr_5f, xkr_6f, xkr_7f, xkr_8f⟩ := kr.nineF
    exact bodyPost_ret (v := .tuple #[.agg #[.int .i64 0, .int .i64 0, .int .i64 0, .int .i64 0, .int .i64 0, .int .i64 0, .int .i64 0, .int .i64 0, .slice none 0 0], .bool false]) (by simp [results, Tryd.results48, go_sem, xkr_0, xkr_1, xkr_2, xkr_3, xkr_4, xkr_5, xkr_6, xkr_7, xkr_8]) rfl ⟨none, 0, 0, rfl, rfl, Byt.none _, bc⟩
end Go.Proofs.YtcfbeelljhjnoaaDoor
