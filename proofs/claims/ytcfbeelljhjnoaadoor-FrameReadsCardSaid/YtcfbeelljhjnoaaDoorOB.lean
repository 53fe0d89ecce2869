/-
  The document's cold and stated: the FrCold of bits, and the frame of bits in which the state stands. Conditions: that the bits can be read and are as long as a frame of their Kind.
-/
import Derived.Test.YtcfbeelljhjnoaaDoorOA
namespace Go.Proofs.YtcfbeelljhjnoaaDoor
open Go.RowKit

theorem front_drop (L : List Bool) (a W : Nat) (h : a + W ≤ L.length - 24) : ((frontOf L).drop a).take W = (L.drop a).take W := by
  unfold frontOf; rw [List.drop_take, List.take_take, Nat.min_eq_left (by omega)]
theorem front_len (L : List Bool) : (frontOf L).length = L.length - 24 := by unfold frontOf; rw [List.length_take]; omega
theorem rget_none {w : World} {Q : List Bool} {B : Option Addr} {m : Nat} (hQ : Q.length < 1) (hv : Bv w Q B m) (d : Nat) (a W : Int) (hW : 1 ≤ W ∧ W ≤ 24) (ha : 0 ≤ a) :
    Calls Tryd.prog 50 #[.agg #[.int .i64 Q.length, .slice B m d], .int .i64 a, .int .i64 W] w fun e w' => e = .returned (.int .i64 0) ∧ Below w.heap.size w w' := by
  obtain ⟨bs, i1, i2, i3, i4, i5, i6, i7⟩ := hv.parts
  have h := rnumber_any Q.length a W B m d bs w i1 i2 i5 hW.2
  have e : (getS Q.length bs a W).2 = 0 := by
    unfold getS
    rw [if_pos i6, if_neg (by omega)]
  rw [e] at h
  exact h
set_option maxRecDepth 8000 in
set_option maxHeartbeats 4000000 in
theorem rcold_at {w : World} {L : List Bool} {A : Option Addr} {n : Nat} (h : Bv w L A n) (c : Nat) (hl : L.length = 40) :
    Calls Tryd.prog 53 #[.agg #[.int .i64 L.length, .slice A n c]] w fun e w' => ∃ (er t v : Int), e = .returned (.tuple #[.agg #[.int .i64 1, .int .i64 0, .int .i64 t, .int .i64 0, .int .i64 0, .int .i64 0, .int .i64 0, .int .i64 v, .slice none 0 0], .int .i64 er]) ∧ (rem 0 L = 0 → er = 0 ∧ t = numOf ((L.drop 5).take 8) ∧ v = numOf ((L.drop 2).take 3)) ∧ (rem 0 L ≠ 0 → er = 21) ∧ Below w.heap.size w w' := by
  have ho := fun (W : World) (hb : Below w.heap.size w W) => ropen_list (h.on hb) (Bv.nil W) c 0 (M := 0) rfl rfl (by omega)
  rw [List.nil_append] at ho
  have hf := front_len L
  have e1 := front_drop L 5 8 (by omega); have e2 := front_drop L 2 3 (by omega)
  rw [← e1, ← e2]
  generalize frontOf L = P at *
  by_cases hr : rem 0 L = 0
  · simp only [if_pos hr] at ho
    obtain ⟨Q, hQ⟩ : ∃ Q, Q = P := ⟨_, rfl⟩
    rw [← hQ] at ho hf ⊢
    clear hQ
    have h2 := fun (W : World) (B : Option Addr) (m d : Nat) (hv : Bv W Q B m) => rnumber_list hv d (N := Q.length) (ai := 2) (Wi := 3) (a := 2) (W := 3) rfl rfl rfl (by decide) (by omega)
    have h3 := fun (W : World) (B : Option Addr) (m d : Nat) (hv : Bv W Q B m) => rnumber_list hv d (N := Q.length) (ai := 5) (Wi := 8) (a := 5) (W := 8) rfl rfl rfl (by decide) (by omega)
    obtain ⟨v, hvv⟩ : ∃ v : Int, v = numOf ((Q.drop 2).take 3) := ⟨_, rfl⟩
    obtain ⟨t, htt⟩ : ∃ t : Int, t = numOf ((Q.drop 5).take 8) := ⟨_, rfl⟩
    rw [← hvv] at h2
    rw [← htt] at h3
    have HVV := Lib.hid hvv; have HT := Lib.hid htt; have HR := Lib.hid hr; clear hvv htt hr
    have HO := Lib.hid ho; have H2 := Lib.hid h2; have H3 := Lib.hid h3; clear ho h2 h3 e1 e2 hf hl h
    obtain ⟨kb, kr, bc⟩ := bx2 w #[.int .i64 L.length, .slice A n c] #[.int .i64 0, .int .i64 0, .int .i64 0, .int .i64 0, .int .i64 0, .int .i64 0, .int .i64 0, .int .i64 0, .slice none 0 0] 28 26
    go_enter Tryd.func53, Tryd.ntmps53
    go_wp2_with fail
    generalize (w.alloc (.cells #[.int .i64 L.length, .slice A n c] 28)).alloc (.cells #[.int .i64 0, .int .i64 0, .int .i64 0, .int .i64 0, .int .i64 0, .int .i64 0, .int .i64 0, .int .i64 0, .slice none 0 0] 26) = u1 at *
    refine (HO.out _ bc).mono ?_
    rintro e w2 ⟨A2, n2, c2, rfl, v2, hC⟩
    dsimp only at v2 ⊢
    replace kb := kb.on hC; replace kr := kr.on hC; replace bc := bc.trans (hC.mono bc.size); clear hC
    have z_kp_kb := kb.lt
    have z_kp_kr := kr.lt
    have zb_kp := bc.size
    have kp := Blk.new w2 28 #[.int .i64 Q.length, .slice A2 n2 c2]
    have al := Below.al w2 (.cells #[.int .i64 Q.length, .slice A2 n2 c2] 28)
    replace kb := kb.on al; replace kr := kr.on al; replace v2 := v2.on al; replace bc := bc.trans (al.mono bc.size); clear al
    obtain ⟨pkb_0, pkb_1, pkb_0f, pkb_1f⟩ := kb.two
    obtain ⟨pkr_0, pkr_1, pkr_2, pkr_3, pkr_4, pkr_5, pkr_6, pkr_7, pkr_8⟩ := kr.nine
    obtain ⟨pkr_0f, pkr_1f, pkr_2f, pkr_3f, pkr_4f, pkr_5f, pkr_6f, pkr_7f, pkr_8f⟩ := kr.nineF
    obtain ⟨pkp_0, pkp_1, pkp_0f, pkp_1f⟩ := kp.two
    go_wp2_with fail
    clear pkb_0 pkb_1 pkb_0f pkb_1f pkr_0 pkr_1 pkr_2 pkr_3 pkr_4 pkr_5 pkr_6 pkr_7 pkr_8 pkr_0f pkr_1f pkr_2f pkr_3f pkr_4f pkr_5f pkr_6f pkr_7f pkr_8f pkp_0 pkp_1 pkp_0f pkp_1f
    generalize w2.alloc (.cells #[.int .i64 Q.length, .slice A2 n2 c2] 28) = u2 at *
    generalize w2.heap.size = g2 at *
    have hdr : Below u2.heap.size u2 u2.drew := (Below.refl _ _).drew
    replace kb := kb.on hdr; replace kr := kr.on hdr; replace kp := kp.on hdr; replace v2 := v2.on hdr; replace bc := bc.trans (hdr.mono bc.size)
    clear hdr
    obtain ⟨pkp_0, pkp_1, pkp_0f, pkp_1f⟩ := kp.two
    go_region_held3 (fun w' => w'.cell? ⟨g2, 0, none⟩ = some (.int .i64 Q.length) ∧ w'.cell? ⟨g2, 1, none⟩ = some (.slice A2 n2 c2)) (first | exact ⟨zkp_0, zkp_1⟩ | exact ⟨qkp_0, qkp_1⟩ | exact ⟨pkp_0, pkp_1⟩) (first | (have _ := hone; go_at_call 50; refine (H3.out _ A2 n2 c2 v2).mono ?_; rintro e w4 ⟨rfl, hC⟩; dsimp only; replace kb := kb.on hC; replace kr := kr.on hC; replace kp := kp.on hC; replace v2 := v2.on hC; replace bc := bc.trans (hC.mono bc.size); clear hC; clear pkp_0 pkp_1 pkp_0f pkp_1f; obtain ⟨pkp_0, pkp_1, pkp_0f, pkp_1f⟩ := kp.two; have hst := run_storeVar_row (P := Tryd.prog) w4 (w.heap.size + 1) 26 26 _ #[.int .i64 1, .int .i64 0, .int .i64 t, .int .i64 0, .int .i64 0, .int .i64 0, .int .i64 0, .int .i64 v, .slice none 0 0] kr info26 rfl (by simp [Value.oneCell']); simp [go_sem] at hst; have hG := only_setRow w4 (w.heap.size + 1) #[.int .i64 1, .int .i64 0, .int .i64 t, .int .i64 0, .int .i64 0, .int .i64 0, .int .i64 0, .int .i64 v, .slice none 0 0]; replace kb := kb.grown hG (some_ne (by omega)); replace kp := kp.grown hG (some_ne (by omega)); replace v2 := v2.off kr (no_u8_9 _ _ _ _ _ _ _ _ _ _ _) hG; replace bc := Below.off bc bc.size (by omega) hG; replace kr := Blk.row kr #[.int .i64 1, .int .i64 0, .int .i64 t, .int .i64 0, .int .i64 0, .int .i64 0, .int .i64 0, .int .i64 v, .slice none 0 0]; clear hG; obtain ⟨zkp_0, zkp_1, zkp_0f, zkp_1f⟩ := kp.two) | (have _ := htwo; go_at_call 50; refine (H2.out _ A2 n2 c2 v2).mono ?_; rintro e w3 ⟨rfl, hC⟩; dsimp only; replace kb := kb.on hC; replace kr := kr.on hC; replace kp := kp.on hC; replace v2 := v2.on hC; replace bc := bc.trans (hC.mono bc.size); clear hC; clear pkp_0 pkp_1 pkp_0f pkp_1f; obtain ⟨pkp_0, pkp_1, pkp_0f, pkp_1f⟩ := kp.two; have hst := run_storeVar_row (P := Tryd.prog) w3 (w.heap.size + 1) 26 26 _ #[.int .i64 1, .int .i64 0, .int .i64 t, .int .i64 0, .int .i64 0, .int .i64 0, .int .i64 0, .int .i64 v, .slice none 0 0] kr info26 rfl (by simp [Value.oneCell']); simp [go_sem] at hst; have hG := only_setRow w3 (w.heap.size + 1) #[.int .i64 1, .int .i64 0, .int .i64 t, .int .i64 0, .int .i64 0, .int .i64 0, .int .i64 0, .int .i64 v, .slice none 0 0]; replace kb := kb.grown hG (some_ne (by omega)); replace kp := kp.grown hG (some_ne (by omega)); replace v2 := v2.off kr (no_u8_9 _ _ _ _ _ _ _ _ _ _ _) hG; replace bc := Below.off bc bc.size (by omega) hG; replace kr := Blk.row kr #[.int .i64 1, .int .i64 0, .int .i64 t, .int .i64 0, .int .i64 0, .int .i64 0, .int .i64 0, .int .i64 v, .slice none 0 0]; clear hG; obtain ⟨zkp_0, zkp_1, zkp_0f, zkp_1f⟩ := kp.two) | (go_at_call 50; refine (H2.out _ A2 n2 c2 v2).mono ?_; rintro e w3 ⟨rfl, hC⟩; dsimp only; replace kb := kb.on hC; replace kr := kr.on hC; replace kp := kp.on hC; replace v2 := v2.on hC; replace bc := bc.trans (hC.mono bc.size); clear hC; have hone := 0; clear pkp_0 pkp_1 pkp_0f pkp_1f; obtain ⟨pkp_0, pkp_1, pkp_0f, pkp_1f⟩ := kp.two) | (go_at_call 50; refine (H3.out _ A2 n2 c2 v2).mono ?_; rintro e w4 ⟨rfl, hC⟩; dsimp only; replace kb := kb.on hC; replace kr := kr.on hC; replace kp := kp.on hC; replace v2 := v2.on hC; replace bc := bc.trans (hC.mono bc.size); clear hC; have htwo := 0; clear pkp_0 pkp_1 pkp_0f pkp_1f; obtain ⟨pkp_0, pkp_1, pkp_0f, pkp_1f⟩ := kp.two))
    all_goals
      go_wp2
      obtain ⟨xkr_0, xkr_1, xkr_2, xkr_3, xkr_4, xkr_5, xkr_6, xkr_7, xkr_8⟩ := kr.nine
      obtain ⟨xkr_0f, xkr_1f, xkr_2f, xkr_3f, xkr_4f, xkr_5f, xkr_6f, xkr_7f, xkr_8f⟩ := kr.nineF
      exact bodyPost_ret (v := .tuple #[.agg #[.int .i64 1, .int .i64 0, .int .i64 t, .int .i64 0, .int .i64 0, .int .i64 0, .int .i64 0, .int .i64 v, .slice none 0 0], .int .i64 0]) (by simp [results, Tryd.results53, go_sem, xkr_0, xkr_1, xkr_2, xkr_3, xkr_4, xkr_5, xkr_6, xkr_7, xkr_8]) rfl ⟨0, _, _, rfl, (fun _ => ⟨rfl, HT.out, HVV.out⟩), (fun h => absurd HR.out h), bc⟩
  · simp only [if_neg hr] at ho
    obtain ⟨Q, hQ⟩ : ∃ Q : List Bool, Q = [] := ⟨_, rfl⟩
    rw [← hQ] at ho
    have h2 := fun (W : World) (B : Option Addr) (m d : Nat) (hv : Bv W Q B m) => rget_none (by rw [hQ]; decide) hv d 2 3 (by decide) (by decide)
    have h3 := fun (W : World) (B : Option Addr) (m d : Nat) (hv : Bv W Q B m) => rget_none (by rw [hQ]; decide) hv d 5 8 (by decide) (by decide)
    obtain ⟨v, hvv⟩ : ∃ v : Int, v = 0 := ⟨_, rfl⟩
    obtain ⟨t, htt⟩ : ∃ t : Int, t = 0 := ⟨_, rfl⟩
    rw [← hvv] at h2
    rw [← htt] at h3
    have HR := Lib.hid hr; clear hvv htt hr hQ
    have HO := Lib.hid ho; have H2 := Lib.hid h2; have H3 := Lib.hid h3; clear ho h2 h3 e1 e2 hf hl h
    obtain ⟨kb, kr, bc⟩ := bx2 w #[.int .i64 L.length, .slice A n c] #[.int .i64 0, .int .i64 0, .int .i64 0, .int .i64 0, .int .i64 0, .int .i64 0, .int .i64 0, .int .i64 0, .slice none 0 0] 28 26
    go_enter Tryd.func53, Tryd.ntmps53
    go_wp2_with fail
    generalize (w.alloc (.cells #[.int .i64 L.length, .slice A n c] 28)).alloc (.cells #[.int .i64 0, .int .i64 0, .int .i64 0, .int .i64 0, .int .i64 0, .int .i64 0, .int .i64 0, .int .i64 0, .slice none 0 0] 26) = u1 at *
    refine (HO.out _ bc).mono ?_
    rintro e w2 ⟨A2, n2, c2, rfl, v2, hC⟩
    dsimp only at v2 ⊢
    replace kb := kb.on hC; replace kr := kr.on hC; replace bc := bc.trans (hC.mono bc.size); clear hC
    have z_kp_kb := kb.lt
    have z_kp_kr := kr.lt
    have zb_kp := bc.size
    have kp := Blk.new w2 28 #[.int .i64 Q.length, .slice A2 n2 c2]
    have al := Below.al w2 (.cells #[.int .i64 Q.length, .slice A2 n2 c2] 28)
    replace kb := kb.on al; replace kr := kr.on al; replace v2 := v2.on al; replace bc := bc.trans (al.mono bc.size); clear al
    obtain ⟨pkb_0, pkb_1, pkb_0f, pkb_1f⟩ := kb.two
    obtain ⟨pkr_0, pkr_1, pkr_2, pkr_3, pkr_4, pkr_5, pkr_6, pkr_7, pkr_8⟩ := kr.nine
    obtain ⟨pkr_0f, pkr_1f, pkr_2f, pkr_3f, pkr_4f, pkr_5f, pkr_6f, pkr_7f, pkr_8f⟩ := kr.nineF
    obtain ⟨pkp_0, pkp_1, pkp_0f, pkp_1f⟩ := kp.two
    go_wp2_with fail
    clear pkb_0 pkb_1 pkb_0f pkb_1f pkr_0 pkr_1 pkr_2 pkr_3 pkr_4 pkr_5 pkr_6 pkr_7 pkr_8 pkr_0f pkr_1f pkr_2f pkr_3f pkr_4f pkr_5f pkr_6f pkr_7f pkr_8f pkp_0 pkp_1 pkp_0f pkp_1f
    generalize w2.alloc (.cells #[.int .i64 Q.length, .slice A2 n2 c2] 28) = u2 at *
    generalize w2.heap.size = g2 at *
    have hdr : Below u2.heap.size u2 u2.drew := (Below.refl _ _).drew
    replace kb := kb.on hdr; replace kr := kr.on hdr; replace kp := kp.on hdr; replace v2 := v2.on hdr; replace bc := bc.trans (hdr.mono bc.size)
    clear hdr
    obtain ⟨pkp_0, pkp_1, pkp_0f, pkp_1f⟩ := kp.two
    go_region_held3 (fun w' => w'.cell? ⟨g2, 0, none⟩ = some (.int .i64 Q.length) ∧ w'.cell? ⟨g2, 1, none⟩ = some (.slice A2 n2 c2)) (first | exact ⟨zkp_0, zkp_1⟩ | exact ⟨qkp_0, qkp_1⟩ | exact ⟨pkp_0, pkp_1⟩) (first | (have _ := hone; go_at_call 50; refine (H3.out _ A2 n2 c2 v2).mono ?_; rintro e w4 ⟨rfl, hC⟩; dsimp only; replace kb := kb.on hC; replace kr := kr.on hC; replace kp := kp.on hC; replace v2 := v2.on hC; replace bc := bc.trans (hC.mono bc.size); clear hC; clear pkp_0 pkp_1 pkp_0f pkp_1f; obtain ⟨pkp_0, pkp_1, pkp_0f, pkp_1f⟩ := kp.two; have hst := run_storeVar_row (P := Tryd.prog) w4 (w.heap.size + 1) 26 26 _ #[.int .i64 1, .int .i64 0, .int .i64 t, .int .i64 0, .int .i64 0, .int .i64 0, .int .i64 0, .int .i64 v, .slice none 0 0] kr info26 rfl (by simp [Value.oneCell']); simp [go_sem] at hst; have hG := only_setRow w4 (w.heap.size + 1) #[.int .i64 1, .int .i64 0, .int .i64 t, .int .i64 0, .int .i64 0, .int .i64 0, .int .i64 0, .int .i64 v, .slice none 0 0]; replace kb := kb.grown hG (some_ne (by omega)); replace kp := kp.grown hG (some_ne (by omega)); replace v2 := v2.off kr (no_u8_9 _ _ _ _ _ _ _ _ _ _ _) hG; replace bc := Below.off bc bc.size (by omega) hG; replace kr := Blk.row kr #[.int .i64 1, .int .i64 0, .int .i64 t, .int .i64 0, .int .i64 0, .int .i64 0, .int .i64 0, .int .i64 v, .slice none 0 0]; clear hG; obtain ⟨zkp_0, zkp_1, zkp_0f, zkp_1f⟩ := kp.two) | (have _ := htwo; go_at_call 50; refine (H2.out _ A2 n2 c2 v2).mono ?_; rintro e w3 ⟨rfl, hC⟩; dsimp only; replace kb := kb.on hC; replace kr := kr.on hC; replace kp := kp.on hC; replace v2 := v2.on hC; replace bc := bc.trans (hC.mono bc.size); clear hC; clear pkp_0 pkp_1 pkp_0f pkp_1f; obtain ⟨pkp_0, pkp_1, pkp_0f, pkp_1f⟩ := kp.two; have hst := run_storeVar_row (P := Tryd.prog) w3 (w.heap.size + 1) 26 26 _ #[.int .i64 1, .int .i64 0, .int .i64 t, .int .i64 0, .int .i64 0, .int .i64 0, .int .i64 0, .int .i64 v, .slice none 0 0] kr info26 rfl (by simp [Value.oneCell']); simp [go_sem] at hst; have hG := only_setRow w3 (w.heap.size + 1) #[.int .i64 1, .int .i64 0, .int .i64 t, .int .i64 0, .int .i64 0, .int .i64 0, .int .i64 0, .int .i64 v, .slice none 0 0]; replace kb := kb.grown hG (some_ne (by omega)); replace kp := kp.grown hG (some_ne (by omega)); replace v2 := v2.off kr (no_u8_9 _ _ _ _ _ _ _ _ _ _ _) hG; replace bc := Below.off bc bc.size (by omega) hG; replace kr := Blk.row kr #[.int .i64 1, .int .i64 0, .int .i64 t, .int .i64 0, .int .i64 0, .int .i64 0, .int .i64 0, .int .i64 v, .slice none 0 0]; clear hG; obtain ⟨zkp_0, zkp_1, zkp_0f, zkp_1f⟩ := kp.two) | (go_at_call 50; refine (H2.out _ A2 n2 c2 v2).mono ?_; rintro e w3 ⟨rfl, hC⟩; dsimp only; replace kb := kb.on hC; replace kr := kr.on hC; replace kp := kp.on hC; replace v2 := v2.on hC; replace bc := bc.trans (hC.mono bc.size); clear hC; have hone := 0; clear pkp_0 pkp_1 pkp_0f pkp_1f; obtain ⟨pkp_0, pkp_1, pkp_0f, pkp_1f⟩ := kp.two) | (go_at_call 50; refine (H3.out _ A2 n2 c2 v2).mono ?_; rintro e w4 ⟨rfl, hC⟩; dsimp only; replace kb := kb.on hC; replace kr := kr.on hC; replace kp := kp.on hC; replace v2 := v2.on hC; replace bc := bc.trans (hC.mono bc.size); clear hC; have htwo := 0; clear pkp_0 pkp_1 pkp_0f pkp_1f; obtain ⟨pkp_0, pkp_1, pkp_0f, pkp_1f⟩ := kp.two))
    all_goals
      go_wp2
      obtain ⟨xkr_0, xkr_1, xkr_2, xkr_3, xkr_4, xkr_5, xkr_6, xkr_7, xkr_8⟩ := kr.nine
      obtain ⟨xkr_0f, xkr_1f, xkr_2f, xkr_3f, xkr_4f, xkr_5f, xkr_6f, xkr_7f, xkr_8f⟩ := kr.nineF
      exact bodyPost_ret (v := .tuple #[.agg #[.int .i64 1, .int .i64 0, .int .i64 t, .int .i64 0, .int .i64 0, .int .i64 0, .int .i64 0, .int .i64 v, .slice none 0 0], .int .i64 21]) (by simp [results, Tryd.results53, go_sem, xkr_0, xkr_1, xkr_2, xkr_3, xkr_4, xkr_5, xkr_6, xkr_7, xkr_8]) rfl ⟨21, _, _, rfl, (fun h => absurd h HR.out), (fun _ => rfl), bc⟩
end Go.Proofs.YtcfbeelljhjnoaaDoor
