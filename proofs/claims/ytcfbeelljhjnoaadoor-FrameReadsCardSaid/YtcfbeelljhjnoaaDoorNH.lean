/-
  Contracts of kindOf and sumsAreRight of package frame: which Kind bits tell, and whether their sums are right. Conditions: that the bits can be read, and that the program's table holds what its text lays.
-/
import Derived.Test.YtcfbeelljhjnoaaDoorNG
namespace Go.Proofs.YtcfbeelljhjnoaaDoor
open Go.RowKit

set_option maxRecDepth 8000 in
set_option maxHeartbeats 2000000 in
theorem kindOf_list {w : World} {L : List Bool} {A : Option Addr} {n : Nat} (h : Bv w L A n) (c : Nat) {N : Int} (hN : N = (L.length : Int)) :
    Calls Tryd.prog 44 #[.agg #[.int .i64 N, .slice A n c]] w fun e w' => (∃ k : Int, (longF (kindL L) L.length = true → k = (kindL L : Nat)) ∧ e = .returned (.tuple #[.int .i64 k, .bool (longF (kindL L) L.length)])) ∧ Below w.heap.size w w' := by
  have hl4 := h.len
  obtain ⟨kb, bc⟩ := bx1 w #[.int .i64 N, .slice A n c] 28
  by_cases h2 : N < 2
  · have d2 : decide (N < 2) = true := by simpa using h2
    have hz := long_short (kindL L) L.length (by omega)
    rw [hz]
    clear hz hl4 hN h
    go_enter Tryd.func44, Tryd.ntmps44
    go_wp2
    exact bodyPost_ret (v := .tuple #[.int .i64 0, .bool false]) (by simp [results, Tryd.results44, go_sem]) rfl ⟨⟨0, (fun hx => by cases hx), rfl⟩, bc⟩
  · have d2 : decide (N < 2) = false := by simpa using h2
    have hk := kindL_le L
    have hlong := long_iff (kindL L) L.length hk (by omega)
    rw [← hN] at hlong
    have hnum := fun (W : World) (hb : Below w.heap.size w W) => number_list (h.on hb) c (N := N) (ai := 0) (Wi := 2) (a := 0) (W := 2) hN rfl rfl (by decide) (by omega)
    have hkk : (numOf ((L.drop 0).take 2) : Int) + 1 = (kindL L : Nat) := by unfold kindL; rw [List.drop_zero]; omega
    have hdc := fun (W : World) => dataCount_any N (kindL L : Nat) A n c W (by omega)
    have hsz := fun (W : World) => size_any (kindL L : Nat) ((N - sizeF (kindL L : Nat) 0).tdiv 8) W
    generalize kindL L = K at *
    generalize (N - sizeF (K : Nat) 0).tdiv 8 = q at *
    generalize sizeF (K : Nat) q = Z at *
    generalize numOf ((L.drop 0).take 2) = v at *
    have hw1 : IntKind.i64.wrap ((v : Int) + 1) = (K : Nat) := by rw [hkk]; exact IntWalk.i64_in _ (by omega)
    rw [← hlong]
    have HD := Lib.hid hdc; have HS := Lib.hid hsz; have HN := Lib.hid hnum
    clear hdc hsz hnum hlong hk hkk hl4 hN h h2
    go_enter Tryd.func44, Tryd.ntmps44
    go_wp2_with fail
    generalize w.alloc (.cells #[.int .i64 N, .slice A n c] 28) = u1 at *
    refine (HN.out _ bc).mono ?_
    rintro e w1 ⟨rfl, hC⟩
    dsimp only
    replace kb := kb.on hC; replace bc := bc.trans (hC.mono bc.size); clear hC
    obtain ⟨pkb_0, pkb_1, pkb_0f, pkb_1f⟩ := kb.two
    go_wp2_with fail
    clear pkb_0 pkb_1 pkb_0f pkb_1f
    have hdr : Below w1.heap.size w1 w1.drew := (Below.refl _ _).drew
    replace kb := kb.on hdr; replace bc := bc.trans (hdr.mono bc.size)
    clear hdr
    obtain ⟨pkb_0, pkb_1, pkb_0f, pkb_1f⟩ := kb.two
    go_region_law (first | (go_simp; go_at_call 73; refine (HD.out _).mono ?_; rintro e w5 ⟨rfl, hC⟩; dsimp only; replace kb := kb.on hC; replace bc := bc.trans (hC.mono bc.size); clear hC; clear pkb_0 pkb_1 pkb_0f pkb_1f; obtain ⟨pkb_0, pkb_1, pkb_0f, pkb_1f⟩ := kb.two) | (go_simp; go_at_call 13; refine (HS.out _).mono ?_; rintro e w6 ⟨rfl, hC⟩; dsimp only; replace kb := kb.on hC; replace bc := bc.trans (hC.mono bc.size); clear hC; clear pkb_0 pkb_1 pkb_0f pkb_1f; obtain ⟨pkb_0, pkb_1, pkb_0f, pkb_1f⟩ := kb.two))
    all_goals
      go_wp2
      exact bodyPost_ret (v := .tuple #[.int .i64 (K : Nat), .bool (N == Z)]) (by simp [results, Tryd.results44, go_sem]) rfl ⟨⟨_, fun _ => rfl, rfl⟩, bc⟩
set_option maxRecDepth 8000 in
set_option maxHeartbeats 2000000 in
theorem sums_1 {w : World} {L U : List Bool} {A B : Option Addr} {n m : Nat} (h : Bv w L A n) (_hu : Bv w U B m) (c d : Nat) (hl : L.length = 40) (hT : Tab w) :
    Calls Tryd.prog 47 #[.agg #[.int .i64 L.length, .slice A n c], .agg #[.int .i64 11, .int .i64 3, .int .i64 0, .int .i64 24, .int .i64 0], .agg #[.int .i64 U.length, .slice B m d]] w fun e w' => e = .returned (.bool (decide (rem 0 L = 0))) ∧ Below w.heap.size w w' := by
  obtain ⟨Z, hZ⟩ : ∃ Z, Z = decide (rem 0 L = 0) := ⟨_, rfl⟩
  rw [← hZ]
  have hw : IntKind.i64.wrap 40 = 40 := by decide
  have hs := fun (W : World) (hb : Below w.heap.size w W) => slice_list (h.on hb) c (N := L.length) (ai := 0) (bi := 40) (a := 0) (b := 40) rfl rfl rfl (by decide) (by omega)
  rw [List.drop_zero, Nat.sub_zero] at hs
  rw [List.take_of_length_le (by omega)] at hs
  have ho := fun (W : World) (A1 : Option Addr) (n1 c1 : Nat) (hT : Tab W) (hv : Bv W (L) A1 n1) => open_list hv (Bv.nil _) c1 0 (M := 0) rfl rfl (by omega) hT
  simp only [List.nil_append] at ho
  generalize hp : frontOf (L) = P1 at *
  by_cases hr : rem 0 L = 0
  · rw [if_pos hr] at ho
    have hZ1 : Z = true := by rw [hZ]; simp [hr]
    have HS := Lib.hid hs; have HO := Lib.hid ho; have HZ := Lib.hid hZ1
    clear hs ho hZ hZ1 hr hp h _hu hl
    obtain ⟨kb, kp, ku, bc⟩ := bx3 w #[.int .i64 L.length, .slice A n c] #[.int .i64 11, .int .i64 3, .int .i64 0, .int .i64 24, .int .i64 0] #[.int .i64 U.length, .slice B m d] 28 51 28
    go_enter Tryd.func47, Tryd.ntmps47
    go_wp2_with fail
    generalize ((w.alloc (.cells #[.int .i64 L.length, .slice A n c] 28)).alloc (.cells #[.int .i64 11, .int .i64 3, .int .i64 0, .int .i64 24, .int .i64 0] 51)).alloc (.cells #[.int .i64 U.length, .slice B m d] 28) = u1 at *
    have hdr : Below u1.heap.size u1 u1.drew := (Below.refl _ _).drew
    replace kb := kb.on hdr; replace kp := kp.on hdr; replace ku := ku.on hdr; replace bc := bc.trans (hdr.mono bc.size)
    clear hdr
    obtain ⟨pkb_0, pkb_1, pkb_0f, pkb_1f⟩ := kb.two
    obtain ⟨⟨pkp_0, pkp_1, pkp_2, pkp_3, pkp_4⟩, pkp_0f, pkp_1f, pkp_2f, pkp_3f, pkp_4f⟩ := kp.five
    have al := Below.al u1 (.cells #[.int .i64 0, .slice none 0 0] 28)
    obtain ⟨qkb_0, qkb_1, -, -⟩ := (Blk.on (w := u1) kb al).two
    obtain ⟨⟨qkp_0, qkp_1, qkp_2, qkp_3, qkp_4⟩, -⟩ := (Blk.on (w := u1) kp al).five
    clear al
    go_region_held3 (fun w' => w'.cell? ⟨w.heap.size, 0, none⟩ = some (.int .i64 L.length) ∧ w'.cell? ⟨w.heap.size, 1, none⟩ = some (.slice A n c) ∧ w'.cell? ⟨w.heap.size + 1, 0, none⟩ = some (.int .i64 11) ∧ w'.cell? ⟨w.heap.size + 1, 1, none⟩ = some (.int .i64 3) ∧ w'.cell? ⟨w.heap.size + 1, 2, none⟩ = some (.int .i64 0) ∧ w'.cell? ⟨w.heap.size + 1, 3, none⟩ = some (.int .i64 24) ∧ w'.cell? ⟨w.heap.size + 1, 4, none⟩ = some (.int .i64 0)) (first | exact ⟨zkb_0, zkb_1, zkp_0, zkp_1, zkp_2, zkp_3, zkp_4⟩ | exact ⟨rkb_0, rkb_1, rkp_0, rkp_1, rkp_2, rkp_3, rkp_4⟩ | exact ⟨qkb_0, qkb_1, qkp_0, qkp_1, qkp_2, qkp_3, qkp_4⟩ | exact ⟨pkb_0, pkb_1, pkp_0, pkp_1, pkp_2, pkp_3, pkp_4⟩) (first | (have _ := k9; go_at_call 46; refine (HS.out _ bc).mono ?_; rintro e w2 ⟨A2, n2, c2, rfl, v2, hC⟩; dsimp only at v2 ⊢; replace kb := kb.on hC; replace kp := kp.on hC; replace ku := ku.on hC; replace k9 := k9.on hC; replace bc := bc.trans (hC.mono bc.size); clear hC; obtain ⟨pkb_0, pkb_1, pkb_0f, pkb_1f⟩ := kb.two; obtain ⟨⟨pkp_0, pkp_1, pkp_2, pkp_3, pkp_4⟩, pkp_0f, pkp_1f, pkp_2f, pkp_3f, pkp_4f⟩ := kp.five; obtain ⟨ok9_0, ok9_1, ok9_0f, ok9_1f⟩ := k9.two; have hG := st2 w2 (g9) (.int .i64 L.length) (.slice A2 n2 c2); replace kb := kb.grown hG (some_ne (by omega)); replace kp := kp.grown hG (some_ne (by omega)); replace ku := ku.grown hG (some_ne (by omega)); replace v2 := v2.off k9 (no_u8 _ _ _ _) hG; replace bc := Below.off bc bc.size (by omega) hG; replace k9 := k9.put2 (.int .i64 L.length) (.slice A2 n2 c2); clear hG; obtain ⟨zkb_0, zkb_1, zkb_0f, zkb_1f⟩ := kb.two; obtain ⟨⟨zkp_0, zkp_1, zkp_2, zkp_3, zkp_4⟩, zkp_0f, zkp_1f, zkp_2f, zkp_3f, zkp_4f⟩ := kp.five) | (go_at_call 46; refine (HS.out _ bc).mono ?_; rintro e w2 ⟨A2, n2, c2, rfl, v2, hC⟩; dsimp only at v2 ⊢; replace kb := kb.on hC; replace kp := kp.on hC; replace ku := ku.on hC; replace bc := bc.trans (hC.mono bc.size); clear hC; obtain ⟨pkb_0, pkb_1, pkb_0f, pkb_1f⟩ := kb.two; obtain ⟨⟨pkp_0, pkp_1, pkp_2, pkp_3, pkp_4⟩, pkp_0f, pkp_1f, pkp_2f, pkp_3f, pkp_4f⟩ := kp.five; have al := Below.al w2 (.cells #[.int .i64 0, .slice none 0 0] 28); obtain ⟨qkb_0, qkb_1, -, -⟩ := (Blk.on (w := w2) kb al).two; obtain ⟨⟨qkp_0, qkp_1, qkp_2, qkp_3, qkp_4⟩, -⟩ := (Blk.on (w := w2) kp al).five; clear al; have al := Below.al w2 (.cells #[.int .i64 L.length, .slice A2 n2 c2] 28); obtain ⟨rkb_0, rkb_1, -, -⟩ := (Blk.on (w := w2) kb al).two; obtain ⟨⟨rkp_0, rkp_1, rkp_2, rkp_3, rkp_4⟩, -⟩ := (Blk.on (w := w2) kp al).five; clear al) | (have z_k9_kb := kb.lt; have z_k9_kp := kp.lt; have z_k9_ku := ku.lt; have zb_k9 := bc.size; have k9 := Blk.new w1 28 #[.int .i64 0, .slice none 0 0]; have al := Below.al w1 (.cells #[.int .i64 0, .slice none 0 0] 28); replace kb := kb.on al; replace kp := kp.on al; replace ku := ku.on al; replace bc := bc.trans (al.mono bc.size); clear al; go_at_call 46; refine (HS.out _ bc).mono ?_; rintro e w2 ⟨A2, n2, c2, rfl, v2, hC⟩; dsimp only at v2 ⊢; replace kb := kb.on hC; replace kp := kp.on hC; replace ku := ku.on hC; replace k9 := k9.on hC; replace bc := bc.trans (hC.mono bc.size); clear hC; generalize w1.heap.size = g9 at *; obtain ⟨pkb_0, pkb_1, pkb_0f, pkb_1f⟩ := kb.two; obtain ⟨⟨pkp_0, pkp_1, pkp_2, pkp_3, pkp_4⟩, pkp_0f, pkp_1f, pkp_2f, pkp_3f, pkp_4f⟩ := kp.five; obtain ⟨ok9_0, ok9_1, ok9_0f, ok9_1f⟩ := k9.two; have hG := st2 w2 (g9) (.int .i64 L.length) (.slice A2 n2 c2); replace kb := kb.grown hG (some_ne (by omega)); replace kp := kp.grown hG (some_ne (by omega)); replace ku := ku.grown hG (some_ne (by omega)); replace v2 := v2.off k9 (no_u8 _ _ _ _) hG; replace bc := Below.off bc bc.size (by omega) hG; replace k9 := k9.put2 (.int .i64 L.length) (.slice A2 n2 c2); clear hG; obtain ⟨zkb_0, zkb_1, zkb_0f, zkb_1f⟩ := kb.two; obtain ⟨⟨zkp_0, zkp_1, zkp_2, zkp_3, zkp_4⟩, zkp_0f, zkp_1f, zkp_2f, zkp_3f, zkp_4f⟩ := kp.five) | (go_at_call 41; refine (head_1 _).mono ?_; rintro e w1 ⟨rfl, hC⟩; dsimp only; replace kb := kb.on hC; replace kp := kp.on hC; replace ku := ku.on hC; replace bc := bc.trans (hC.mono bc.size); clear hC; obtain ⟨pkb_0, pkb_1, pkb_0f, pkb_1f⟩ := kb.two; obtain ⟨⟨pkp_0, pkp_1, pkp_2, pkp_3, pkp_4⟩, pkp_0f, pkp_1f, pkp_2f, pkp_3f, pkp_4f⟩ := kp.five; have al := Below.al w1 (.cells #[.int .i64 0, .slice none 0 0] 28); obtain ⟨qkb_0, qkb_1, -, -⟩ := (Blk.on (w := w1) kb al).two; obtain ⟨⟨qkp_0, qkp_1, qkp_2, qkp_3, qkp_4⟩, -⟩ := (Blk.on (w := w1) kp al).five; clear al) | (have z_k9_kb := kb.lt; have z_k9_kp := kp.lt; have z_k9_ku := ku.lt; have zb_k9 := bc.size; have k9 := Blk.new u1.drew 28 #[.int .i64 0, .slice none 0 0]; have hsz : u1.drew.heap.size = u1.heap.size := (by first | rfl | simp); rw [hsz] at k9 z_k9_kb z_k9_kp z_k9_ku zb_k9; clear hsz; have al := Below.al u1.drew (.cells #[.int .i64 0, .slice none 0 0] 28); replace kb := kb.on al; replace kp := kp.on al; replace ku := ku.on al; replace bc := bc.trans (al.mono bc.size); clear al; go_at_call 41; refine (head_1 _).mono ?_; rintro e w1 ⟨rfl, hC⟩; dsimp only; replace kb := kb.on hC; replace kp := kp.on hC; replace ku := ku.on hC; replace k9 := k9.on hC; replace bc := bc.trans (hC.mono bc.size); clear hC; generalize u1.heap.size = g9 at *; obtain ⟨pkb_0, pkb_1, pkb_0f, pkb_1f⟩ := kb.two; obtain ⟨⟨pkp_0, pkp_1, pkp_2, pkp_3, pkp_4⟩, pkp_0f, pkp_1f, pkp_2f, pkp_3f, pkp_4f⟩ := kp.five))
    all_goals first
      | (have z_k9_kb := kb.lt
         have z_k9_kp := kp.lt
         have z_k9_ku := ku.lt
         have zb_k9 := bc.size
         have k9 := Blk.new w2 28 #[.int .i64 L.length, .slice A2 n2 c2]
         have al := Below.al w2 (.cells #[.int .i64 L.length, .slice A2 n2 c2] 28)
         replace kb := kb.on al; replace kp := kp.on al; replace ku := ku.on al; replace v2 := v2.on al; replace bc := bc.trans (al.mono bc.size); clear al
         obtain ⟨pkb_0, pkb_1, pkb_0f, pkb_1f⟩ := kb.two
         obtain ⟨⟨pkp_0, pkp_1, pkp_2, pkp_3, pkp_4⟩, pkp_0f, pkp_1f, pkp_2f, pkp_3f, pkp_4f⟩ := kp.five
         obtain ⟨pku_0, pku_1, pku_0f, pku_1f⟩ := ku.two
         obtain ⟨pk9_0, pk9_1, pk9_0f, pk9_1f⟩ := k9.two
         go_wp2_with fail
         clear pkb_0 pkb_1 pkb_0f pkb_1f pkp_0 pkp_1 pkp_2 pkp_3 pkp_4 pkp_0f pkp_1f pkp_2f pkp_3f pkp_4f pku_0 pku_1 pku_0f pku_1f pk9_0 pk9_1 pk9_0f pk9_1f
         generalize w2.alloc (.cells #[.int .i64 L.length, .slice A2 n2 c2] 28) = u2 at *
         generalize w2.heap.size = g2 at *
         refine (HO.out _ A2 n2 c2 (hT.on bc) v2).mono ?_
         rintro e w3 ⟨A3, n3, c3, rfl, v3, hC⟩
         dsimp only at v3 ⊢
         replace kb := kb.on hC; replace kp := kp.on hC; replace ku := ku.on hC; replace k9 := k9.on hC; replace v2 := v2.on hC; replace bc := bc.trans (hC.mono bc.size); clear hC
         have z_kt_kb := kb.lt
         have z_kt_kp := kp.lt
         have z_kt_ku := ku.lt
         have z_kt_k9 := k9.lt
         have zb_kt := bc.size
         have kt := Blk.new w3 28 #[.int .i64 P1.length, .slice A3 n3 c3]
         have al := Below.al w3 (.cells #[.int .i64 P1.length, .slice A3 n3 c3] 28)
         replace kb := kb.on al; replace kp := kp.on al; replace ku := ku.on al; replace k9 := k9.on al; replace v2 := v2.on al; replace v3 := v3.on al; replace bc := bc.trans (al.mono bc.size); clear al
         obtain ⟨⟨pkp_0, pkp_1, pkp_2, pkp_3, pkp_4⟩, pkp_0f, pkp_1f, pkp_2f, pkp_3f, pkp_4f⟩ := kp.five
         go_wp2
         go_ret
         exact ⟨by rw [HZ.out]; rfl, bc⟩)
      | (obtain ⟨pkb_0, pkb_1, pkb_0f, pkb_1f⟩ := kb.two
         obtain ⟨⟨pkp_0, pkp_1, pkp_2, pkp_3, pkp_4⟩, pkp_0f, pkp_1f, pkp_2f, pkp_3f, pkp_4f⟩ := kp.five
         obtain ⟨pku_0, pku_1, pku_0f, pku_1f⟩ := ku.two
         obtain ⟨pk9_0, pk9_1, pk9_0f, pk9_1f⟩ := k9.two
         go_wp2_with fail
         clear pkb_0 pkb_1 pkb_0f pkb_1f pkp_0 pkp_1 pkp_2 pkp_3 pkp_4 pkp_0f pkp_1f pkp_2f pkp_3f pkp_4f pku_0 pku_1 pku_0f pku_1f pk9_0 pk9_1 pk9_0f pk9_1f
         generalize (w2.setCell ⟨g9, 0, none⟩ (.int .i64 L.length)).setCell ⟨g9, 1, none⟩ (.slice A2 n2 c2) = u2 at *
         refine (HO.out _ A2 n2 c2 (hT.on bc) v2).mono ?_
         rintro e w3 ⟨A3, n3, c3, rfl, v3, hC⟩
         dsimp only at v3 ⊢
         replace kb := kb.on hC; replace kp := kp.on hC; replace ku := ku.on hC; replace k9 := k9.on hC; replace v2 := v2.on hC; replace bc := bc.trans (hC.mono bc.size); clear hC
         have z_kt_kb := kb.lt
         have z_kt_kp := kp.lt
         have z_kt_ku := ku.lt
         have z_kt_k9 := k9.lt
         have zb_kt := bc.size
         have kt := Blk.new w3 28 #[.int .i64 P1.length, .slice A3 n3 c3]
         have al := Below.al w3 (.cells #[.int .i64 P1.length, .slice A3 n3 c3] 28)
         replace kb := kb.on al; replace kp := kp.on al; replace ku := ku.on al; replace k9 := k9.on al; replace v2 := v2.on al; replace v3 := v3.on al; replace bc := bc.trans (al.mono bc.size); clear al
         obtain ⟨⟨pkp_0, pkp_1, pkp_2, pkp_3, pkp_4⟩, pkp_0f, pkp_1f, pkp_2f, pkp_3f, pkp_4f⟩ := kp.five
         go_wp2
         go_ret
         exact ⟨by rw [HZ.out]; rfl, bc⟩)
  · rw [if_neg hr] at ho
    have hZ1 : Z = false := by rw [hZ]; simp [hr]
    have HS := Lib.hid hs; have HO := Lib.hid ho; have HZ := Lib.hid hZ1
    clear hs ho hZ hZ1 hr hp h _hu hl
    obtain ⟨kb, kp, ku, bc⟩ := bx3 w #[.int .i64 L.length, .slice A n c] #[.int .i64 11, .int .i64 3, .int .i64 0, .int .i64 24, .int .i64 0] #[.int .i64 U.length, .slice B m d] 28 51 28
    go_enter Tryd.func47, Tryd.ntmps47
    go_wp2_with fail
    generalize ((w.alloc (.cells #[.int .i64 L.length, .slice A n c] 28)).alloc (.cells #[.int .i64 11, .int .i64 3, .int .i64 0, .int .i64 24, .int .i64 0] 51)).alloc (.cells #[.int .i64 U.length, .slice B m d] 28) = u1 at *
    have hdr : Below u1.heap.size u1 u1.drew := (Below.refl _ _).drew
    replace kb := kb.on hdr; replace kp := kp.on hdr; replace ku := ku.on hdr; replace bc := bc.trans (hdr.mono bc.size)
    clear hdr
    obtain ⟨pkb_0, pkb_1, pkb_0f, pkb_1f⟩ := kb.two
    obtain ⟨⟨pkp_0, pkp_1, pkp_2, pkp_3, pkp_4⟩, pkp_0f, pkp_1f, pkp_2f, pkp_3f, pkp_4f⟩ := kp.five
    have al := Below.al u1 (.cells #[.int .i64 0, .slice none 0 0] 28)
    obtain ⟨qkb_0, qkb_1, -, -⟩ := (Blk.on (w := u1) kb al).two
    obtain ⟨⟨qkp_0, qkp_1, qkp_2, qkp_3, qkp_4⟩, -⟩ := (Blk.on (w := u1) kp al).five
    clear al
    go_region_held3 (fun w' => w'.cell? ⟨w.heap.size, 0, none⟩ = some (.int .i64 L.length) ∧ w'.cell? ⟨w.heap.size, 1, none⟩ = some (.slice A n c) ∧ w'.cell? ⟨w.heap.size + 1, 0, none⟩ = some (.int .i64 11) ∧ w'.cell? ⟨w.heap.size + 1, 1, none⟩ = some (.int .i64 3) ∧ w'.cell? ⟨w.heap.size + 1, 2, none⟩ = some (.int .i64 0) ∧ w'.cell? ⟨w.heap.size + 1, 3, none⟩ = some (.int .i64 24) ∧ w'.cell? ⟨w.heap.size + 1, 4, none⟩ = some (.int .i64 0)) (first | exact ⟨zkb_0, zkb_1, zkp_0, zkp_1, zkp_2, zkp_3, zkp_4⟩ | exact ⟨rkb_0, rkb_1, rkp_0, rkp_1, rkp_2, rkp_3, rkp_4⟩ | exact ⟨qkb_0, qkb_1, qkp_0, qkp_1, qkp_2, qkp_3, qkp_4⟩ | exact ⟨pkb_0, pkb_1, pkp_0, pkp_1, pkp_2, pkp_3, pkp_4⟩) (first | (have _ := k9; go_at_call 46; refine (HS.out _ bc).mono ?_; rintro e w2 ⟨A2, n2, c2, rfl, v2, hC⟩; dsimp only at v2 ⊢; replace kb := kb.on hC; replace kp := kp.on hC; replace ku := ku.on hC; replace k9 := k9.on hC; replace bc := bc.trans (hC.mono bc.size); clear hC; obtain ⟨pkb_0, pkb_1, pkb_0f, pkb_1f⟩ := kb.two; obtain ⟨⟨pkp_0, pkp_1, pkp_2, pkp_3, pkp_4⟩, pkp_0f, pkp_1f, pkp_2f, pkp_3f, pkp_4f⟩ := kp.five; obtain ⟨ok9_0, ok9_1, ok9_0f, ok9_1f⟩ := k9.two; have hG := st2 w2 (g9) (.int .i64 L.length) (.slice A2 n2 c2); replace kb := kb.grown hG (some_ne (by omega)); replace kp := kp.grown hG (some_ne (by omega)); replace ku := ku.grown hG (some_ne (by omega)); replace v2 := v2.off k9 (no_u8 _ _ _ _) hG; replace bc := Below.off bc bc.size (by omega) hG; replace k9 := k9.put2 (.int .i64 L.length) (.slice A2 n2 c2); clear hG; obtain ⟨zkb_0, zkb_1, zkb_0f, zkb_1f⟩ := kb.two; obtain ⟨⟨zkp_0, zkp_1, zkp_2, zkp_3, zkp_4⟩, zkp_0f, zkp_1f, zkp_2f, zkp_3f, zkp_4f⟩ := kp.five) | (go_at_call 46; refine (HS.out _ bc).mono ?_; rintro e w2 ⟨A2, n2, c2, rfl, v2, hC⟩; dsimp only at v2 ⊢; replace kb := kb.on hC; replace kp := kp.on hC; replace ku := ku.on hC; replace bc := bc.trans (hC.mono bc.size); clear hC; obtain ⟨pkb_0, pkb_1, pkb_0f, pkb_1f⟩ := kb.two; obtain ⟨⟨pkp_0, pkp_1, pkp_2, pkp_3, pkp_4⟩, pkp_0f, pkp_1f, pkp_2f, pkp_3f, pkp_4f⟩ := kp.five; have al := Below.al w2 (.cells #[.int .i64 0, .slice none 0 0] 28); obtain ⟨qkb_0, qkb_1, -, -⟩ := (Blk.on (w := w2) kb al).two; obtain ⟨⟨qkp_0, qkp_1, qkp_2, qkp_3, qkp_4⟩, -⟩ := (Blk.on (w := w2) kp al).five; clear al; have al := Below.al w2 (.cells #[.int .i64 L.length, .slice A2 n2 c2] 28); obtain ⟨rkb_0, rkb_1, -, -⟩ := (Blk.on (w := w2) kb al).two; obtain ⟨⟨rkp_0, rkp_1, rkp_2, rkp_3, rkp_4⟩, -⟩ := (Blk.on (w := w2) kp al).five; clear al) | (have z_k9_kb := kb.lt; have z_k9_kp := kp.lt; have z_k9_ku := ku.lt; have zb_k9 := bc.size; have k9 := Blk.new w1 28 #[.int .i64 0, .slice none 0 0]; have al := Below.al w1 (.cells #[.int .i64 0, .slice none 0 0] 28); replace kb := kb.on al; replace kp := kp.on al; replace ku := ku.on al; replace bc := bc.trans (al.mono bc.size); clear al; go_at_call 46; refine (HS.out _ bc).mono ?_; rintro e w2 ⟨A2, n2, c2, rfl, v2, hC⟩; dsimp only at v2 ⊢; replace kb := kb.on hC; replace kp := kp.on hC; replace ku := ku.on hC; replace k9 := k9.on hC; replace bc := bc.trans (hC.mono bc.size); clear hC; generalize w1.heap.size = g9 at *; obtain ⟨pkb_0, pkb_1, pkb_0f, pkb_1f⟩ := kb.two; obtain ⟨⟨pkp_0, pkp_1, pkp_2, pkp_3, pkp_4⟩, pkp_0f, pkp_1f, pkp_2f, pkp_3f, pkp_4f⟩ := kp.five; obtain ⟨ok9_0, ok9_1, ok9_0f, ok9_1f⟩ := k9.two; have hG := st2 w2 (g9) (.int .i64 L.length) (.slice A2 n2 c2); replace kb := kb.grown hG (some_ne (by omega)); replace kp := kp.grown hG (some_ne (by omega)); replace ku := ku.grown hG (some_ne (by omega)); replace v2 := v2.off k9 (no_u8 _ _ _ _) hG; replace bc := Below.off bc bc.size (by omega) hG; replace k9 := k9.put2 (.int .i64 L.length) (.slice A2 n2 c2); clear hG; obtain ⟨zkb_0, zkb_1, zkb_0f, zkb_1f⟩ := kb.two; obtain ⟨⟨zkp_0, zkp_1, zkp_2, zkp_3, zkp_4⟩, zkp_0f, zkp_1f, zkp_2f, zkp_3f, zkp_4f⟩ := kp.five) | (go_at_call 41; refine (head_1 _).mono ?_; rintro e w1 ⟨rfl, hC⟩; dsimp only; replace kb := kb.on hC; replace kp := kp.on hC; replace ku := ku.on hC; replace bc := bc.trans (hC.mono bc.size); clear hC; obtain ⟨pkb_0, pkb_1, pkb_0f, pkb_1f⟩ := kb.two; obtain ⟨⟨pkp_0, pkp_1, pkp_2, pkp_3, pkp_4⟩, pkp_0f, pkp_1f, pkp_2f, pkp_3f, pkp_4f⟩ := kp.five; have al := Below.al w1 (.cells #[.int .i64 0, .slice none 0 0] 28); obtain ⟨qkb_0, qkb_1, -, -⟩ := (Blk.on (w := w1) kb al).two; obtain ⟨⟨qkp_0, qkp_1, qkp_2, qkp_3, qkp_4⟩, -⟩ := (Blk.on (w := w1) kp al).five; clear al) | (have z_k9_kb := kb.lt; have z_k9_kp := kp.lt; have z_k9_ku := ku.lt; have zb_k9 := bc.size; have k9 := Blk.new u1.drew 28 #[.int .i64 0, .slice none 0 0]; have hsz : u1.drew.heap.size = u1.heap.size := (by first | rfl | simp); rw [hsz] at k9 z_k9_kb z_k9_kp z_k9_ku zb_k9; clear hsz; have al := Below.al u1.drew (.cells #[.int .i64 0, .slice none 0 0] 28); replace kb := kb.on al; replace kp := kp.on al; replace ku := ku.on al; replace bc := bc.trans (al.mono bc.size); clear al; go_at_call 41; refine (head_1 _).mono ?_; rintro e w1 ⟨rfl, hC⟩; dsimp only; replace kb := kb.on hC; replace kp := kp.on hC; replace ku := ku.on hC; replace k9 := k9.on hC; replace bc := bc.trans (hC.mono bc.size); clear hC; generalize u1.heap.size = g9 at *; obtain ⟨pkb_0, pkb_1, pkb_0f, pkb_1f⟩ := kb.two; obtain ⟨⟨pkp_0, pkp_1, pkp_2, pkp_3, pkp_4⟩, pkp_0f, pkp_1f, pkp_2f, pkp_3f, pkp_4f⟩ := kp.five))
    all_goals first
      | (have z_k9_kb := kb.lt
         have z_k9_kp := kp.lt
         have z_k9_ku := ku.lt
         have zb_k9 := bc.size
         have k9 := Blk.new w2 28 #[.int .i64 L.length, .slice A2 n2 c2]
         have al := Below.al w2 (.cells #[.int .i64 L.length, .slice A2 n2 c2] 28)
         replace kb := kb.on al; replace kp := kp.on al; replace ku := ku.on al; replace v2 := v2.on al; replace bc := bc.trans (al.mono bc.size); clear al
         obtain ⟨pkb_0, pkb_1, pkb_0f, pkb_1f⟩ := kb.two
         obtain ⟨⟨pkp_0, pkp_1, pkp_2, pkp_3, pkp_4⟩, pkp_0f, pkp_1f, pkp_2f, pkp_3f, pkp_4f⟩ := kp.five
         obtain ⟨pku_0, pku_1, pku_0f, pku_1f⟩ := ku.two
         obtain ⟨pk9_0, pk9_1, pk9_0f, pk9_1f⟩ := k9.two
         go_wp2_with fail
         clear pkb_0 pkb_1 pkb_0f pkb_1f pkp_0 pkp_1 pkp_2 pkp_3 pkp_4 pkp_0f pkp_1f pkp_2f pkp_3f pkp_4f pku_0 pku_1 pku_0f pku_1f pk9_0 pk9_1 pk9_0f pk9_1f
         generalize w2.alloc (.cells #[.int .i64 L.length, .slice A2 n2 c2] 28) = u2 at *
         generalize w2.heap.size = g2 at *
         refine (HO.out _ A2 n2 c2 (hT.on bc) v2).mono ?_
         rintro e w3 ⟨A3, n3, c3, rfl, v3, hC⟩
         dsimp only at v3 ⊢
         replace kb := kb.on hC; replace kp := kp.on hC; replace ku := ku.on hC; replace k9 := k9.on hC; replace v2 := v2.on hC; replace bc := bc.trans (hC.mono bc.size); clear hC
         have z_kt_kb := kb.lt
         have z_kt_kp := kp.lt
         have z_kt_ku := ku.lt
         have z_kt_k9 := k9.lt
         have zb_kt := bc.size
         have kt := Blk.new w3 28 #[.int .i64 ([] : List Bool).length, .slice A3 n3 c3]
         have al := Below.al w3 (.cells #[.int .i64 ([] : List Bool).length, .slice A3 n3 c3] 28)
         replace kb := kb.on al; replace kp := kp.on al; replace ku := ku.on al; replace k9 := k9.on al; replace v2 := v2.on al; replace v3 := v3.on al; replace bc := bc.trans (al.mono bc.size); clear al
         obtain ⟨⟨pkp_0, pkp_1, pkp_2, pkp_3, pkp_4⟩, pkp_0f, pkp_1f, pkp_2f, pkp_3f, pkp_4f⟩ := kp.five
         go_wp2
         go_ret
         exact ⟨by rw [HZ.out]; rfl, bc⟩)
      | (obtain ⟨pkb_0, pkb_1, pkb_0f, pkb_1f⟩ := kb.two
         obtain ⟨⟨pkp_0, pkp_1, pkp_2, pkp_3, pkp_4⟩, pkp_0f, pkp_1f, pkp_2f, pkp_3f, pkp_4f⟩ := kp.five
         obtain ⟨pku_0, pku_1, pku_0f, pku_1f⟩ := ku.two
         obtain ⟨pk9_0, pk9_1, pk9_0f, pk9_1f⟩ := k9.two
         go_wp2_with fail
         clear pkb_0 pkb_1 pkb_0f pkb_1f pkp_0 pkp_1 pkp_2 pkp_3 pkp_4 pkp_0f pkp_1f pkp_2f pkp_3f pkp_4f pku_0 pku_1 pku_0f pku_1f pk9_0 pk9_1 pk9_0f pk9_1f
         generalize (w2.setCell ⟨g9, 0, none⟩ (.int .i64 L.length)).setCell ⟨g9, 1, none⟩ (.slice A2 n2 c2) = u2 at *
         refine (HO.out _ A2 n2 c2 (hT.on bc) v2).mono ?_
         rintro e w3 ⟨A3, n3, c3, rfl, v3, hC⟩
         dsimp only at v3 ⊢
         replace kb := kb.on hC; replace kp := kp.on hC; replace ku := ku.on hC; replace k9 := k9.on hC; replace v2 := v2.on hC; replace bc := bc.trans (hC.mono bc.size); clear hC
         have z_kt_kb := kb.lt
         have z_kt_kp := kp.lt
         have z_kt_ku := ku.lt
         have z_kt_k9 := k9.lt
         have zb_kt := bc.size
         have kt := Blk.new w3 28 #[.int .i64 ([] : List Bool).length, .slice A3 n3 c3]
         have al := Below.al w3 (.cells #[.int .i64 ([] : List Bool).length, .slice A3 n3 c3] 28)
         replace kb := kb.on al; replace kp := kp.on al; replace ku := ku.on al; replace k9 := k9.on al; replace v2 := v2.on al; replace v3 := v3.on al; replace bc := bc.trans (al.mono bc.size); clear al
         obtain ⟨⟨pkp_0, pkp_1, pkp_2, pkp_3, pkp_4⟩, pkp_0f, pkp_1f, pkp_2f, pkp_3f, pkp_4f⟩ := kp.five
         go_wp2
         go_ret
         exact ⟨by rw [HZ.out]; rfl, bc⟩)
set_option maxRecDepth 8000 in
set_option maxHeartbeats 2000000 in
theorem sums_2 {w : World} {L U : List Bool} {A B : Option Addr} {n m : Nat} (h : Bv w L A n) (hu : Bv w U B m) (c d : Nat) (hl : 29 ≤ L.length) (hT : Tab w) :
    Calls Tryd.prog 47 #[.agg #[.int .i64 L.length, .slice A n c], .agg #[.int .i64 3, .int .i64 0, .int .i64 0, .int .i64 0, .int .i64 8], .agg #[.int .i64 U.length, .slice B m d]] w fun e w' => e = .returned (.bool (decide (rem 0 (U ++ L) = 0))) ∧ Below w.heap.size w w' := by
  obtain ⟨Z, hZ⟩ : ∃ Z, Z = decide (rem 0 (U ++ L) = 0) := ⟨_, rfl⟩
  rw [← hZ]
  have ho2 := fun (W : World) (hb : Below w.heap.size w W) => open_list (h.on hb) (hu.on hb) c d rfl rfl (by omega) (hT.on hb)
  generalize frontOf L = P2 at *
  by_cases hr : rem 0 (U ++ L) = 0
  · simp only [if_pos hr] at ho2
    have hZ1 : Z = true := by rw [hZ]; simp [hr]
    have HO2 := Lib.hid ho2; have HZ := Lib.hid hZ1
    clear ho2 hZ hZ1 hr h hu hl
    obtain ⟨kb, kp, ku, bc⟩ := bx3 w #[.int .i64 L.length, .slice A n c] #[.int .i64 3, .int .i64 0, .int .i64 0, .int .i64 0, .int .i64 8] #[.int .i64 U.length, .slice B m d] 28 51 28
    go_enter Tryd.func47, Tryd.ntmps47
    go_wp2_with fail
    generalize ((w.alloc (.cells #[.int .i64 L.length, .slice A n c] 28)).alloc (.cells #[.int .i64 3, .int .i64 0, .int .i64 0, .int .i64 0, .int .i64 8] 51)).alloc (.cells #[.int .i64 U.length, .slice B m d] 28) = u1 at *
    obtain ⟨pkb_0, pkb_1, pkb_0f, pkb_1f⟩ := kb.two
    obtain ⟨⟨pkp_0, pkp_1, pkp_2, pkp_3, pkp_4⟩, pkp_0f, pkp_1f, pkp_2f, pkp_3f, pkp_4f⟩ := kp.five
    obtain ⟨pku_0, pku_1, pku_0f, pku_1f⟩ := ku.two
    go_wp2_with fail
    clear pkb_0 pkb_1 pkb_0f pkb_1f pkp_0 pkp_1 pkp_2 pkp_3 pkp_4 pkp_0f pkp_1f pkp_2f pkp_3f pkp_4f pku_0 pku_1 pku_0f pku_1f
    refine (HO2.out _ bc).mono ?_
    rintro e w4 ⟨A4, n4, c4, rfl, v4, hC⟩
    dsimp only at v4 ⊢
    replace kb := kb.on hC; replace kp := kp.on hC; replace ku := ku.on hC; replace bc := bc.trans (hC.mono bc.size); clear hC
    have z_kw_kb := kb.lt
    have z_kw_kp := kp.lt
    have z_kw_ku := ku.lt
    have zb_kw := bc.size
    have kw := Blk.new w4 28 #[.int .i64 P2.length, .slice A4 n4 c4]
    have al := Below.al w4 (.cells #[.int .i64 P2.length, .slice A4 n4 c4] 28)
    replace kb := kb.on al; replace kp := kp.on al; replace ku := ku.on al; replace v4 := v4.on al; replace bc := bc.trans (al.mono bc.size); clear al
    go_wp2
    go_ret
    exact ⟨by rw [HZ.out]; rfl, bc⟩
  · simp only [if_neg hr] at ho2
    have hZ1 : Z = false := by rw [hZ]; simp [hr]
    have HO2 := Lib.hid ho2; have HZ := Lib.hid hZ1
    clear ho2 hZ hZ1 hr h hu hl
    obtain ⟨kb, kp, ku, bc⟩ := bx3 w #[.int .i64 L.length, .slice A n c] #[.int .i64 3, .int .i64 0, .int .i64 0, .int .i64 0, .int .i64 8] #[.int .i64 U.length, .slice B m d] 28 51 28
    go_enter Tryd.func47, Tryd.ntmps47
    go_wp2_with fail
    generalize ((w.alloc (.cells #[.int .i64 L.length, .slice A n c] 28)).alloc (.cells #[.int .i64 3, .int .i64 0, .int .i64 0, .int .i64 0, .int .i64 8] 51)).alloc (.cells #[.int .i64 U.length, .slice B m d] 28) = u1 at *
    obtain ⟨pkb_0, pkb_1, pkb_0f, pkb_1f⟩ := kb.two
    obtain ⟨⟨pkp_0, pkp_1, pkp_2, pkp_3, pkp_4⟩, pkp_0f, pkp_1f, pkp_2f, pkp_3f, pkp_4f⟩ := kp.five
    obtain ⟨pku_0, pku_1, pku_0f, pku_1f⟩ := ku.two
    go_wp2_with fail
    clear pkb_0 pkb_1 pkb_0f pkb_1f pkp_0 pkp_1 pkp_2 pkp_3 pkp_4 pkp_0f pkp_1f pkp_2f pkp_3f pkp_4f pku_0 pku_1 pku_0f pku_1f
    refine (HO2.out _ bc).mono ?_
    rintro e w4 ⟨A4, n4, c4, rfl, v4, hC⟩
    dsimp only at v4 ⊢
    replace kb := kb.on hC; replace kp := kp.on hC; replace ku := ku.on hC; replace bc := bc.trans (hC.mono bc.size); clear hC
    have z_kw_kb := kb.lt
    have z_kw_kp := kp.lt
    have z_kw_ku := ku.lt
    have zb_kw := bc.size
    have kw := Blk.new w4 28 #[.int .i64 ([] : List Bool).length, .slice A4 n4 c4]
    have al := Below.al w4 (.cells #[.int .i64 ([] : List Bool).length, .slice A4 n4 c4] 28)
    replace kb := kb.on al; replace kp := kp.on al; replace ku := ku.on al; replace v4 := v4.on al; replace bc := bc.trans (al.mono bc.size); clear al
    go_wp2
    go_ret
    exact ⟨by rw [HZ.out]; rfl, bc⟩
set_option maxRecDepth 8000 in
set_option maxHeartbeats 2000000 in
theorem sums_3 {w : World} {L U : List Bool} {A B : Option Addr} {n m : Nat} (h : Bv w L A n) (_hu : Bv w U B m) (c d : Nat) (hl : L.length = 54) (hT : Tab w) :
    Calls Tryd.prog 47 #[.agg #[.int .i64 L.length, .slice A n c], .agg #[.int .i64 3, .int .i64 1, .int .i64 24, .int .i64 24, .int .i64 0], .agg #[.int .i64 U.length, .slice B m d]] w fun e w' => e = .returned (.bool (decide (rem 0 L = 0))) ∧ Below w.heap.size w w' := by
  obtain ⟨Z, hZ⟩ : ∃ Z, Z = decide (rem 0 L = 0) := ⟨_, rfl⟩
  rw [← hZ]
  have hw : IntKind.i64.wrap 54 = 54 := by decide
  have hs := fun (W : World) (hb : Below w.heap.size w W) => slice_list (h.on hb) c (N := L.length) (ai := 0) (bi := 54) (a := 0) (b := 54) rfl rfl rfl (by decide) (by omega)
  rw [List.drop_zero, Nat.sub_zero] at hs
  rw [List.take_of_length_le (by omega)] at hs
  have ho := fun (W : World) (A1 : Option Addr) (n1 c1 : Nat) (hT : Tab W) (hv : Bv W (L) A1 n1) => open_list hv (Bv.nil _) c1 0 (M := 0) rfl rfl (by omega) hT
  simp only [List.nil_append] at ho
  generalize hp : frontOf (L) = P1 at *
  by_cases hr : rem 0 L = 0
  · rw [if_pos hr] at ho
    have hZ1 : Z = true := by rw [hZ]; simp [hr]
    have HS := Lib.hid hs; have HO := Lib.hid ho; have HZ := Lib.hid hZ1
    clear hs ho hZ hZ1 hr hp h _hu hl
    obtain ⟨kb, kp, ku, bc⟩ := bx3 w #[.int .i64 L.length, .slice A n c] #[.int .i64 3, .int .i64 1, .int .i64 24, .int .i64 24, .int .i64 0] #[.int .i64 U.length, .slice B m d] 28 51 28
    go_enter Tryd.func47, Tryd.ntmps47
    go_wp2_with fail
    generalize ((w.alloc (.cells #[.int .i64 L.length, .slice A n c] 28)).alloc (.cells #[.int .i64 3, .int .i64 1, .int .i64 24, .int .i64 24, .int .i64 0] 51)).alloc (.cells #[.int .i64 U.length, .slice B m d] 28) = u1 at *
    have hdr : Below u1.heap.size u1 u1.drew := (Below.refl _ _).drew
    replace kb := kb.on hdr; replace kp := kp.on hdr; replace ku := ku.on hdr; replace bc := bc.trans (hdr.mono bc.size)
    clear hdr
    obtain ⟨pkb_0, pkb_1, pkb_0f, pkb_1f⟩ := kb.two
    obtain ⟨⟨pkp_0, pkp_1, pkp_2, pkp_3, pkp_4⟩, pkp_0f, pkp_1f, pkp_2f, pkp_3f, pkp_4f⟩ := kp.five
    have al := Below.al u1 (.cells #[.int .i64 0, .slice none 0 0] 28)
    obtain ⟨qkb_0, qkb_1, -, -⟩ := (Blk.on (w := u1) kb al).two
    obtain ⟨⟨qkp_0, qkp_1, qkp_2, qkp_3, qkp_4⟩, -⟩ := (Blk.on (w := u1) kp al).five
    clear al
    go_region_held3 (fun w' => w'.cell? ⟨w.heap.size, 0, none⟩ = some (.int .i64 L.length) ∧ w'.cell? ⟨w.heap.size, 1, none⟩ = some (.slice A n c) ∧ w'.cell? ⟨w.heap.size + 1, 0, none⟩ = some (.int .i64 3) ∧ w'.cell? ⟨w.heap.size + 1, 1, none⟩ = some (.int .i64 1) ∧ w'.cell? ⟨w.heap.size + 1, 2, none⟩ = some (.int .i64 24) ∧ w'.cell? ⟨w.heap.size + 1, 3, none⟩ = some (.int .i64 24) ∧ w'.cell? ⟨w.heap.size + 1, 4, none⟩ = some (.int .i64 0)) (first | exact ⟨zkb_0, zkb_1, zkp_0, zkp_1, zkp_2, zkp_3, zkp_4⟩ | exact ⟨rkb_0, rkb_1, rkp_0, rkp_1, rkp_2, rkp_3, rkp_4⟩ | exact ⟨qkb_0, qkb_1, qkp_0, qkp_1, qkp_2, qkp_3, qkp_4⟩ | exact ⟨pkb_0, pkb_1, pkp_0, pkp_1, pkp_2, pkp_3, pkp_4⟩) (first | (have _ := k9; go_at_call 46; refine (HS.out _ bc).mono ?_; rintro e w2 ⟨A2, n2, c2, rfl, v2, hC⟩; dsimp only at v2 ⊢; replace kb := kb.on hC; replace kp := kp.on hC; replace ku := ku.on hC; replace k9 := k9.on hC; replace bc := bc.trans (hC.mono bc.size); clear hC; obtain ⟨pkb_0, pkb_1, pkb_0f, pkb_1f⟩ := kb.two; obtain ⟨⟨pkp_0, pkp_1, pkp_2, pkp_3, pkp_4⟩, pkp_0f, pkp_1f, pkp_2f, pkp_3f, pkp_4f⟩ := kp.five; obtain ⟨ok9_0, ok9_1, ok9_0f, ok9_1f⟩ := k9.two; have hG := st2 w2 (g9) (.int .i64 L.length) (.slice A2 n2 c2); replace kb := kb.grown hG (some_ne (by omega)); replace kp := kp.grown hG (some_ne (by omega)); replace ku := ku.grown hG (some_ne (by omega)); replace v2 := v2.off k9 (no_u8 _ _ _ _) hG; replace bc := Below.off bc bc.size (by omega) hG; replace k9 := k9.put2 (.int .i64 L.length) (.slice A2 n2 c2); clear hG; obtain ⟨zkb_0, zkb_1, zkb_0f, zkb_1f⟩ := kb.two; obtain ⟨⟨zkp_0, zkp_1, zkp_2, zkp_3, zkp_4⟩, zkp_0f, zkp_1f, zkp_2f, zkp_3f, zkp_4f⟩ := kp.five) | (go_at_call 46; refine (HS.out _ bc).mono ?_; rintro e w2 ⟨A2, n2, c2, rfl, v2, hC⟩; dsimp only at v2 ⊢; replace kb := kb.on hC; replace kp := kp.on hC; replace ku := ku.on hC; replace bc := bc.trans (hC.mono bc.size); clear hC; obtain ⟨pkb_0, pkb_1, pkb_0f, pkb_1f⟩ := kb.two; obtain ⟨⟨pkp_0, pkp_1, pkp_2, pkp_3, pkp_4⟩, pkp_0f, pkp_1f, pkp_2f, pkp_3f, pkp_4f⟩ := kp.five; have al := Below.al w2 (.cells #[.int .i64 0, .slice none 0 0] 28); obtain ⟨qkb_0, qkb_1, -, -⟩ := (Blk.on (w := w2) kb al).two; obtain ⟨⟨qkp_0, qkp_1, qkp_2, qkp_3, qkp_4⟩, -⟩ := (Blk.on (w := w2) kp al).five; clear al; have al := Below.al w2 (.cells #[.int .i64 L.length, .slice A2 n2 c2] 28); obtain ⟨rkb_0, rkb_1, -, -⟩ := (Blk.on (w := w2) kb al).two; obtain ⟨⟨rkp_0, rkp_1, rkp_2, rkp_3, rkp_4⟩, -⟩ := (Blk.on (w := w2) kp al).five; clear al) | (have z_k9_kb := kb.lt; have z_k9_kp := kp.lt; have z_k9_ku := ku.lt; have zb_k9 := bc.size; have k9 := Blk.new w1 28 #[.int .i64 0, .slice none 0 0]; have al := Below.al w1 (.cells #[.int .i64 0, .slice none 0 0] 28); replace kb := kb.on al; replace kp := kp.on al; replace ku := ku.on al; replace bc := bc.trans (al.mono bc.size); clear al; go_at_call 46; refine (HS.out _ bc).mono ?_; rintro e w2 ⟨A2, n2, c2, rfl, v2, hC⟩; dsimp only at v2 ⊢; replace kb := kb.on hC; replace kp := kp.on hC; replace ku := ku.on hC; replace k9 := k9.on hC; replace bc := bc.trans (hC.mono bc.size); clear hC; generalize w1.heap.size = g9 at *; obtain ⟨pkb_0, pkb_1, pkb_0f, pkb_1f⟩ := kb.two; obtain ⟨⟨pkp_0, pkp_1, pkp_2, pkp_3, pkp_4⟩, pkp_0f, pkp_1f, pkp_2f, pkp_3f, pkp_4f⟩ := kp.five; obtain ⟨ok9_0, ok9_1, ok9_0f, ok9_1f⟩ := k9.two; have hG := st2 w2 (g9) (.int .i64 L.length) (.slice A2 n2 c2); replace kb := kb.grown hG (some_ne (by omega)); replace kp := kp.grown hG (some_ne (by omega)); replace ku := ku.grown hG (some_ne (by omega)); replace v2 := v2.off k9 (no_u8 _ _ _ _) hG; replace bc := Below.off bc bc.size (by omega) hG; replace k9 := k9.put2 (.int .i64 L.length) (.slice A2 n2 c2); clear hG; obtain ⟨zkb_0, zkb_1, zkb_0f, zkb_1f⟩ := kb.two; obtain ⟨⟨zkp_0, zkp_1, zkp_2, zkp_3, zkp_4⟩, zkp_0f, zkp_1f, zkp_2f, zkp_3f, zkp_4f⟩ := kp.five) | (go_at_call 41; refine (head_3 _).mono ?_; rintro e w1 ⟨rfl, hC⟩; dsimp only; replace kb := kb.on hC; replace kp := kp.on hC; replace ku := ku.on hC; replace bc := bc.trans (hC.mono bc.size); clear hC; obtain ⟨pkb_0, pkb_1, pkb_0f, pkb_1f⟩ := kb.two; obtain ⟨⟨pkp_0, pkp_1, pkp_2, pkp_3, pkp_4⟩, pkp_0f, pkp_1f, pkp_2f, pkp_3f, pkp_4f⟩ := kp.five; have al := Below.al w1 (.cells #[.int .i64 0, .slice none 0 0] 28); obtain ⟨qkb_0, qkb_1, -, -⟩ := (Blk.on (w := w1) kb al).two; obtain ⟨⟨qkp_0, qkp_1, qkp_2, qkp_3, qkp_4⟩, -⟩ := (Blk.on (w := w1) kp al).five; clear al) | (have z_k9_kb := kb.lt; have z_k9_kp := kp.lt; have z_k9_ku := ku.lt; have zb_k9 := bc.size; have k9 := Blk.new u1.drew 28 #[.int .i64 0, .slice none 0 0]; have hsz : u1.drew.heap.size = u1.heap.size := (by first | rfl | simp); rw [hsz] at k9 z_k9_kb z_k9_kp z_k9_ku zb_k9; clear hsz; have al := Below.al u1.drew (.cells #[.int .i64 0, .slice none 0 0] 28); replace kb := kb.on al; replace kp := kp.on al; replace ku := ku.on al; replace bc := bc.trans (al.mono bc.size); clear al; go_at_call 41; refine (head_3 _).mono ?_; rintro e w1 ⟨rfl, hC⟩; dsimp only; replace kb := kb.on hC; replace kp := kp.on hC; replace ku := ku.on hC; replace k9 := k9.on hC; replace bc := bc.trans (hC.mono bc.size); clear hC; generalize u1.heap.size = g9 at *; obtain ⟨pkb_0, pkb_1, pkb_0f, pkb_1f⟩ := kb.two; obtain ⟨⟨pkp_0, pkp_1, pkp_2, pkp_3, pkp_4⟩, pkp_0f, pkp_1f, pkp_2f, pkp_3f, pkp_4f⟩ := kp.five))
    all_goals first
      | (have z_k9_kb := kb.lt
         have z_k9_kp := kp.lt
         have z_k9_ku := ku.lt
         have zb_k9 := bc.size
         have k9 := Blk.new w2 28 #[.int .i64 L.length, .slice A2 n2 c2]
         have al := Below.al w2 (.cells #[.int .i64 L.length, .slice A2 n2 c2] 28)
         replace kb := kb.on al; replace kp := kp.on al; replace ku := ku.on al; replace v2 := v2.on al; replace bc := bc.trans (al.mono bc.size); clear al
         obtain ⟨pkb_0, pkb_1, pkb_0f, pkb_1f⟩ := kb.two
         obtain ⟨⟨pkp_0, pkp_1, pkp_2, pkp_3, pkp_4⟩, pkp_0f, pkp_1f, pkp_2f, pkp_3f, pkp_4f⟩ := kp.five
         obtain ⟨pku_0, pku_1, pku_0f, pku_1f⟩ := ku.two
         obtain ⟨pk9_0, pk9_1, pk9_0f, pk9_1f⟩ := k9.two
         go_wp2_with fail
         clear pkb_0 pkb_1 pkb_0f pkb_1f pkp_0 pkp_1 pkp_2 pkp_3 pkp_4 pkp_0f pkp_1f pkp_2f pkp_3f pkp_4f pku_0 pku_1 pku_0f pku_1f pk9_0 pk9_1 pk9_0f pk9_1f
         generalize w2.alloc (.cells #[.int .i64 L.length, .slice A2 n2 c2] 28) = u2 at *
         generalize w2.heap.size = g2 at *
         refine (HO.out _ A2 n2 c2 (hT.on bc) v2).mono ?_
         rintro e w3 ⟨A3, n3, c3, rfl, v3, hC⟩
         dsimp only at v3 ⊢
         replace kb := kb.on hC; replace kp := kp.on hC; replace ku := ku.on hC; replace k9 := k9.on hC; replace v2 := v2.on hC; replace bc := bc.trans (hC.mono bc.size); clear hC
         have z_kt_kb := kb.lt
         have z_kt_kp := kp.lt
         have z_kt_ku := ku.lt
         have z_kt_k9 := k9.lt
         have zb_kt := bc.size
         have kt := Blk.new w3 28 #[.int .i64 P1.length, .slice A3 n3 c3]
         have al := Below.al w3 (.cells #[.int .i64 P1.length, .slice A3 n3 c3] 28)
         replace kb := kb.on al; replace kp := kp.on al; replace ku := ku.on al; replace k9 := k9.on al; replace v2 := v2.on al; replace v3 := v3.on al; replace bc := bc.trans (al.mono bc.size); clear al
         obtain ⟨⟨pkp_0, pkp_1, pkp_2, pkp_3, pkp_4⟩, pkp_0f, pkp_1f, pkp_2f, pkp_3f, pkp_4f⟩ := kp.five
         go_wp2
         go_ret
         exact ⟨by rw [HZ.out]; rfl, bc⟩)
      | (obtain ⟨pkb_0, pkb_1, pkb_0f, pkb_1f⟩ := kb.two
         obtain ⟨⟨pkp_0, pkp_1, pkp_2, pkp_3, pkp_4⟩, pkp_0f, pkp_1f, pkp_2f, pkp_3f, pkp_4f⟩ := kp.five
         obtain ⟨pku_0, pku_1, pku_0f, pku_1f⟩ := ku.two
         obtain ⟨pk9_0, pk9_1, pk9_0f, pk9_1f⟩ := k9.two
         go_wp2_with fail
         clear pkb_0 pkb_1 pkb_0f pkb_1f pkp_0 pkp_1 pkp_2 pkp_3 pkp_4 pkp_0f pkp_1f pkp_2f pkp_3f pkp_4f pku_0 pku_1 pku_0f pku_1f pk9_0 pk9_1 pk9_0f pk9_1f
         generalize (w2.setCell ⟨g9, 0, none⟩ (.int .i64 L.length)).setCell ⟨g9, 1, none⟩ (.slice A2 n2 c2) = u2 at *
         refine (HO.out _ A2 n2 c2 (hT.on bc) v2).mono ?_
         rintro e w3 ⟨A3, n3, c3, rfl, v3, hC⟩
         dsimp only at v3 ⊢
         replace kb := kb.on hC; replace kp := kp.on hC; replace ku := ku.on hC; replace k9 := k9.on hC; replace v2 := v2.on hC; replace bc := bc.trans (hC.mono bc.size); clear hC
         have z_kt_kb := kb.lt
         have z_kt_kp := kp.lt
         have z_kt_ku := ku.lt
         have z_kt_k9 := k9.lt
         have zb_kt := bc.size
         have kt := Blk.new w3 28 #[.int .i64 P1.length, .slice A3 n3 c3]
         have al := Below.al w3 (.cells #[.int .i64 P1.length, .slice A3 n3 c3] 28)
         replace kb := kb.on al; replace kp := kp.on al; replace ku := ku.on al; replace k9 := k9.on al; replace v2 := v2.on al; replace v3 := v3.on al; replace bc := bc.trans (al.mono bc.size); clear al
         obtain ⟨⟨pkp_0, pkp_1, pkp_2, pkp_3, pkp_4⟩, pkp_0f, pkp_1f, pkp_2f, pkp_3f, pkp_4f⟩ := kp.five
         go_wp2
         go_ret
         exact ⟨by rw [HZ.out]; rfl, bc⟩)
  · rw [if_neg hr] at ho
    have hZ1 : Z = false := by rw [hZ]; simp [hr]
    have HS := Lib.hid hs; have HO := Lib.hid ho; have HZ := Lib.hid hZ1
    clear hs ho hZ hZ1 hr hp h _hu hl
    obtain ⟨kb, kp, ku, bc⟩ := bx3 w #[.int .i64 L.length, .slice A n c] #[.int .i64 3, .int .i64 1, .int .i64 24, .int .i64 24, .int .i64 0] #[.int .i64 U.length, .slice B m d] 28 51 28
    go_enter Tryd.func47, Tryd.ntmps47
    go_wp2_with fail
    generalize ((w.alloc (.cells #[.int .i64 L.length, .slice A n c] 28)).alloc (.cells #[.int .i64 3, .int .i64 1, .int .i64 24, .int .i64 24, .int .i64 0] 51)).alloc (.cells #[.int .i64 U.length, .slice B m d] 28) = u1 at *
    have hdr : Below u1.heap.size u1 u1.drew := (Below.refl _ _).drew
    replace kb := kb.on hdr; replace kp := kp.on hdr; replace ku := ku.on hdr; replace bc := bc.trans (hdr.mono bc.size)
    clear hdr
    obtain ⟨pkb_0, pkb_1, pkb_0f, pkb_1f⟩ := kb.two
    obtain ⟨⟨pkp_0, pkp_1, pkp_2, pkp_3, pkp_4⟩, pkp_0f, pkp_1f, pkp_2f, pkp_3f, pkp_4f⟩ := kp.five
    have al := Below.al u1 (.cells #[.int .i64 0, .slice none 0 0] 28)
    obtain ⟨qkb_0, qkb_1, -, -⟩ := (Blk.on (w := u1) kb al).two
    obtain ⟨⟨qkp_0, qkp_1, qkp_2, qkp_3, qkp_4⟩, -⟩ := (Blk.on (w := u1) kp al).five
    clear al
    go_region_held3 (fun w' => w'.cell? ⟨w.heap.size, 0, none⟩ = some (.int .i64 L.length) ∧ w'.cell? ⟨w.heap.size, 1, none⟩ = some (.slice A n c) ∧ w'.cell? ⟨w.heap.size + 1, 0, none⟩ = some (.int .i64 3) ∧ w'.cell? ⟨w.heap.size + 1, 1, none⟩ = some (.int .i64 1) ∧ w'.cell? ⟨w.heap.size + 1, 2, none⟩ = some (.int .i64 24) ∧ w'.cell? ⟨w.heap.size + 1, 3, none⟩ = some (.int .i64 24) ∧ w'.cell? ⟨w.heap.size + 1, 4, none⟩ = some (.int .i64 0)) (first | exact ⟨zkb_0, zkb_1, zkp_0, zkp_1, zkp_2, zkp_3, zkp_4⟩ | exact ⟨rkb_0, rkb_1, rkp_0, rkp_1, rkp_2, rkp_3, rkp_4⟩ | exact ⟨qkb_0, qkb_1, qkp_0, qkp_1, qkp_2, qkp_3, qkp_4⟩ | exact ⟨pkb_0, pkb_1, pkp_0, pkp_1, pkp_2, pkp_3, pkp_4⟩) (first | (have _ := k9; go_at_call 46; refine (HS.out _ bc).mono ?_; rintro e w2 ⟨A2, n2, c2, rfl, v2, hC⟩; dsimp only at v2 ⊢; replace kb := kb.on hC; replace kp := kp.on hC; replace ku := ku.on hC; replace k9 := k9.on hC; replace bc := bc.trans (hC.mono bc.size); clear hC; obtain ⟨pkb_0, pkb_1, pkb_0f, pkb_1f⟩ := kb.two; obtain ⟨⟨pkp_0, pkp_1, pkp_2, pkp_3, pkp_4⟩, pkp_0f, pkp_1f, pkp_2f, pkp_3f, pkp_4f⟩ := kp.five; obtain ⟨ok9_0, ok9_1, ok9_0f, ok9_1f⟩ := k9.two; have hG := st2 w2 (g9) (.int .i64 L.length) (.slice A2 n2 c2); replace kb := kb.grown hG (some_ne (by omega)); replace kp := kp.grown hG (some_ne (by omega)); replace ku := ku.grown hG (some_ne (by omega)); replace v2 := v2.off k9 (no_u8 _ _ _ _) hG; replace bc := Below.off bc bc.size (by omega) hG; replace k9 := k9.put2 (.int .i64 L.length) (.slice A2 n2 c2); clear hG; obtain ⟨zkb_0, zkb_1, zkb_0f, zkb_1f⟩ := kb.two; obtain ⟨⟨zkp_0, zkp_1, zkp_2, zkp_3, zkp_4⟩, zkp_0f, zkp_1f, zkp_2f, zkp_3f, zkp_4f⟩ := kp.five) | (go_at_call 46; refine (HS.out _ bc).mono ?_; rintro e w2 ⟨A2, n2, c2, rfl, v2, hC⟩; dsimp only at v2 ⊢; replace kb := kb.on hC; replace kp := kp.on hC; replace ku := ku.on hC; replace bc := bc.trans (hC.mono bc.size); clear hC; obtain ⟨pkb_0, pkb_1, pkb_0f, pkb_1f⟩ := kb.two; obtain ⟨⟨pkp_0, pkp_1, pkp_2, pkp_3, pkp_4⟩, pkp_0f, pkp_1f, pkp_2f, pkp_3f, pkp_4f⟩ := kp.five; have al := Below.al w2 (.cells #[.int .i64 0, .slice none 0 0] 28); obtain ⟨qkb_0, qkb_1, -, -⟩ := (Blk.on (w := w2) kb al).two; obtain ⟨⟨qkp_0, qkp_1, qkp_2, qkp_3, qkp_4⟩, -⟩ := (Blk.on (w := w2) kp al).five; clear al; have al := Below.al w2 (.cells #[.int .i64 L.length, .slice A2 n2 c2] 28); obtain ⟨rkb_0, rkb_1, -, -⟩ := (Blk.on (w := w2) kb al).two; obtain ⟨⟨rkp_0, rkp_1, rkp_2, rkp_3, rkp_4⟩, -⟩ := (Blk.on (w := w2) kp al).five; clear al) | (have z_k9_kb := kb.lt; have z_k9_kp := kp.lt; have z_k9_ku := ku.lt; have zb_k9 := bc.size; have k9 := Blk.new w1 28 #[.int .i64 0, .slice none 0 0]; have al := Below.al w1 (.cells #[.int .i64 0, .slice none 0 0] 28); replace kb := kb.on al; replace kp := kp.on al; replace ku := ku.on al; replace bc := bc.trans (al.mono bc.size); clear al; go_at_call 46; refine (HS.out _ bc).mono ?_; rintro e w2 ⟨A2, n2, c2, rfl, v2, hC⟩; dsimp only at v2 ⊢; replace kb := kb.on hC; replace kp := kp.on hC; replace ku := ku.on hC; replace k9 := k9.on hC; replace bc := bc.trans (hC.mono bc.size); clear hC; generalize w1.heap.size = g9 at *; obtain ⟨pkb_0, pkb_1, pkb_0f, pkb_1f⟩ := kb.two; obtain ⟨⟨pkp_0, pkp_1, pkp_2, pkp_3, pkp_4⟩, pkp_0f, pkp_1f, pkp_2f, pkp_3f, pkp_4f⟩ := kp.five; obtain ⟨ok9_0, ok9_1, ok9_0f, ok9_1f⟩ := k9.two; have hG := st2 w2 (g9) (.int .i64 L.length) (.slice A2 n2 c2); replace kb := kb.grown hG (some_ne (by omega)); replace kp := kp.grown hG (some_ne (by omega)); replace ku := ku.grown hG (some_ne (by omega)); replace v2 := v2.off k9 (no_u8 _ _ _ _) hG; replace bc := Below.off bc bc.size (by omega) hG; replace k9 := k9.put2 (.int .i64 L.length) (.slice A2 n2 c2); clear hG; obtain ⟨zkb_0, zkb_1, zkb_0f, zkb_1f⟩ := kb.two; obtain ⟨⟨zkp_0, zkp_1, zkp_2, zkp_3, zkp_4⟩, zkp_0f, zkp_1f, zkp_2f, zkp_3f, zkp_4f⟩ := kp.five) | (go_at_call 41; refine (head_3 _).mono ?_; rintro e w1 ⟨rfl, hC⟩; dsimp only; replace kb := kb.on hC; replace kp := kp.on hC; replace ku := ku.on hC; replace bc := bc.trans (hC.mono bc.size); clear hC; obtain ⟨pkb_0, pkb_1, pkb_0f, pkb_1f⟩ := kb.two; obtain ⟨⟨pkp_0, pkp_1, pkp_2, pkp_3, pkp_4⟩, pkp_0f, pkp_1f, pkp_2f, pkp_3f, pkp_4f⟩ := kp.five; have al := Below.al w1 (.cells #[.int .i64 0, .slice none 0 0] 28); obtain ⟨qkb_0, qkb_1, -, -⟩ := (Blk.on (w := w1) kb al).two; obtain ⟨⟨qkp_0, qkp_1, qkp_2, qkp_3, qkp_4⟩, -⟩ := (Blk.on (w := w1) kp al).five; clear al) | (have z_k9_kb := kb.lt; have z_k9_kp := kp.lt; have z_k9_ku := ku.lt; have zb_k9 := bc.size; have k9 := Blk.new u1.drew 28 #[.int .i64 0, .slice none 0 0]; have hsz : u1.drew.heap.size = u1.heap.size := (by first | rfl | simp); rw [hsz] at k9 z_k9_kb z_k9_kp z_k9_ku zb_k9; clear hsz; have al := Below.al u1.drew (.cells #[.int .i64 0, .slice none 0 0] 28); replace kb := kb.on al; replace kp := kp.on al; replace ku := ku.on al; replace bc := bc.trans (al.mono bc.size); clear al; go_at_call 41; refine (head_3 _).mono ?_; rintro e w1 ⟨rfl, hC⟩; dsimp only; replace kb := kb.on hC; replace kp := kp.on hC; replace ku := ku.on hC; replace k9 := k9.on hC; replace bc := bc.trans (hC.mono bc.size); clear hC; generalize u1.heap.size = g9 at *; obtain ⟨pkb_0, pkb_1, pkb_0f, pkb_1f⟩ := kb.two; obtain ⟨⟨pkp_0, pkp_1, pkp_2, pkp_3, pkp_4⟩, pkp_0f, pkp_1f, pkp_2f, pkp_3f, pkp_4f⟩ := kp.five))
    all_goals first
      | (have z_k9_kb := kb.lt
         have z_k9_kp := kp.lt
         have z_k9_ku := ku.lt
         have zb_k9 := bc.size
         have k9 := Blk.new w2 28 #[.int .i64 L.length, .slice A2 n2 c2]
         have al := Below.al w2 (.cells #[.int .i64 L.length, .slice A2 n2 c2] 28)
         replace kb := kb.on al; replace kp := kp.on al; replace ku := ku.on al; replace v2 := v2.on al; replace bc := bc.trans (al.mono bc.size); clear al
         obtain ⟨pkb_0, pkb_1, pkb_0f, pkb_1f⟩ := kb.two
         obtain ⟨⟨pkp_0, pkp_1, pkp_2, pkp_3, pkp_4⟩, pkp_0f, pkp_1f, pkp_2f, pkp_3f, pkp_4f⟩ := kp.five
         obtain ⟨pku_0, pku_1, pku_0f, pku_1f⟩ := ku.two
         obtain ⟨pk9_0, pk9_1, pk9_0f, pk9_1f⟩ := k9.two
         go_wp2_with fail
         clear pkb_0 pkb_1 pkb_0f pkb_1f pkp_0 pkp_1 pkp_2 pkp_3 pkp_4 pkp_0f pkp_1f pkp_2f pkp_3f pkp_4f pku_0 pku_1 pku_0f pku_1f pk9_0 pk9_1 pk9_0f pk9_1f
         generalize w2.alloc (.cells #[.int .i64 L.length, .slice A2 n2 c2] 28) = u2 at *
         generalize w2.heap.size = g2 at *
         refine (HO.out _ A2 n2 c2 (hT.on bc) v2).mono ?_
         rintro e w3 ⟨A3, n3, c3, rfl, v3, hC⟩
         dsimp only at v3 ⊢
         replace kb := kb.on hC; replace kp := kp.on hC; replace ku := ku.on hC; replace k9 := k9.on hC; replace v2 := v2.on hC; replace bc := bc.trans (hC.mono bc.size); clear hC
         have z_kt_kb := kb.lt
         have z_kt_kp := kp.lt
         have z_kt_ku := ku.lt
         have z_kt_k9 := k9.lt
         have zb_kt := bc.size
         have kt := Blk.new w3 28 #[.int .i64 ([] : List Bool).length, .slice A3 n3 c3]
         have al := Below.al w3 (.cells #[.int .i64 ([] : List Bool).length, .slice A3 n3 c3] 28)
         replace kb := kb.on al; replace kp := kp.on al; replace ku := ku.on al; replace k9 := k9.on al; replace v2 := v2.on al; replace v3 := v3.on al; replace bc := bc.trans (al.mono bc.size); clear al
         obtain ⟨⟨pkp_0, pkp_1, pkp_2, pkp_3, pkp_4⟩, pkp_0f, pkp_1f, pkp_2f, pkp_3f, pkp_4f⟩ := kp.five
         go_wp2
         go_ret
         exact ⟨by rw [HZ.out]; rfl, bc⟩)
      | (obtain ⟨pkb_0, pkb_1, pkb_0f, pkb_1f⟩ := kb.two
         obtain ⟨⟨pkp_0, pkp_1, pkp_2, pkp_3, pkp_4⟩, pkp_0f, pkp_1f, pkp_2f, pkp_3f, pkp_4f⟩ := kp.five
         obtain ⟨pku_0, pku_1, pku_0f, pku_1f⟩ := ku.two
         obtain ⟨pk9_0, pk9_1, pk9_0f, pk9_1f⟩ := k9.two
         go_wp2_with fail
         clear pkb_0 pkb_1 pkb_0f pkb_1f pkp_0 pkp_1 pkp_2 pkp_3 pkp_4 pkp_0f pkp_1f pkp_2f pkp_3f pkp_4f pku_0 pku_1 pku_0f pku_1f pk9_0 pk9_1 pk9_0f pk9_1f
         generalize (w2.setCell ⟨g9, 0, none⟩ (.int .i64 L.length)).setCell ⟨g9, 1, none⟩ (.slice A2 n2 c2) = u2 at *
         refine (HO.out _ A2 n2 c2 (hT.on bc) v2).mono ?_
         rintro e w3 ⟨A3, n3, c3, rfl, v3, hC⟩
         dsimp only at v3 ⊢
         replace kb := kb.on hC; replace kp := kp.on hC; replace ku := ku.on hC; replace k9 := k9.on hC; replace v2 := v2.on hC; replace bc := bc.trans (hC.mono bc.size); clear hC
         have z_kt_kb := kb.lt
         have z_kt_kp := kp.lt
         have z_kt_ku := ku.lt
         have z_kt_k9 := k9.lt
         have zb_kt := bc.size
         have kt := Blk.new w3 28 #[.int .i64 ([] : List Bool).length, .slice A3 n3 c3]
         have al := Below.al w3 (.cells #[.int .i64 ([] : List Bool).length, .slice A3 n3 c3] 28)
         replace kb := kb.on al; replace kp := kp.on al; replace ku := ku.on al; replace k9 := k9.on al; replace v2 := v2.on al; replace v3 := v3.on al; replace bc := bc.trans (al.mono bc.size); clear al
         obtain ⟨⟨pkp_0, pkp_1, pkp_2, pkp_3, pkp_4⟩, pkp_0f, pkp_1f, pkp_2f, pkp_3f, pkp_4f⟩ := kp.five
         go_wp2
         go_ret
         exact ⟨by rw [HZ.out]; rfl, bc⟩)
set_option maxRecDepth 8000 in
set_option maxHeartbeats 2000000 in
theorem sums_4 {w : World} {L U : List Bool} {A B : Option Addr} {n m : Nat} (h : Bv w L A n) (hu : Bv w U B m) (c d : Nat) (hl : 79 ≤ L.length) (hT : Tab w) :
    Calls Tryd.prog 47 #[.agg #[.int .i64 L.length, .slice A n c], .agg #[.int .i64 3, .int .i64 2, .int .i64 24, .int .i64 24, .int .i64 8], .agg #[.int .i64 U.length, .slice B m d]] w fun e w' => e = .returned (.bool ((decide (rem 0 (L.take 55) = 0) && decide (rem 0 (U ++ L) = 0)))) ∧ Below w.heap.size w w' := by
  obtain ⟨Z, hZ⟩ : ∃ Z, Z = (decide (rem 0 (L.take 55) = 0) && decide (rem 0 (U ++ L) = 0)) := ⟨_, rfl⟩
  rw [← hZ]
  have hw : IntKind.i64.wrap 55 = 55 := by decide
  have hs := fun (W : World) (hb : Below w.heap.size w W) => slice_list (h.on hb) c (N := L.length) (ai := 0) (bi := 55) (a := 0) (b := 55) rfl rfl rfl (by decide) (by omega)
  rw [List.drop_zero, Nat.sub_zero] at hs
  have ho := fun (W : World) (A1 : Option Addr) (n1 c1 : Nat) (hT : Tab W) (hv : Bv W (L.take 55) A1 n1) => open_list hv (Bv.nil _) c1 0 (M := 0) rfl rfl (by rw [List.length_take]; omega) hT
  simp only [List.nil_append] at ho
  generalize hp : frontOf (L.take 55) = P1 at *
  have hlt : (L.take 55).length = 55 := by rw [List.length_take]; omega
  have ho2 := fun (W : World) (hb : Below w.heap.size w W) => open_list (h.on hb) (hu.on hb) c d rfl rfl (by omega) (hT.on hb)
  generalize frontOf L = P2 at *
  by_cases hr : rem 0 (L.take 55) = 0
  · rw [if_pos hr] at ho
    by_cases hr2 : rem 0 (U ++ L) = 0
    · simp only [if_pos hr2] at ho2
      have hZ1 : Z = true := by rw [hZ]; simp [hr, hr2]
      have HS := Lib.hid hs; have HO := Lib.hid ho; have HO2 := Lib.hid ho2; have HZ := Lib.hid hZ1
      clear hs ho ho2 hZ hZ1 hr hr2 hp h hu hl hlt
      obtain ⟨kb, kp, ku, bc⟩ := bx3 w #[.int .i64 L.length, .slice A n c] #[.int .i64 3, .int .i64 2, .int .i64 24, .int .i64 24, .int .i64 8] #[.int .i64 U.length, .slice B m d] 28 51 28
      go_enter Tryd.func47, Tryd.ntmps47
      go_wp2_with fail
      generalize ((w.alloc (.cells #[.int .i64 L.length, .slice A n c] 28)).alloc (.cells #[.int .i64 3, .int .i64 2, .int .i64 24, .int .i64 24, .int .i64 8] 51)).alloc (.cells #[.int .i64 U.length, .slice B m d] 28) = u1 at *
      have hdr : Below u1.heap.size u1 u1.drew := (Below.refl _ _).drew
      replace kb := kb.on hdr; replace kp := kp.on hdr; replace ku := ku.on hdr; replace bc := bc.trans (hdr.mono bc.size)
      clear hdr
      obtain ⟨pkb_0, pkb_1, pkb_0f, pkb_1f⟩ := kb.two
      obtain ⟨⟨pkp_0, pkp_1, pkp_2, pkp_3, pkp_4⟩, pkp_0f, pkp_1f, pkp_2f, pkp_3f, pkp_4f⟩ := kp.five
      have al := Below.al u1 (.cells #[.int .i64 0, .slice none 0 0] 28)
      obtain ⟨qkb_0, qkb_1, -, -⟩ := (Blk.on (w := u1) kb al).two
      obtain ⟨⟨qkp_0, qkp_1, qkp_2, qkp_3, qkp_4⟩, -⟩ := (Blk.on (w := u1) kp al).five
      clear al
      go_region_held3 (fun w' => w'.cell? ⟨w.heap.size, 0, none⟩ = some (.int .i64 L.length) ∧ w'.cell? ⟨w.heap.size, 1, none⟩ = some (.slice A n c) ∧ w'.cell? ⟨w.heap.size + 1, 0, none⟩ = some (.int .i64 3) ∧ w'.cell? ⟨w.heap.size + 1, 1, none⟩ = some (.int .i64 2) ∧ w'.cell? ⟨w.heap.size + 1, 2, none⟩ = some (.int .i64 24) ∧ w'.cell? ⟨w.heap.size + 1, 3, none⟩ = some (.int .i64 24) ∧ w'.cell? ⟨w.heap.size + 1, 4, none⟩ = some (.int .i64 8)) (first | exact ⟨zkb_0, zkb_1, zkp_0, zkp_1, zkp_2, zkp_3, zkp_4⟩ | exact ⟨rkb_0, rkb_1, rkp_0, rkp_1, rkp_2, rkp_3, rkp_4⟩ | exact ⟨qkb_0, qkb_1, qkp_0, qkp_1, qkp_2, qkp_3, qkp_4⟩ | exact ⟨pkb_0, pkb_1, pkp_0, pkp_1, pkp_2, pkp_3, pkp_4⟩) (first | (have _ := k9; go_at_call 46; refine (HS.out _ bc).mono ?_; rintro e w2 ⟨A2, n2, c2, rfl, v2, hC⟩; dsimp only at v2 ⊢; replace kb := kb.on hC; replace kp := kp.on hC; replace ku := ku.on hC; replace k9 := k9.on hC; replace bc := bc.trans (hC.mono bc.size); clear hC; generalize L.take 55 = L5 at *; obtain ⟨pkb_0, pkb_1, pkb_0f, pkb_1f⟩ := kb.two; obtain ⟨⟨pkp_0, pkp_1, pkp_2, pkp_3, pkp_4⟩, pkp_0f, pkp_1f, pkp_2f, pkp_3f, pkp_4f⟩ := kp.five; obtain ⟨ok9_0, ok9_1, ok9_0f, ok9_1f⟩ := k9.two; have hG := st2 w2 (g9) (.int .i64 L5.length) (.slice A2 n2 c2); replace kb := kb.grown hG (some_ne (by omega)); replace kp := kp.grown hG (some_ne (by omega)); replace ku := ku.grown hG (some_ne (by omega)); replace v2 := v2.off k9 (no_u8 _ _ _ _) hG; replace bc := Below.off bc bc.size (by omega) hG; replace k9 := k9.put2 (.int .i64 L5.length) (.slice A2 n2 c2); clear hG; obtain ⟨zkb_0, zkb_1, zkb_0f, zkb_1f⟩ := kb.two; obtain ⟨⟨zkp_0, zkp_1, zkp_2, zkp_3, zkp_4⟩, zkp_0f, zkp_1f, zkp_2f, zkp_3f, zkp_4f⟩ := kp.five) | (go_at_call 46; refine (HS.out _ bc).mono ?_; rintro e w2 ⟨A2, n2, c2, rfl, v2, hC⟩; dsimp only at v2 ⊢; replace kb := kb.on hC; replace kp := kp.on hC; replace ku := ku.on hC; replace bc := bc.trans (hC.mono bc.size); clear hC; generalize L.take 55 = L5 at *; obtain ⟨pkb_0, pkb_1, pkb_0f, pkb_1f⟩ := kb.two; obtain ⟨⟨pkp_0, pkp_1, pkp_2, pkp_3, pkp_4⟩, pkp_0f, pkp_1f, pkp_2f, pkp_3f, pkp_4f⟩ := kp.five; have al := Below.al w2 (.cells #[.int .i64 0, .slice none 0 0] 28); obtain ⟨qkb_0, qkb_1, -, -⟩ := (Blk.on (w := w2) kb al).two; obtain ⟨⟨qkp_0, qkp_1, qkp_2, qkp_3, qkp_4⟩, -⟩ := (Blk.on (w := w2) kp al).five; clear al; have al := Below.al w2 (.cells #[.int .i64 L5.length, .slice A2 n2 c2] 28); obtain ⟨rkb_0, rkb_1, -, -⟩ := (Blk.on (w := w2) kb al).two; obtain ⟨⟨rkp_0, rkp_1, rkp_2, rkp_3, rkp_4⟩, -⟩ := (Blk.on (w := w2) kp al).five; clear al) | (have z_k9_kb := kb.lt; have z_k9_kp := kp.lt; have z_k9_ku := ku.lt; have zb_k9 := bc.size; have k9 := Blk.new w1 28 #[.int .i64 0, .slice none 0 0]; have al := Below.al w1 (.cells #[.int .i64 0, .slice none 0 0] 28); replace kb := kb.on al; replace kp := kp.on al; replace ku := ku.on al; replace bc := bc.trans (al.mono bc.size); clear al; go_at_call 46; refine (HS.out _ bc).mono ?_; rintro e w2 ⟨A2, n2, c2, rfl, v2, hC⟩; dsimp only at v2 ⊢; replace kb := kb.on hC; replace kp := kp.on hC; replace ku := ku.on hC; replace k9 := k9.on hC; replace bc := bc.trans (hC.mono bc.size); clear hC; generalize L.take 55 = L5 at *; generalize w1.heap.size = g9 at *; obtain ⟨pkb_0, pkb_1, pkb_0f, pkb_1f⟩ := kb.two; obtain ⟨⟨pkp_0, pkp_1, pkp_2, pkp_3, pkp_4⟩, pkp_0f, pkp_1f, pkp_2f, pkp_3f, pkp_4f⟩ := kp.five; obtain ⟨ok9_0, ok9_1, ok9_0f, ok9_1f⟩ := k9.two; have hG := st2 w2 (g9) (.int .i64 L5.length) (.slice A2 n2 c2); replace kb := kb.grown hG (some_ne (by omega)); replace kp := kp.grown hG (some_ne (by omega)); replace ku := ku.grown hG (some_ne (by omega)); replace v2 := v2.off k9 (no_u8 _ _ _ _) hG; replace bc := Below.off bc bc.size (by omega) hG; replace k9 := k9.put2 (.int .i64 L5.length) (.slice A2 n2 c2); clear hG; obtain ⟨zkb_0, zkb_1, zkb_0f, zkb_1f⟩ := kb.two; obtain ⟨⟨zkp_0, zkp_1, zkp_2, zkp_3, zkp_4⟩, zkp_0f, zkp_1f, zkp_2f, zkp_3f, zkp_4f⟩ := kp.five) | (go_at_call 41; refine (head_4 _).mono ?_; rintro e w1 ⟨rfl, hC⟩; dsimp only; replace kb := kb.on hC; replace kp := kp.on hC; replace ku := ku.on hC; replace bc := bc.trans (hC.mono bc.size); clear hC; obtain ⟨pkb_0, pkb_1, pkb_0f, pkb_1f⟩ := kb.two; obtain ⟨⟨pkp_0, pkp_1, pkp_2, pkp_3, pkp_4⟩, pkp_0f, pkp_1f, pkp_2f, pkp_3f, pkp_4f⟩ := kp.five; have al := Below.al w1 (.cells #[.int .i64 0, .slice none 0 0] 28); obtain ⟨qkb_0, qkb_1, -, -⟩ := (Blk.on (w := w1) kb al).two; obtain ⟨⟨qkp_0, qkp_1, qkp_2, qkp_3, qkp_4⟩, -⟩ := (Blk.on (w := w1) kp al).five; clear al) | (have z_k9_kb := kb.lt; have z_k9_kp := kp.lt; have z_k9_ku := ku.lt; have zb_k9 := bc.size; have k9 := Blk.new u1.drew 28 #[.int .i64 0, .slice none 0 0]; have hsz : u1.drew.heap.size = u1.heap.size := (by first | rfl | simp); rw [hsz] at k9 z_k9_kb z_k9_kp z_k9_ku zb_k9; clear hsz; have al := Below.al u1.drew (.cells #[.int .i64 0, .slice none 0 0] 28); replace kb := kb.on al; replace kp := kp.on al; replace ku := ku.on al; replace bc := bc.trans (al.mono bc.size); clear al; go_at_call 41; refine (head_4 _).mono ?_; rintro e w1 ⟨rfl, hC⟩; dsimp only; replace kb := kb.on hC; replace kp := kp.on hC; replace ku := ku.on hC; replace k9 := k9.on hC; replace bc := bc.trans (hC.mono bc.size); clear hC; generalize u1.heap.size = g9 at *; obtain ⟨pkb_0, pkb_1, pkb_0f, pkb_1f⟩ := kb.two; obtain ⟨⟨pkp_0, pkp_1, pkp_2, pkp_3, pkp_4⟩, pkp_0f, pkp_1f, pkp_2f, pkp_3f, pkp_4f⟩ := kp.five))
      all_goals first
        | (have z_k9_kb := kb.lt
           have z_k9_kp := kp.lt
           have z_k9_ku := ku.lt
           have zb_k9 := bc.size
           have k9 := Blk.new w2 28 #[.int .i64 L5.length, .slice A2 n2 c2]
           have al := Below.al w2 (.cells #[.int .i64 L5.length, .slice A2 n2 c2] 28)
           replace kb := kb.on al; replace kp := kp.on al; replace ku := ku.on al; replace v2 := v2.on al; replace bc := bc.trans (al.mono bc.size); clear al
           obtain ⟨pkb_0, pkb_1, pkb_0f, pkb_1f⟩ := kb.two
           obtain ⟨⟨pkp_0, pkp_1, pkp_2, pkp_3, pkp_4⟩, pkp_0f, pkp_1f, pkp_2f, pkp_3f, pkp_4f⟩ := kp.five
           obtain ⟨pku_0, pku_1, pku_0f, pku_1f⟩ := ku.two
           obtain ⟨pk9_0, pk9_1, pk9_0f, pk9_1f⟩ := k9.two
           go_wp2_with fail
           clear pkb_0 pkb_1 pkb_0f pkb_1f pkp_0 pkp_1 pkp_2 pkp_3 pkp_4 pkp_0f pkp_1f pkp_2f pkp_3f pkp_4f pku_0 pku_1 pku_0f pku_1f pk9_0 pk9_1 pk9_0f pk9_1f
           generalize w2.alloc (.cells #[.int .i64 L5.length, .slice A2 n2 c2] 28) = u2 at *
           generalize w2.heap.size = g2 at *
           refine (HO.out _ A2 n2 c2 (hT.on bc) v2).mono ?_
           rintro e w3 ⟨A3, n3, c3, rfl, v3, hC⟩
           dsimp only at v3 ⊢
           replace kb := kb.on hC; replace kp := kp.on hC; replace ku := ku.on hC; replace k9 := k9.on hC; replace v2 := v2.on hC; replace bc := bc.trans (hC.mono bc.size); clear hC
           have z_kt_kb := kb.lt
           have z_kt_kp := kp.lt
           have z_kt_ku := ku.lt
           have z_kt_k9 := k9.lt
           have zb_kt := bc.size
           have kt := Blk.new w3 28 #[.int .i64 P1.length, .slice A3 n3 c3]
           have al := Below.al w3 (.cells #[.int .i64 P1.length, .slice A3 n3 c3] 28)
           replace kb := kb.on al; replace kp := kp.on al; replace ku := ku.on al; replace k9 := k9.on al; replace v2 := v2.on al; replace v3 := v3.on al; replace bc := bc.trans (al.mono bc.size); clear al
           obtain ⟨pkb_0, pkb_1, pkb_0f, pkb_1f⟩ := kb.two
           obtain ⟨⟨pkp_0, pkp_1, pkp_2, pkp_3, pkp_4⟩, pkp_0f, pkp_1f, pkp_2f, pkp_3f, pkp_4f⟩ := kp.five
           obtain ⟨pku_0, pku_1, pku_0f, pku_1f⟩ := ku.two
           go_wp2_with fail
           clear pkb_0 pkb_1 pkb_0f pkb_1f pkp_0 pkp_1 pkp_2 pkp_3 pkp_4 pkp_0f pkp_1f pkp_2f pkp_3f pkp_4f pku_0 pku_1 pku_0f pku_1f
           generalize w3.alloc (.cells #[.int .i64 P1.length, .slice A3 n3 c3] 28) = u3 at *
           generalize w3.heap.size = g3 at *
           refine (HO2.out _ bc).mono ?_
           rintro e w4 ⟨A4, n4, c4, rfl, v4, hC⟩
           dsimp only at v4 ⊢
           replace kb := kb.on hC; replace kp := kp.on hC; replace ku := ku.on hC; replace k9 := k9.on hC; replace kt := kt.on hC; replace v2 := v2.on hC; replace v3 := v3.on hC; replace bc := bc.trans (hC.mono bc.size); clear hC
           have z_kw_kb := kb.lt
           have z_kw_kp := kp.lt
           have z_kw_ku := ku.lt
           have z_kw_k9 := k9.lt
           have z_kw_kt := kt.lt
           have zb_kw := bc.size
           have kw := Blk.new w4 28 #[.int .i64 P2.length, .slice A4 n4 c4]
           have al := Below.al w4 (.cells #[.int .i64 P2.length, .slice A4 n4 c4] 28)
           replace kb := kb.on al; replace kp := kp.on al; replace ku := ku.on al; replace k9 := k9.on al; replace kt := kt.on al; replace v2 := v2.on al; replace v3 := v3.on al; replace v4 := v4.on al; replace bc := bc.trans (al.mono bc.size); clear al
           go_wp2
           go_ret
           exact ⟨by rw [HZ.out]; rfl, bc⟩)
        | (obtain ⟨pkb_0, pkb_1, pkb_0f, pkb_1f⟩ := kb.two
           obtain ⟨⟨pkp_0, pkp_1, pkp_2, pkp_3, pkp_4⟩, pkp_0f, pkp_1f, pkp_2f, pkp_3f, pkp_4f⟩ := kp.five
           obtain ⟨pku_0, pku_1, pku_0f, pku_1f⟩ := ku.two
           obtain ⟨pk9_0, pk9_1, pk9_0f, pk9_1f⟩ := k9.two
           go_wp2_with fail
           clear pkb_0 pkb_1 pkb_0f pkb_1f pkp_0 pkp_1 pkp_2 pkp_3 pkp_4 pkp_0f pkp_1f pkp_2f pkp_3f pkp_4f pku_0 pku_1 pku_0f pku_1f pk9_0 pk9_1 pk9_0f pk9_1f
           generalize (w2.setCell ⟨g9, 0, none⟩ (.int .i64 L5.length)).setCell ⟨g9, 1, none⟩ (.slice A2 n2 c2) = u2 at *
           refine (HO.out _ A2 n2 c2 (hT.on bc) v2).mono ?_
           rintro e w3 ⟨A3, n3, c3, rfl, v3, hC⟩
           dsimp only at v3 ⊢
           replace kb := kb.on hC; replace kp := kp.on hC; replace ku := ku.on hC; replace k9 := k9.on hC; replace v2 := v2.on hC; replace bc := bc.trans (hC.mono bc.size); clear hC
           have z_kt_kb := kb.lt
           have z_kt_kp := kp.lt
           have z_kt_ku := ku.lt
           have z_kt_k9 := k9.lt
           have zb_kt := bc.size
           have kt := Blk.new w3 28 #[.int .i64 P1.length, .slice A3 n3 c3]
           have al := Below.al w3 (.cells #[.int .i64 P1.length, .slice A3 n3 c3] 28)
           replace kb := kb.on al; replace kp := kp.on al; replace ku := ku.on al; replace k9 := k9.on al; replace v2 := v2.on al; replace v3 := v3.on al; replace bc := bc.trans (al.mono bc.size); clear al
           obtain ⟨pkb_0, pkb_1, pkb_0f, pkb_1f⟩ := kb.two
           obtain ⟨⟨pkp_0, pkp_1, pkp_2, pkp_3, pkp_4⟩, pkp_0f, pkp_1f, pkp_2f, pkp_3f, pkp_4f⟩ := kp.five
           obtain ⟨pku_0, pku_1, pku_0f, pku_1f⟩ := ku.two
           go_wp2_with fail
           clear pkb_0 pkb_1 pkb_0f pkb_1f pkp_0 pkp_1 pkp_2 pkp_3 pkp_4 pkp_0f pkp_1f pkp_2f pkp_3f pkp_4f pku_0 pku_1 pku_0f pku_1f
           generalize w3.alloc (.cells #[.int .i64 P1.length, .slice A3 n3 c3] 28) = u3 at *
           generalize w3.heap.size = g3 at *
           refine (HO2.out _ bc).mono ?_
           rintro e w4 ⟨A4, n4, c4, rfl, v4, hC⟩
           dsimp only at v4 ⊢
           replace kb := kb.on hC; replace kp := kp.on hC; replace ku := ku.on hC; replace k9 := k9.on hC; replace kt := kt.on hC; replace v2 := v2.on hC; replace v3 := v3.on hC; replace bc := bc.trans (hC.mono bc.size); clear hC
           have z_kw_kb := kb.lt
           have z_kw_kp := kp.lt
           have z_kw_ku := ku.lt
           have z_kw_k9 := k9.lt
           have z_kw_kt := kt.lt
           have zb_kw := bc.size
           have kw := Blk.new w4 28 #[.int .i64 P2.length, .slice A4 n4 c4]
           have al := Below.al w4 (.cells #[.int .i64 P2.length, .slice A4 n4 c4] 28)
           replace kb := kb.on al; replace kp := kp.on al; replace ku := ku.on al; replace k9 := k9.on al; replace kt := kt.on al; replace v2 := v2.on al; replace v3 := v3.on al; replace v4 := v4.on al; replace bc := bc.trans (al.mono bc.size); clear al
           go_wp2
           go_ret
           exact ⟨by rw [HZ.out]; rfl, bc⟩)
    · simp only [if_neg hr2] at ho2
      have hZ1 : Z = false := by rw [hZ]; simp [hr, hr2]
      have HS := Lib.hid hs; have HO := Lib.hid ho; have HO2 := Lib.hid ho2; have HZ := Lib.hid hZ1
      clear hs ho ho2 hZ hZ1 hr hr2 hp h hu hl hlt
      obtain ⟨kb, kp, ku, bc⟩ := bx3 w #[.int .i64 L.length, .slice A n c] #[.int .i64 3, .int .i64 2, .int .i64 24, .int .i64 24, .int .i64 8] #[.int .i64 U.length, .slice B m d] 28 51 28
      go_enter Tryd.func47, Tryd.ntmps47
      go_wp2_with fail
      generalize ((w.alloc (.cells #[.int .i64 L.length, .slice A n c] 28)).alloc (.cells #[.int .i64 3, .int .i64 2, .int .i64 24, .int .i64 24, .int .i64 8] 51)).alloc (.cells #[.int .i64 U.length, .slice B m d] 28) = u1 at *
      have hdr : Below u1.heap.size u1 u1.drew := (Below.refl _ _).drew
      replace kb := kb.on hdr; replace kp := kp.on hdr; replace ku := ku.on hdr; replace bc := bc.trans (hdr.mono bc.size)
      clear hdr
      obtain ⟨pkb_0, pkb_1, pkb_0f, pkb_1f⟩ := kb.two
      obtain ⟨⟨pkp_0, pkp_1, pkp_2, pkp_3, pkp_4⟩, pkp_0f, pkp_1f, pkp_2f, pkp_3f, pkp_4f⟩ := kp.five
      have al := Below.al u1 (.cells #[.int .i64 0, .slice none 0 0] 28)
      obtain ⟨qkb_0, qkb_1, -, -⟩ := (Blk.on (w := u1) kb al).two
      obtain ⟨⟨qkp_0, qkp_1, qkp_2, qkp_3, qkp_4⟩, -⟩ := (Blk.on (w := u1) kp al).five
      clear al
      go_region_held3 (fun w' => w'.cell? ⟨w.heap.size, 0, none⟩ = some (.int .i64 L.length) ∧ w'.cell? ⟨w.heap.size, 1, none⟩ = some (.slice A n c) ∧ w'.cell? ⟨w.heap.size + 1, 0, none⟩ = some (.int .i64 3) ∧ w'.cell? ⟨w.heap.size + 1, 1, none⟩ = some (.int .i64 2) ∧ w'.cell? ⟨w.heap.size + 1, 2, none⟩ = some (.int .i64 24) ∧ w'.cell? ⟨w.heap.size + 1, 3, none⟩ = some (.int .i64 24) ∧ w'.cell? ⟨w.heap.size + 1, 4, none⟩ = some (.int .i64 8)) (first | exact ⟨zkb_0, zkb_1, zkp_0, zkp_1, zkp_2, zkp_3, zkp_4⟩ | exact ⟨rkb_0, rkb_1, rkp_0, rkp_1, rkp_2, rkp_3, rkp_4⟩ | exact ⟨qkb_0, qkb_1, qkp_0, qkp_1, qkp_2, qkp_3, qkp_4⟩ | exact ⟨pkb_0, pkb_1, pkp_0, pkp_1, pkp_2, pkp_3, pkp_4⟩) (first | (have _ := k9; go_at_call 46; refine (HS.out _ bc).mono ?_; rintro e w2 ⟨A2, n2, c2, rfl, v2, hC⟩; dsimp only at v2 ⊢; replace kb := kb.on hC; replace kp := kp.on hC; replace ku := ku.on hC; replace k9 := k9.on hC; replace bc := bc.trans (hC.mono bc.size); clear hC; generalize L.take 55 = L5 at *; obtain ⟨pkb_0, pkb_1, pkb_0f, pkb_1f⟩ := kb.two; obtain ⟨⟨pkp_0, pkp_1, pkp_2, pkp_3, pkp_4⟩, pkp_0f, pkp_1f, pkp_2f, pkp_3f, pkp_4f⟩ := kp.five; obtain ⟨ok9_0, ok9_1, ok9_0f, ok9_1f⟩ := k9.two; have hG := st2 w2 (g9) (.int .i64 L5.length) (.slice A2 n2 c2); replace kb := kb.grown hG (some_ne (by omega)); replace kp := kp.grown hG (some_ne (by omega)); replace ku := ku.grown hG (some_ne (by omega)); replace v2 := v2.off k9 (no_u8 _ _ _ _) hG; replace bc := Below.off bc bc.size (by omega) hG; replace k9 := k9.put2 (.int .i64 L5.length) (.slice A2 n2 c2); clear hG; obtain ⟨zkb_0, zkb_1, zkb_0f, zkb_1f⟩ := kb.two; obtain ⟨⟨zkp_0, zkp_1, zkp_2, zkp_3, zkp_4⟩, zkp_0f, zkp_1f, zkp_2f, zkp_3f, zkp_4f⟩ := kp.five) | (go_at_call 46; refine (HS.out _ bc).mono ?_; rintro e w2 ⟨A2, n2, c2, rfl, v2, hC⟩; dsimp only at v2 ⊢; replace kb := kb.on hC; replace kp := kp.on hC; replace ku := ku.on hC; replace bc := bc.trans (hC.mono bc.size); clear hC; generalize L.take 55 = L5 at *; obtain ⟨pkb_0, pkb_1, pkb_0f, pkb_1f⟩ := kb.two; obtain ⟨⟨pkp_0, pkp_1, pkp_2, pkp_3, pkp_4⟩, pkp_0f, pkp_1f, pkp_2f, pkp_3f, pkp_4f⟩ := kp.five; have al := Below.al w2 (.cells #[.int .i64 0, .slice none 0 0] 28); obtain ⟨qkb_0, qkb_1, -, -⟩ := (Blk.on (w := w2) kb al).two; obtain ⟨⟨qkp_0, qkp_1, qkp_2, qkp_3, qkp_4⟩, -⟩ := (Blk.on (w := w2) kp al).five; clear al; have al := Below.al w2 (.cells #[.int .i64 L5.length, .slice A2 n2 c2] 28); obtain ⟨rkb_0, rkb_1, -, -⟩ := (Blk.on (w := w2) kb al).two; obtain ⟨⟨rkp_0, rkp_1, rkp_2, rkp_3, rkp_4⟩, -⟩ := (Blk.on (w := w2) kp al).five; clear al) | (have z_k9_kb := kb.lt; have z_k9_kp := kp.lt; have z_k9_ku := ku.lt; have zb_k9 := bc.size; have k9 := Blk.new w1 28 #[.int .i64 0, .slice none 0 0]; have al := Below.al w1 (.cells #[.int .i64 0, .slice none 0 0] 28); replace kb := kb.on al; replace kp := kp.on al; replace ku := ku.on al; replace bc := bc.trans (al.mono bc.size); clear al; go_at_call 46; refine (HS.out _ bc).mono ?_; rintro e w2 ⟨A2, n2, c2, rfl, v2, hC⟩; dsimp only at v2 ⊢; replace kb := kb.on hC; replace kp := kp.on hC; replace ku := ku.on hC; replace k9 := k9.on hC; replace bc := bc.trans (hC.mono bc.size); clear hC; generalize L.take 55 = L5 at *; generalize w1.heap.size = g9 at *; obtain ⟨pkb_0, pkb_1, pkb_0f, pkb_1f⟩ := kb.two; obtain ⟨⟨pkp_0, pkp_1, pkp_2, pkp_3, pkp_4⟩, pkp_0f, pkp_1f, pkp_2f, pkp_3f, pkp_4f⟩ := kp.five; obtain ⟨ok9_0, ok9_1, ok9_0f, ok9_1f⟩ := k9.two; have hG := st2 w2 (g9) (.int .i64 L5.length) (.slice A2 n2 c2); replace kb := kb.grown hG (some_ne (by omega)); replace kp := kp.grown hG (some_ne (by omega)); replace ku := ku.grown hG (some_ne (by omega)); replace v2 := v2.off k9 (no_u8 _ _ _ _) hG; replace bc := Below.off bc bc.size (by omega) hG; replace k9 := k9.put2 (.int .i64 L5.length) (.slice A2 n2 c2); clear hG; obtain ⟨zkb_0, zkb_1, zkb_0f, zkb_1f⟩ := kb.two; obtain ⟨⟨zkp_0, zkp_1, zkp_2, zkp_3, zkp_4⟩, zkp_0f, zkp_1f, zkp_2f, zkp_3f, zkp_4f⟩ := kp.five) | (go_at_call 41; refine (head_4 _).mono ?_; rintro e w1 ⟨rfl, hC⟩; dsimp only; replace kb := kb.on hC; replace kp := kp.on hC; replace ku := ku.on hC; replace bc := bc.trans (hC.mono bc.size); clear hC; obtain ⟨pkb_0, pkb_1, pkb_0f, pkb_1f⟩ := kb.two; obtain ⟨⟨pkp_0, pkp_1, pkp_2, pkp_3, pkp_4⟩, pkp_0f, pkp_1f, pkp_2f, pkp_3f, pkp_4f⟩ := kp.five; have al := Below.al w1 (.cells #[.int .i64 0, .slice none 0 0] 28); obtain ⟨qkb_0, qkb_1, -, -⟩ := (Blk.on (w := w1) kb al).two; obtain ⟨⟨qkp_0, qkp_1, qkp_2, qkp_3, qkp_4⟩, -⟩ := (Blk.on (w := w1) kp al).five; clear al) | (have z_k9_kb := kb.lt; have z_k9_kp := kp.lt; have z_k9_ku := ku.lt; have zb_k9 := bc.size; have k9 := Blk.new u1.drew 28 #[.int .i64 0, .slice none 0 0]; have hsz : u1.drew.heap.size = u1.heap.size := (by first | rfl | simp); rw [hsz] at k9 z_k9_kb z_k9_kp z_k9_ku zb_k9; clear hsz; have al := Below.al u1.drew (.cells #[.int .i64 0, .slice none 0 0] 28); replace kb := kb.on al; replace kp := kp.on al; replace ku := ku.on al; replace bc := bc.trans (al.mono bc.size); clear al; go_at_call 41; refine (head_4 _).mono ?_; rintro e w1 ⟨rfl, hC⟩; dsimp only; replace kb := kb.on hC; replace kp := kp.on hC; replace ku := ku.on hC; replace k9 := k9.on hC; replace bc := bc.trans (hC.mono bc.size); clear hC; generalize u1.heap.size = g9 at *; obtain ⟨pkb_0, pkb_1, pkb_0f, pkb_1f⟩ := kb.two; obtain ⟨⟨pkp_0, pkp_1, pkp_2, pkp_3, pkp_4⟩, pkp_0f, pkp_1f, pkp_2f, pkp_3f, pkp_4f⟩ := kp.five))
      all_goals first
        | (have z_k9_kb := kb.lt
           have z_k9_kp := kp.lt
           have z_k9_ku := ku.lt
           have zb_k9 := bc.size
           have k9 := Blk.new w2 28 #[.int .i64 L5.length, .slice A2 n2 c2]
           have al := Below.al w2 (.cells #[.int .i64 L5.length, .slice A2 n2 c2] 28)
           replace kb := kb.on al; replace kp := kp.on al; replace ku := ku.on al; replace v2 := v2.on al; replace bc := bc.trans (al.mono bc.size); clear al
           obtain ⟨pkb_0, pkb_1, pkb_0f, pkb_1f⟩ := kb.two
           obtain ⟨⟨pkp_0, pkp_1, pkp_2, pkp_3, pkp_4⟩, pkp_0f, pkp_1f, pkp_2f, pkp_3f, pkp_4f⟩ := kp.five
           obtain ⟨pku_0, pku_1, pku_0f, pku_1f⟩ := ku.two
           obtain ⟨pk9_0, pk9_1, pk9_0f, pk9_1f⟩ := k9.two
           go_wp2_with fail
           clear pkb_0 pkb_1 pkb_0f pkb_1f pkp_0 pkp_1 pkp_2 pkp_3 pkp_4 pkp_0f pkp_1f pkp_2f pkp_3f pkp_4f pku_0 pku_1 pku_0f pku_1f pk9_0 pk9_1 pk9_0f pk9_1f
           generalize w2.alloc (.cells #[.int .i64 L5.length, .slice A2 n2 c2] 28) = u2 at *
           generalize w2.heap.size = g2 at *
           refine (HO.out _ A2 n2 c2 (hT.on bc) v2).mono ?_
           rintro e w3 ⟨A3, n3, c3, rfl, v3, hC⟩
           dsimp only at v3 ⊢
           replace kb := kb.on hC; replace kp := kp.on hC; replace ku := ku.on hC; replace k9 := k9.on hC; replace v2 := v2.on hC; replace bc := bc.trans (hC.mono bc.size); clear hC
           have z_kt_kb := kb.lt
           have z_kt_kp := kp.lt
           have z_kt_ku := ku.lt
           have z_kt_k9 := k9.lt
           have zb_kt := bc.size
           have kt := Blk.new w3 28 #[.int .i64 P1.length, .slice A3 n3 c3]
           have al := Below.al w3 (.cells #[.int .i64 P1.length, .slice A3 n3 c3] 28)
           replace kb := kb.on al; replace kp := kp.on al; replace ku := ku.on al; replace k9 := k9.on al; replace v2 := v2.on al; replace v3 := v3.on al; replace bc := bc.trans (al.mono bc.size); clear al
           obtain ⟨pkb_0, pkb_1, pkb_0f, pkb_1f⟩ := kb.two
           obtain ⟨⟨pkp_0, pkp_1, pkp_2, pkp_3, pkp_4⟩, pkp_0f, pkp_1f, pkp_2f, pkp_3f, pkp_4f⟩ := kp.five
           obtain ⟨pku_0, pku_1, pku_0f, pku_1f⟩ := ku.two
           go_wp2_with fail
           clear pkb_0 pkb_1 pkb_0f pkb_1f pkp_0 pkp_1 pkp_2 pkp_3 pkp_4 pkp_0f pkp_1f pkp_2f pkp_3f pkp_4f pku_0 pku_1 pku_0f pku_1f
           generalize w3.alloc (.cells #[.int .i64 P1.length, .slice A3 n3 c3] 28) = u3 at *
           generalize w3.heap.size = g3 at *
           refine (HO2.out _ bc).mono ?_
           rintro e w4 ⟨A4, n4, c4, rfl, v4, hC⟩
           dsimp only at v4 ⊢
           replace kb := kb.on hC; replace kp := kp.on hC; replace ku := ku.on hC; replace k9 := k9.on hC; replace kt := kt.on hC; replace v2 := v2.on hC; replace v3 := v3.on hC; replace bc := bc.trans (hC.mono bc.size); clear hC
           have z_kw_kb := kb.lt
           have z_kw_kp := kp.lt
           have z_kw_ku := ku.lt
           have z_kw_k9 := k9.lt
           have z_kw_kt := kt.lt
           have zb_kw := bc.size
           have kw := Blk.new w4 28 #[.int .i64 ([] : List Bool).length, .slice A4 n4 c4]
           have al := Below.al w4 (.cells #[.int .i64 ([] : List Bool).length, .slice A4 n4 c4] 28)
           replace kb := kb.on al; replace kp := kp.on al; replace ku := ku.on al; replace k9 := k9.on al; replace kt := kt.on al; replace v2 := v2.on al; replace v3 := v3.on al; replace v4 := v4.on al; replace bc := bc.trans (al.mono bc.size); clear al
           go_wp2
           go_ret
           exact ⟨by rw [HZ.out]; rfl, bc⟩)
        | (obtain ⟨pkb_0, pkb_1, pkb_0f, pkb_1f⟩ := kb.two
           obtain ⟨⟨pkp_0, pkp_1, pkp_2, pkp_3, pkp_4⟩, pkp_0f, pkp_1f, pkp_2f, pkp_3f, pkp_4f⟩ := kp.five
           obtain ⟨pku_0, pku_1, pku_0f, pku_1f⟩ := ku.two
           obtain ⟨pk9_0, pk9_1, pk9_0f, pk9_1f⟩ := k9.two
           go_wp2_with fail
           clear pkb_0 pkb_1 pkb_0f pkb_1f pkp_0 pkp_1 pkp_2 pkp_3 pkp_4 pkp_0f pkp_1f pkp_2f pkp_3f pkp_4f pku_0 pku_1 pku_0f pku_1f pk9_0 pk9_1 pk9_0f pk9_1f
           generalize (w2.setCell ⟨g9, 0, none⟩ (.int .i64 L5.length)).setCell ⟨g9, 1, none⟩ (.slice A2 n2 c2) = u2 at *
           refine (HO.out _ A2 n2 c2 (hT.on bc) v2).mono ?_
           rintro e w3 ⟨A3, n3, c3, rfl, v3, hC⟩
           dsimp only at v3 ⊢
           replace kb := kb.on hC; replace kp := kp.on hC; replace ku := ku.on hC; replace k9 := k9.on hC; replace v2 := v2.on hC; replace bc := bc.trans (hC.mono bc.size); clear hC
           have z_kt_kb := kb.lt
           have z_kt_kp := kp.lt
           have z_kt_ku := ku.lt
           have z_kt_k9 := k9.lt
           have zb_kt := bc.size
           have kt := Blk.new w3 28 #[.int .i64 P1.length, .slice A3 n3 c3]
           have al := Below.al w3 (.cells #[.int .i64 P1.length, .slice A3 n3 c3] 28)
           replace kb := kb.on al; replace kp := kp.on al; replace ku := ku.on al; replace k9 := k9.on al; replace v2 := v2.on al; replace v3 := v3.on al; replace bc := bc.trans (al.mono bc.size); clear al
           obtain ⟨pkb_0, pkb_1, pkb_0f, pkb_1f⟩ := kb.two
           obtain ⟨⟨pkp_0, pkp_1, pkp_2, pkp_3, pkp_4⟩, pkp_0f, pkp_1f, pkp_2f, pkp_3f, pkp_4f⟩ := kp.five
           obtain ⟨pku_0, pku_1, pku_0f, pku_1f⟩ := ku.two
           go_wp2_with fail
           clear pkb_0 pkb_1 pkb_0f pkb_1f pkp_0 pkp_1 pkp_2 pkp_3 pkp_4 pkp_0f pkp_1f pkp_2f pkp_3f pkp_4f pku_0 pku_1 pku_0f pku_1f
           generalize w3.alloc (.cells #[.int .i64 P1.length, .slice A3 n3 c3] 28) = u3 at *
           generalize w3.heap.size = g3 at *
           refine (HO2.out _ bc).mono ?_
           rintro e w4 ⟨A4, n4, c4, rfl, v4, hC⟩
           dsimp only at v4 ⊢
           replace kb := kb.on hC; replace kp := kp.on hC; replace ku := ku.on hC; replace k9 := k9.on hC; replace kt := kt.on hC; replace v2 := v2.on hC; replace v3 := v3.on hC; replace bc := bc.trans (hC.mono bc.size); clear hC
           have z_kw_kb := kb.lt
           have z_kw_kp := kp.lt
           have z_kw_ku := ku.lt
           have z_kw_k9 := k9.lt
           have z_kw_kt := kt.lt
           have zb_kw := bc.size
           have kw := Blk.new w4 28 #[.int .i64 ([] : List Bool).length, .slice A4 n4 c4]
           have al := Below.al w4 (.cells #[.int .i64 ([] : List Bool).length, .slice A4 n4 c4] 28)
           replace kb := kb.on al; replace kp := kp.on al; replace ku := ku.on al; replace k9 := k9.on al; replace kt := kt.on al; replace v2 := v2.on al; replace v3 := v3.on al; replace v4 := v4.on al; replace bc := bc.trans (al.mono bc.size); clear al
           go_wp2
           go_ret
           exact ⟨by rw [HZ.out]; rfl, bc⟩)
  · rw [if_neg hr] at ho
    have hZ1 : Z = false := by rw [hZ]; simp [hr]
    have HS := Lib.hid hs; have HO := Lib.hid ho; have HZ := Lib.hid hZ1
    clear hs ho ho2 hZ hZ1 hr hp h hu hl hlt
    obtain ⟨kb, kp, ku, bc⟩ := bx3 w #[.int .i64 L.length, .slice A n c] #[.int .i64 3, .int .i64 2, .int .i64 24, .int .i64 24, .int .i64 8] #[.int .i64 U.length, .slice B m d] 28 51 28
    go_enter Tryd.func47, Tryd.ntmps47
    go_wp2_with fail
    generalize ((w.alloc (.cells #[.int .i64 L.length, .slice A n c] 28)).alloc (.cells #[.int .i64 3, .int .i64 2, .int .i64 24, .int .i64 24, .int .i64 8] 51)).alloc (.cells #[.int .i64 U.length, .slice B m d] 28) = u1 at *
    have hdr : Below u1.heap.size u1 u1.drew := (Below.refl _ _).drew
    replace kb := kb.on hdr; replace kp := kp.on hdr; replace ku := ku.on hdr; replace bc := bc.trans (hdr.mono bc.size)
    clear hdr
    obtain ⟨pkb_0, pkb_1, pkb_0f, pkb_1f⟩ := kb.two
    obtain ⟨⟨pkp_0, pkp_1, pkp_2, pkp_3, pkp_4⟩, pkp_0f, pkp_1f, pkp_2f, pkp_3f, pkp_4f⟩ := kp.five
    have al := Below.al u1 (.cells #[.int .i64 0, .slice none 0 0] 28)
    obtain ⟨qkb_0, qkb_1, -, -⟩ := (Blk.on (w := u1) kb al).two
    obtain ⟨⟨qkp_0, qkp_1, qkp_2, qkp_3, qkp_4⟩, -⟩ := (Blk.on (w := u1) kp al).five
    clear al
    go_region_held3 (fun w' => w'.cell? ⟨w.heap.size, 0, none⟩ = some (.int .i64 L.length) ∧ w'.cell? ⟨w.heap.size, 1, none⟩ = some (.slice A n c) ∧ w'.cell? ⟨w.heap.size + 1, 0, none⟩ = some (.int .i64 3) ∧ w'.cell? ⟨w.heap.size + 1, 1, none⟩ = some (.int .i64 2) ∧ w'.cell? ⟨w.heap.size + 1, 2, none⟩ = some (.int .i64 24) ∧ w'.cell? ⟨w.heap.size + 1, 3, none⟩ = some (.int .i64 24) ∧ w'.cell? ⟨w.heap.size + 1, 4, none⟩ = some (.int .i64 8)) (first | exact ⟨zkb_0, zkb_1, zkp_0, zkp_1, zkp_2, zkp_3, zkp_4⟩ | exact ⟨rkb_0, rkb_1, rkp_0, rkp_1, rkp_2, rkp_3, rkp_4⟩ | exact ⟨qkb_0, qkb_1, qkp_0, qkp_1, qkp_2, qkp_3, qkp_4⟩ | exact ⟨pkb_0, pkb_1, pkp_0, pkp_1, pkp_2, pkp_3, pkp_4⟩) (first | (have _ := k9; go_at_call 46; refine (HS.out _ bc).mono ?_; rintro e w2 ⟨A2, n2, c2, rfl, v2, hC⟩; dsimp only at v2 ⊢; replace kb := kb.on hC; replace kp := kp.on hC; replace ku := ku.on hC; replace k9 := k9.on hC; replace bc := bc.trans (hC.mono bc.size); clear hC; generalize L.take 55 = L5 at *; obtain ⟨pkb_0, pkb_1, pkb_0f, pkb_1f⟩ := kb.two; obtain ⟨⟨pkp_0, pkp_1, pkp_2, pkp_3, pkp_4⟩, pkp_0f, pkp_1f, pkp_2f, pkp_3f, pkp_4f⟩ := kp.five; obtain ⟨ok9_0, ok9_1, ok9_0f, ok9_1f⟩ := k9.two; have hG := st2 w2 (g9) (.int .i64 L5.length) (.slice A2 n2 c2); replace kb := kb.grown hG (some_ne (by omega)); replace kp := kp.grown hG (some_ne (by omega)); replace ku := ku.grown hG (some_ne (by omega)); replace v2 := v2.off k9 (no_u8 _ _ _ _) hG; replace bc := Below.off bc bc.size (by omega) hG; replace k9 := k9.put2 (.int .i64 L5.length) (.slice A2 n2 c2); clear hG; obtain ⟨zkb_0, zkb_1, zkb_0f, zkb_1f⟩ := kb.two; obtain ⟨⟨zkp_0, zkp_1, zkp_2, zkp_3, zkp_4⟩, zkp_0f, zkp_1f, zkp_2f, zkp_3f, zkp_4f⟩ := kp.five) | (go_at_call 46; refine (HS.out _ bc).mono ?_; rintro e w2 ⟨A2, n2, c2, rfl, v2, hC⟩; dsimp only at v2 ⊢; replace kb := kb.on hC; replace kp := kp.on hC; replace ku := ku.on hC; replace bc := bc.trans (hC.mono bc.size); clear hC; generalize L.take 55 = L5 at *; obtain ⟨pkb_0, pkb_1, pkb_0f, pkb_1f⟩ := kb.two; obtain ⟨⟨pkp_0, pkp_1, pkp_2, pkp_3, pkp_4⟩, pkp_0f, pkp_1f, pkp_2f, pkp_3f, pkp_4f⟩ := kp.five; have al := Below.al w2 (.cells #[.int .i64 0, .slice none 0 0] 28); obtain ⟨qkb_0, qkb_1, -, -⟩ := (Blk.on (w := w2) kb al).two; obtain ⟨⟨qkp_0, qkp_1, qkp_2, qkp_3, qkp_4⟩, -⟩ := (Blk.on (w := w2) kp al).five; clear al; have al := Below.al w2 (.cells #[.int .i64 L5.length, .slice A2 n2 c2] 28); obtain ⟨rkb_0, rkb_1, -, -⟩ := (Blk.on (w := w2) kb al).two; obtain ⟨⟨rkp_0, rkp_1, rkp_2, rkp_3, rkp_4⟩, -⟩ := (Blk.on (w := w2) kp al).five; clear al) | (have z_k9_kb := kb.lt; have z_k9_kp := kp.lt; have z_k9_ku := ku.lt; have zb_k9 := bc.size; have k9 := Blk.new w1 28 #[.int .i64 0, .slice none 0 0]; have al := Below.al w1 (.cells #[.int .i64 0, .slice none 0 0] 28); replace kb := kb.on al; replace kp := kp.on al; replace ku := ku.on al; replace bc := bc.trans (al.mono bc.size); clear al; go_at_call 46; refine (HS.out _ bc).mono ?_; rintro e w2 ⟨A2, n2, c2, rfl, v2, hC⟩; dsimp only at v2 ⊢; replace kb := kb.on hC; replace kp := kp.on hC; replace ku := ku.on hC; replace k9 := k9.on hC; replace bc := bc.trans (hC.mono bc.size); clear hC; generalize L.take 55 = L5 at *; generalize w1.heap.size = g9 at *; obtain ⟨pkb_0, pkb_1, pkb_0f, pkb_1f⟩ := kb.two; obtain ⟨⟨pkp_0, pkp_1, pkp_2, pkp_3, pkp_4⟩, pkp_0f, pkp_1f, pkp_2f, pkp_3f, pkp_4f⟩ := kp.five; obtain ⟨ok9_0, ok9_1, ok9_0f, ok9_1f⟩ := k9.two; have hG := st2 w2 (g9) (.int .i64 L5.length) (.slice A2 n2 c2); replace kb := kb.grown hG (some_ne (by omega)); replace kp := kp.grown hG (some_ne (by omega)); replace ku := ku.grown hG (some_ne (by omega)); replace v2 := v2.off k9 (no_u8 _ _ _ _) hG; replace bc := Below.off bc bc.size (by omega) hG; replace k9 := k9.put2 (.int .i64 L5.length) (.slice A2 n2 c2); clear hG; obtain ⟨zkb_0, zkb_1, zkb_0f, zkb_1f⟩ := kb.two; obtain ⟨⟨zkp_0, zkp_1, zkp_2, zkp_3, zkp_4⟩, zkp_0f, zkp_1f, zkp_2f, zkp_3f, zkp_4f⟩ := kp.five) | (go_at_call 41; refine (head_4 _).mono ?_; rintro e w1 ⟨rfl, hC⟩; dsimp only; replace kb := kb.on hC; replace kp := kp.on hC; replace ku := ku.on hC; replace bc := bc.trans (hC.mono bc.size); clear hC; obtain ⟨pkb_0, pkb_1, pkb_0f, pkb_1f⟩ := kb.two; obtain ⟨⟨pkp_0, pkp_1, pkp_2, pkp_3, pkp_4⟩, pkp_0f, pkp_1f, pkp_2f, pkp_3f, pkp_4f⟩ := kp.five; have al := Below.al w1 (.cells #[.int .i64 0, .slice none 0 0] 28); obtain ⟨qkb_0, qkb_1, -, -⟩ := (Blk.on (w := w1) kb al).two; obtain ⟨⟨qkp_0, qkp_1, qkp_2, qkp_3, qkp_4⟩, -⟩ := (Blk.on (w := w1) kp al).five; clear al) | (have z_k9_kb := kb.lt; have z_k9_kp := kp.lt; have z_k9_ku := ku.lt; have zb_k9 := bc.size; have k9 := Blk.new u1.drew 28 #[.int .i64 0, .slice none 0 0]; have hsz : u1.drew.heap.size = u1.heap.size := (by first | rfl | simp); rw [hsz] at k9 z_k9_kb z_k9_kp z_k9_ku zb_k9; clear hsz; have al := Below.al u1.drew (.cells #[.int .i64 0, .slice none 0 0] 28); replace kb := kb.on al; replace kp := kp.on al; replace ku := ku.on al; replace bc := bc.trans (al.mono bc.size); clear al; go_at_call 41; refine (head_4 _).mono ?_; rintro e w1 ⟨rfl, hC⟩; dsimp only; replace kb := kb.on hC; replace kp := kp.on hC; replace ku := ku.on hC; replace k9 := k9.on hC; replace bc := bc.trans (hC.mono bc.size); clear hC; generalize u1.heap.size = g9 at *; obtain ⟨pkb_0, pkb_1, pkb_0f, pkb_1f⟩ := kb.two; obtain ⟨⟨pkp_0, pkp_1, pkp_2, pkp_3, pkp_4⟩, pkp_0f, pkp_1f, pkp_2f, pkp_3f, pkp_4f⟩ := kp.five))
    all_goals first
      | (have z_k9_kb := kb.lt
         have z_k9_kp := kp.lt
         have z_k9_ku := ku.lt
         have zb_k9 := bc.size
         have k9 := Blk.new w2 28 #[.int .i64 L5.length, .slice A2 n2 c2]
         have al := Below.al w2 (.cells #[.int .i64 L5.length, .slice A2 n2 c2] 28)
         replace kb := kb.on al; replace kp := kp.on al; replace ku := ku.on al; replace v2 := v2.on al; replace bc := bc.trans (al.mono bc.size); clear al
         obtain ⟨pkb_0, pkb_1, pkb_0f, pkb_1f⟩ := kb.two
         obtain ⟨⟨pkp_0, pkp_1, pkp_2, pkp_3, pkp_4⟩, pkp_0f, pkp_1f, pkp_2f, pkp_3f, pkp_4f⟩ := kp.five
         obtain ⟨pku_0, pku_1, pku_0f, pku_1f⟩ := ku.two
         obtain ⟨pk9_0, pk9_1, pk9_0f, pk9_1f⟩ := k9.two
         go_wp2_with fail
         clear pkb_0 pkb_1 pkb_0f pkb_1f pkp_0 pkp_1 pkp_2 pkp_3 pkp_4 pkp_0f pkp_1f pkp_2f pkp_3f pkp_4f pku_0 pku_1 pku_0f pku_1f pk9_0 pk9_1 pk9_0f pk9_1f
         generalize w2.alloc (.cells #[.int .i64 L5.length, .slice A2 n2 c2] 28) = u2 at *
         generalize w2.heap.size = g2 at *
         refine (HO.out _ A2 n2 c2 (hT.on bc) v2).mono ?_
         rintro e w3 ⟨A3, n3, c3, rfl, v3, hC⟩
         dsimp only at v3 ⊢
         replace kb := kb.on hC; replace kp := kp.on hC; replace ku := ku.on hC; replace k9 := k9.on hC; replace v2 := v2.on hC; replace bc := bc.trans (hC.mono bc.size); clear hC
         have z_kt_kb := kb.lt
         have z_kt_kp := kp.lt
         have z_kt_ku := ku.lt
         have z_kt_k9 := k9.lt
         have zb_kt := bc.size
         have kt := Blk.new w3 28 #[.int .i64 ([] : List Bool).length, .slice A3 n3 c3]
         have al := Below.al w3 (.cells #[.int .i64 ([] : List Bool).length, .slice A3 n3 c3] 28)
         replace kb := kb.on al; replace kp := kp.on al; replace ku := ku.on al; replace k9 := k9.on al; replace v2 := v2.on al; replace v3 := v3.on al; replace bc := bc.trans (al.mono bc.size); clear al
         obtain ⟨⟨pkp_0, pkp_1, pkp_2, pkp_3, pkp_4⟩, pkp_0f, pkp_1f, pkp_2f, pkp_3f, pkp_4f⟩ := kp.five
         go_wp2
         go_ret
         exact ⟨by rw [HZ.out]; rfl, bc⟩)
      | (obtain ⟨pkb_0, pkb_1, pkb_0f, pkb_1f⟩ := kb.two
         obtain ⟨⟨pkp_0, pkp_1, pkp_2, pkp_3, pkp_4⟩, pkp_0f, pkp_1f, pkp_2f, pkp_3f, pkp_4f⟩ := kp.five
         obtain ⟨pku_0, pku_1, pku_0f, pku_1f⟩ := ku.two
         obtain ⟨pk9_0, pk9_1, pk9_0f, pk9_1f⟩ := k9.two
         go_wp2_with fail
         clear pkb_0 pkb_1 pkb_0f pkb_1f pkp_0 pkp_1 pkp_2 pkp_3 pkp_4 pkp_0f pkp_1f pkp_2f pkp_3f pkp_4f pku_0 pku_1 pku_0f pku_1f pk9_0 pk9_1 pk9_0f pk9_1f
         generalize (w2.setCell ⟨g9, 0, none⟩ (.int .i64 L5.length)).setCell ⟨g9, 1, none⟩ (.slice A2 n2 c2) = u2 at *
         refine (HO.out _ A2 n2 c2 (hT.on bc) v2).mono ?_
         rintro e w3 ⟨A3, n3, c3, rfl, v3, hC⟩
         dsimp only at v3 ⊢
         replace kb := kb.on hC; replace kp := kp.on hC; replace ku := ku.on hC; replace k9 := k9.on hC; replace v2 := v2.on hC; replace bc := bc.trans (hC.mono bc.size); clear hC
         have z_kt_kb := kb.lt
         have z_kt_kp := kp.lt
         have z_kt_ku := ku.lt
         have z_kt_k9 := k9.lt
         have zb_kt := bc.size
         have kt := Blk.new w3 28 #[.int .i64 ([] : List Bool).length, .slice A3 n3 c3]
         have al := Below.al w3 (.cells #[.int .i64 ([] : List Bool).length, .slice A3 n3 c3] 28)
         replace kb := kb.on al; replace kp := kp.on al; replace ku := ku.on al; replace k9 := k9.on al; replace v2 := v2.on al; replace v3 := v3.on al; replace bc := bc.trans (al.mono bc.size); clear al
         obtain ⟨⟨pkp_0, pkp_1, pkp_2, pkp_3, pkp_4⟩, pkp_0f, pkp_1f, pkp_2f, pkp_3f, pkp_4f⟩ := kp.five
         go_wp2
         go_ret
         exact ⟨by rw [HZ.out]; rfl, bc⟩)
end Go.Proofs.YtcfbeelljhjnoaaDoor
