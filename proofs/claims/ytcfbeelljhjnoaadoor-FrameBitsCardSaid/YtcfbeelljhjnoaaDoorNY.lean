/-
  The law of bits: which frames may be, how long they are, any one's bits, and which are the same. Conditions: that the bytes can be read, and that the program's tables hold what its text lays.
-/
import Derived.Test.YtcfbeelljhjnoaaDoorNW
import Derived.Test.YtcfbeelljhjnoaaDoorNF
namespace Go.Proofs.YtcfbeelljhjnoaaDoor
open Go.RowKit

set_option maxRecDepth 8000 in
set_option maxHeartbeats 16000000 in
theorem bits_law5 (f : FR) (A : Option Addr) (n c : Nat) (g : FR) (B : Option Addr) (m d : Nat) (k da : Int) (w : World) (hn : n = f.ds.length) (hA : Byt w.heap.size w A f.ds) (hm : m = g.ds.length) (hB : Byt w.heap.size w B g.ds) (hT : Tab w) (hW : WTab w) :
    Calls Tryd.prog 3 #[.agg (f.cells A n c), .agg (g.cells B m d), .int .i64 k, .int .i64 da] w fun e w' => e = .returned (.bool true) ∧ Below w.heap.size w w' := by
  have h1 := fun (W : World) (hb : Below w.heap.size w W) => encode_any f A n c W hn (hA.on hb) (hT.on hb) (hW.on hb)
  have h2 := fun (W : World) (hb : Below w.heap.size w W) => rencode_any f A n c W hn (hA.on hb)
  have h3 := fun (W : World) (hb : Below w.heap.size w W) => begun_any W (hT.on hb) (hW.on hb)
  have h4 := fun (W : World) => checkF_any f A n c W hn
  have h5 := fun (W : World) => rcheckF_any f A n c W hn
  have h6 := fun (W : World) => size_any k da W
  have h7 := fun (W : World) => rsize_any k da W
  have h8 := fun (X : List Bool) (A' B' : Option Addr) (n' m' c' d' : Nat) (W : World) (hv : Bv W X A' n') (hu : Bv W X B' m') => sameX_at hv hu c' d'
  have h9 := fun (W : World) (hb : Below w.heap.size w W) => samef_any f g A n c B m d W hn hm (hA.on hb) (hB.on hb)
  have h10 := fun (W : World) (hb : Below w.heap.size w W) => rsamef_any f g A n c B m d W hn hm (hA.on hb) (hB.on hb)
  have h11 := fun (W : World) (hb : Below w.heap.size w W) => samef_any f f A n c A n c W hn hn (hA.on hb) (hA.on hb)
  rw [sameF_self] at h11
  clear hn hm hA hB
  generalize encF f = E at *
  obtain ⟨er, X⟩ := E
  have h8 := h8 X
  simp only [decide_true] at h8
  generalize sameF f g = b at *
  generalize checkF f = ck at *
  generalize sizeF k da = z at *
  obtain ⟨fK, fR, ⟨fT, fP, fM, fN, fE⟩, fF, fd⟩ := f
  obtain ⟨gK, gR, ⟨gT, gP, gM, gN, gE⟩, gF, gd⟩ := g
  unfold FR.cells at *
  dsimp only at h1 h2 h4 h5 h9 h10 h11 ⊢
  have H1 := Lib.hid h1; have H2 := Lib.hid h2; have H3 := Lib.hid h3; have H4 := Lib.hid h4; have H5 := Lib.hid h5; have H6 := Lib.hid h6; have H7 := Lib.hid h7; have H8 := Lib.hid h8; have H9 := Lib.hid h9; have H10 := Lib.hid h10; have H11 := Lib.hid h11
  clear h1 h2 h3 h4 h5 h6 h7 h8 h9 h10 h11
  obtain ⟨kf, kg, bc⟩ := bx2 w #[.int .i64 fK, .int .i64 fR, .int .i64 fT, .int .i64 fP, .int .i64 fM, .int .i64 fN, .int .i64 fE, .int .i64 fF, .slice A n c] #[.int .i64 gK, .int .i64 gR, .int .i64 gT, .int .i64 gP, .int .i64 gM, .int .i64 gN, .int .i64 gE, .int .i64 gF, .slice B m d] 26 26
  go_enter Tryd.func3, Tryd.ntmps3
  go_wp2_with fail
  generalize (w.alloc (.cells #[.int .i64 fK, .int .i64 fR, .int .i64 fT, .int .i64 fP, .int .i64 fM, .int .i64 fN, .int .i64 fE, .int .i64 fF, .slice A n c] 26)).alloc (.cells #[.int .i64 gK, .int .i64 gR, .int .i64 gT, .int .i64 gP, .int .i64 gM, .int .i64 gN, .int .i64 gE, .int .i64 gF, .slice B m d] 26) = u1 at *
  refine (H1.out _ bc).mono ?_
  rintro e w1 ⟨A1, n1, c1, rfl, v1, hC⟩
  dsimp only at v1 ⊢
  replace kf := kf.on hC; replace kg := kg.on hC; replace bc := bc.trans (hC.mono bc.size); clear hC
  have z_kx_kf := kf.lt
  have z_kx_kg := kg.lt
  have zb_kx := bc.size
  have kx := Blk.new w1 28 #[.int .i64 X.length, .slice A1 n1 c1]
  have al := Below.al w1 (.cells #[.int .i64 X.length, .slice A1 n1 c1] 28)
  replace kf := kf.on al; replace kg := kg.on al; replace v1 := v1.on al; replace bc := bc.trans (al.mono bc.size); clear al
  obtain ⟨pkf_0, pkf_1, pkf_2, pkf_3, pkf_4, pkf_5, pkf_6, pkf_7, pkf_8⟩ := kf.nine
  obtain ⟨pkf_0f, pkf_1f, pkf_2f, pkf_3f, pkf_4f, pkf_5f, pkf_6f, pkf_7f, pkf_8f⟩ := kf.nineF
  obtain ⟨pkg_0, pkg_1, pkg_2, pkg_3, pkg_4, pkg_5, pkg_6, pkg_7, pkg_8⟩ := kg.nine
  obtain ⟨pkg_0f, pkg_1f, pkg_2f, pkg_3f, pkg_4f, pkg_5f, pkg_6f, pkg_7f, pkg_8f⟩ := kg.nineF
  obtain ⟨pkx_0, pkx_1, pkx_0f, pkx_1f⟩ := kx.two
  go_wp2_with fail
  clear pkf_0 pkf_1 pkf_2 pkf_3 pkf_4 pkf_5 pkf_6 pkf_7 pkf_8 pkf_0f pkf_1f pkf_2f pkf_3f pkf_4f pkf_5f pkf_6f pkf_7f pkf_8f pkg_0 pkg_1 pkg_2 pkg_3 pkg_4 pkg_5 pkg_6 pkg_7 pkg_8 pkg_0f pkg_1f pkg_2f pkg_3f pkg_4f pkg_5f pkg_6f pkg_7f pkg_8f pkx_0 pkx_1 pkx_0f pkx_1f
  generalize w1.alloc (.cells #[.int .i64 X.length, .slice A1 n1 c1] 28) = u2 at *
  generalize w1.heap.size = g2 at *
  refine (H2.out _ bc).mono ?_
  rintro e w2 ⟨A2, n2, c2, rfl, v2, hC⟩
  dsimp only at v2 ⊢
  replace kf := kf.on hC; replace kg := kg.on hC; replace kx := kx.on hC; replace v1 := v1.on hC; replace bc := bc.trans (hC.mono bc.size); clear hC
  have z_ky_kf := kf.lt
  have z_ky_kg := kg.lt
  have z_ky_kx := kx.lt
  have zb_ky := bc.size
  have ky := Blk.new w2 28 #[.int .i64 X.length, .slice A2 n2 c2]
  have al := Below.al w2 (.cells #[.int .i64 X.length, .slice A2 n2 c2] 28)
  replace kf := kf.on al; replace kg := kg.on al; replace kx := kx.on al; replace v1 := v1.on al; replace v2 := v2.on al; replace bc := bc.trans (al.mono bc.size); clear al
  obtain ⟨pkf_0, pkf_1, pkf_2, pkf_3, pkf_4, pkf_5, pkf_6, pkf_7, pkf_8⟩ := kf.nine
  obtain ⟨pkf_0f, pkf_1f, pkf_2f, pkf_3f, pkf_4f, pkf_5f, pkf_6f, pkf_7f, pkf_8f⟩ := kf.nineF
  obtain ⟨pkg_0, pkg_1, pkg_2, pkg_3, pkg_4, pkg_5, pkg_6, pkg_7, pkg_8⟩ := kg.nine
  obtain ⟨pkg_0f, pkg_1f, pkg_2f, pkg_3f, pkg_4f, pkg_5f, pkg_6f, pkg_7f, pkg_8f⟩ := kg.nineF
  obtain ⟨pkx_0, pkx_1, pkx_0f, pkx_1f⟩ := kx.two
  obtain ⟨pky_0, pky_1, pky_0f, pky_1f⟩ := ky.two
  go_wp2_with fail
  clear pkf_0 pkf_1 pkf_2 pkf_3 pkf_4 pkf_5 pkf_6 pkf_7 pkf_8 pkf_0f pkf_1f pkf_2f pkf_3f pkf_4f pkf_5f pkf_6f pkf_7f pkf_8f pkg_0 pkg_1 pkg_2 pkg_3 pkg_4 pkg_5 pkg_6 pkg_7 pkg_8 pkg_0f pkg_1f pkg_2f pkg_3f pkg_4f pkg_5f pkg_6f pkg_7f pkg_8f pkx_0 pkx_1 pkx_0f pkx_1f pky_0 pky_1 pky_0f pky_1f
  generalize w2.alloc (.cells #[.int .i64 X.length, .slice A2 n2 c2] 28) = u3 at *
  generalize w2.heap.size = g3 at *
  have hdr : Below u3.heap.size u3 u3.drew := (Below.refl _ _).drew
  replace kf := kf.on hdr; replace kg := kg.on hdr; replace kx := kx.on hdr; replace ky := ky.on hdr; replace v1 := v1.on hdr; replace v2 := v2.on hdr; replace bc := bc.trans (hdr.mono bc.size)
  clear hdr
  obtain ⟨pkf_0, pkf_1, pkf_2, pkf_3, pkf_4, pkf_5, pkf_6, pkf_7, pkf_8⟩ := kf.nine
  obtain ⟨pkf_0f, pkf_1f, pkf_2f, pkf_3f, pkf_4f, pkf_5f, pkf_6f, pkf_7f, pkf_8f⟩ := kf.nineF
  obtain ⟨pkg_0, pkg_1, pkg_2, pkg_3, pkg_4, pkg_5, pkg_6, pkg_7, pkg_8⟩ := kg.nine
  obtain ⟨pkg_0f, pkg_1f, pkg_2f, pkg_3f, pkg_4f, pkg_5f, pkg_6f, pkg_7f, pkg_8f⟩ := kg.nineF
  obtain ⟨pkx_0, pkx_1, pkx_0f, pkx_1f⟩ := kx.two
  obtain ⟨pky_0, pky_1, pky_0f, pky_1f⟩ := ky.two
  go_region_held3 (fun w' => w'.cell? ⟨w.heap.size, 0, none⟩ = some (.int .i64 fK) ∧ w'.cell? ⟨w.heap.size, 1, none⟩ = some (.int .i64 fR) ∧ w'.cell? ⟨w.heap.size, 2, none⟩ = some (.int .i64 fT) ∧ w'.cell? ⟨w.heap.size, 3, none⟩ = some (.int .i64 fP) ∧ w'.cell? ⟨w.heap.size, 4, none⟩ = some (.int .i64 fM) ∧ w'.cell? ⟨w.heap.size, 5, none⟩ = some (.int .i64 fN) ∧ w'.cell? ⟨w.heap.size, 6, none⟩ = some (.int .i64 fE) ∧ w'.cell? ⟨w.heap.size, 7, none⟩ = some (.int .i64 fF) ∧ w'.cell? ⟨w.heap.size, 8, none⟩ = some (.slice A n c) ∧ w'.cell? ⟨w.heap.size + 1, 0, none⟩ = some (.int .i64 gK) ∧ w'.cell? ⟨w.heap.size + 1, 1, none⟩ = some (.int .i64 gR) ∧ w'.cell? ⟨w.heap.size + 1, 2, none⟩ = some (.int .i64 gT) ∧ w'.cell? ⟨w.heap.size + 1, 3, none⟩ = some (.int .i64 gP) ∧ w'.cell? ⟨w.heap.size + 1, 4, none⟩ = some (.int .i64 gM) ∧ w'.cell? ⟨w.heap.size + 1, 5, none⟩ = some (.int .i64 gN) ∧ w'.cell? ⟨w.heap.size + 1, 6, none⟩ = some (.int .i64 gE) ∧ w'.cell? ⟨w.heap.size + 1, 7, none⟩ = some (.int .i64 gF) ∧ w'.cell? ⟨w.heap.size + 1, 8, none⟩ = some (.slice B m d) ∧ w'.cell? ⟨g2, 0, none⟩ = some (.int .i64 X.length) ∧ w'.cell? ⟨g2, 1, none⟩ = some (.slice A1 n1 c1) ∧ w'.cell? ⟨g3, 0, none⟩ = some (.int .i64 X.length) ∧ w'.cell? ⟨g3, 1, none⟩ = some (.slice A2 n2 c2)) (first | exact ⟨pkf_0, pkf_1, pkf_2, pkf_3, pkf_4, pkf_5, pkf_6, pkf_7, pkf_8, pkg_0, pkg_1, pkg_2, pkg_3, pkg_4, pkg_5, pkg_6, pkg_7, pkg_8, pkx_0, pkx_1, pky_0, pky_1⟩) (first | (go_at_call 10; refine (H3.out _ bc).mono ?_; rintro e w3 ⟨rfl, hC⟩; dsimp only; replace kf := kf.on hC; replace kg := kg.on hC; replace kx := kx.on hC; replace ky := ky.on hC; replace v1 := v1.on hC; replace v2 := v2.on hC; replace bc := bc.trans (hC.mono bc.size); clear hC; clear pkf_0 pkf_1 pkf_2 pkf_3 pkf_4 pkf_5 pkf_6 pkf_7 pkf_8 pkf_0f pkf_1f pkf_2f pkf_3f pkf_4f pkf_5f pkf_6f pkf_7f pkf_8f pkg_0 pkg_1 pkg_2 pkg_3 pkg_4 pkg_5 pkg_6 pkg_7 pkg_8 pkg_0f pkg_1f pkg_2f pkg_3f pkg_4f pkg_5f pkg_6f pkg_7f pkg_8f pkx_0 pkx_1 pkx_0f pkx_1f pky_0 pky_1 pky_0f pky_1f; obtain ⟨pkf_0, pkf_1, pkf_2, pkf_3, pkf_4, pkf_5, pkf_6, pkf_7, pkf_8⟩ := kf.nine; obtain ⟨pkf_0f, pkf_1f, pkf_2f, pkf_3f, pkf_4f, pkf_5f, pkf_6f, pkf_7f, pkf_8f⟩ := kf.nineF; obtain ⟨pkg_0, pkg_1, pkg_2, pkg_3, pkg_4, pkg_5, pkg_6, pkg_7, pkg_8⟩ := kg.nine; obtain ⟨pkg_0f, pkg_1f, pkg_2f, pkg_3f, pkg_4f, pkg_5f, pkg_6f, pkg_7f, pkg_8f⟩ := kg.nineF; obtain ⟨pkx_0, pkx_1, pkx_0f, pkx_1f⟩ := kx.two; obtain ⟨pky_0, pky_1, pky_0f, pky_1f⟩ := ky.two) | (go_at_call 11; refine (H4.out _).mono ?_; rintro e w4 ⟨rfl, hC⟩; dsimp only; replace kf := kf.on hC; replace kg := kg.on hC; replace kx := kx.on hC; replace ky := ky.on hC; replace v1 := v1.on hC; replace v2 := v2.on hC; replace bc := bc.trans (hC.mono bc.size); clear hC; clear pkf_0 pkf_1 pkf_2 pkf_3 pkf_4 pkf_5 pkf_6 pkf_7 pkf_8 pkf_0f pkf_1f pkf_2f pkf_3f pkf_4f pkf_5f pkf_6f pkf_7f pkf_8f pkg_0 pkg_1 pkg_2 pkg_3 pkg_4 pkg_5 pkg_6 pkg_7 pkg_8 pkg_0f pkg_1f pkg_2f pkg_3f pkg_4f pkg_5f pkg_6f pkg_7f pkg_8f pkx_0 pkx_1 pkx_0f pkx_1f pky_0 pky_1 pky_0f pky_1f; obtain ⟨pkf_0, pkf_1, pkf_2, pkf_3, pkf_4, pkf_5, pkf_6, pkf_7, pkf_8⟩ := kf.nine; obtain ⟨pkf_0f, pkf_1f, pkf_2f, pkf_3f, pkf_4f, pkf_5f, pkf_6f, pkf_7f, pkf_8f⟩ := kf.nineF; obtain ⟨pkg_0, pkg_1, pkg_2, pkg_3, pkg_4, pkg_5, pkg_6, pkg_7, pkg_8⟩ := kg.nine; obtain ⟨pkg_0f, pkg_1f, pkg_2f, pkg_3f, pkg_4f, pkg_5f, pkg_6f, pkg_7f, pkg_8f⟩ := kg.nineF; obtain ⟨pkx_0, pkx_1, pkx_0f, pkx_1f⟩ := kx.two; obtain ⟨pky_0, pky_1, pky_0f, pky_1f⟩ := ky.two) | (go_at_call 12; refine (H5.out _).mono ?_; rintro e w5 ⟨rfl, hC⟩; dsimp only; replace kf := kf.on hC; replace kg := kg.on hC; replace kx := kx.on hC; replace ky := ky.on hC; replace v1 := v1.on hC; replace v2 := v2.on hC; replace bc := bc.trans (hC.mono bc.size); clear hC; clear pkf_0 pkf_1 pkf_2 pkf_3 pkf_4 pkf_5 pkf_6 pkf_7 pkf_8 pkf_0f pkf_1f pkf_2f pkf_3f pkf_4f pkf_5f pkf_6f pkf_7f pkf_8f pkg_0 pkg_1 pkg_2 pkg_3 pkg_4 pkg_5 pkg_6 pkg_7 pkg_8 pkg_0f pkg_1f pkg_2f pkg_3f pkg_4f pkg_5f pkg_6f pkg_7f pkg_8f pkx_0 pkx_1 pkx_0f pkx_1f pky_0 pky_1 pky_0f pky_1f; obtain ⟨pkf_0, pkf_1, pkf_2, pkf_3, pkf_4, pkf_5, pkf_6, pkf_7, pkf_8⟩ := kf.nine; obtain ⟨pkf_0f, pkf_1f, pkf_2f, pkf_3f, pkf_4f, pkf_5f, pkf_6f, pkf_7f, pkf_8f⟩ := kf.nineF; obtain ⟨pkg_0, pkg_1, pkg_2, pkg_3, pkg_4, pkg_5, pkg_6, pkg_7, pkg_8⟩ := kg.nine; obtain ⟨pkg_0f, pkg_1f, pkg_2f, pkg_3f, pkg_4f, pkg_5f, pkg_6f, pkg_7f, pkg_8f⟩ := kg.nineF; obtain ⟨pkx_0, pkx_1, pkx_0f, pkx_1f⟩ := kx.two; obtain ⟨pky_0, pky_1, pky_0f, pky_1f⟩ := ky.two) | (go_at_call 13; refine (H6.out _).mono ?_; rintro e w6 ⟨rfl, hC⟩; dsimp only; replace kf := kf.on hC; replace kg := kg.on hC; replace kx := kx.on hC; replace ky := ky.on hC; replace v1 := v1.on hC; replace v2 := v2.on hC; replace bc := bc.trans (hC.mono bc.size); clear hC; clear pkf_0 pkf_1 pkf_2 pkf_3 pkf_4 pkf_5 pkf_6 pkf_7 pkf_8 pkf_0f pkf_1f pkf_2f pkf_3f pkf_4f pkf_5f pkf_6f pkf_7f pkf_8f pkg_0 pkg_1 pkg_2 pkg_3 pkg_4 pkg_5 pkg_6 pkg_7 pkg_8 pkg_0f pkg_1f pkg_2f pkg_3f pkg_4f pkg_5f pkg_6f pkg_7f pkg_8f pkx_0 pkx_1 pkx_0f pkx_1f pky_0 pky_1 pky_0f pky_1f; obtain ⟨pkf_0, pkf_1, pkf_2, pkf_3, pkf_4, pkf_5, pkf_6, pkf_7, pkf_8⟩ := kf.nine; obtain ⟨pkf_0f, pkf_1f, pkf_2f, pkf_3f, pkf_4f, pkf_5f, pkf_6f, pkf_7f, pkf_8f⟩ := kf.nineF; obtain ⟨pkg_0, pkg_1, pkg_2, pkg_3, pkg_4, pkg_5, pkg_6, pkg_7, pkg_8⟩ := kg.nine; obtain ⟨pkg_0f, pkg_1f, pkg_2f, pkg_3f, pkg_4f, pkg_5f, pkg_6f, pkg_7f, pkg_8f⟩ := kg.nineF; obtain ⟨pkx_0, pkx_1, pkx_0f, pkx_1f⟩ := kx.two; obtain ⟨pky_0, pky_1, pky_0f, pky_1f⟩ := ky.two) | (go_at_call 14; refine (H7.out _).mono ?_; rintro e w7 ⟨rfl, hC⟩; dsimp only; replace kf := kf.on hC; replace kg := kg.on hC; replace kx := kx.on hC; replace ky := ky.on hC; replace v1 := v1.on hC; replace v2 := v2.on hC; replace bc := bc.trans (hC.mono bc.size); clear hC; clear pkf_0 pkf_1 pkf_2 pkf_3 pkf_4 pkf_5 pkf_6 pkf_7 pkf_8 pkf_0f pkf_1f pkf_2f pkf_3f pkf_4f pkf_5f pkf_6f pkf_7f pkf_8f pkg_0 pkg_1 pkg_2 pkg_3 pkg_4 pkg_5 pkg_6 pkg_7 pkg_8 pkg_0f pkg_1f pkg_2f pkg_3f pkg_4f pkg_5f pkg_6f pkg_7f pkg_8f pkx_0 pkx_1 pkx_0f pkx_1f pky_0 pky_1 pky_0f pky_1f; obtain ⟨pkf_0, pkf_1, pkf_2, pkf_3, pkf_4, pkf_5, pkf_6, pkf_7, pkf_8⟩ := kf.nine; obtain ⟨pkf_0f, pkf_1f, pkf_2f, pkf_3f, pkf_4f, pkf_5f, pkf_6f, pkf_7f, pkf_8f⟩ := kf.nineF; obtain ⟨pkg_0, pkg_1, pkg_2, pkg_3, pkg_4, pkg_5, pkg_6, pkg_7, pkg_8⟩ := kg.nine; obtain ⟨pkg_0f, pkg_1f, pkg_2f, pkg_3f, pkg_4f, pkg_5f, pkg_6f, pkg_7f, pkg_8f⟩ := kg.nineF; obtain ⟨pkx_0, pkx_1, pkx_0f, pkx_1f⟩ := kx.two; obtain ⟨pky_0, pky_1, pky_0f, pky_1f⟩ := ky.two) | (go_at_call 15; refine (H8.out A1 A2 n1 n2 c1 c2 _ v1 v2).mono ?_; rintro e w8 ⟨rfl, hC⟩; dsimp only; replace kf := kf.on hC; replace kg := kg.on hC; replace kx := kx.on hC; replace ky := ky.on hC; replace v1 := v1.on hC; replace v2 := v2.on hC; replace bc := bc.trans (hC.mono bc.size); clear hC; clear pkf_0 pkf_1 pkf_2 pkf_3 pkf_4 pkf_5 pkf_6 pkf_7 pkf_8 pkf_0f pkf_1f pkf_2f pkf_3f pkf_4f pkf_5f pkf_6f pkf_7f pkf_8f pkg_0 pkg_1 pkg_2 pkg_3 pkg_4 pkg_5 pkg_6 pkg_7 pkg_8 pkg_0f pkg_1f pkg_2f pkg_3f pkg_4f pkg_5f pkg_6f pkg_7f pkg_8f pkx_0 pkx_1 pkx_0f pkx_1f pky_0 pky_1 pky_0f pky_1f; obtain ⟨pkf_0, pkf_1, pkf_2, pkf_3, pkf_4, pkf_5, pkf_6, pkf_7, pkf_8⟩ := kf.nine; obtain ⟨pkf_0f, pkf_1f, pkf_2f, pkf_3f, pkf_4f, pkf_5f, pkf_6f, pkf_7f, pkf_8f⟩ := kf.nineF; obtain ⟨pkg_0, pkg_1, pkg_2, pkg_3, pkg_4, pkg_5, pkg_6, pkg_7, pkg_8⟩ := kg.nine; obtain ⟨pkg_0f, pkg_1f, pkg_2f, pkg_3f, pkg_4f, pkg_5f, pkg_6f, pkg_7f, pkg_8f⟩ := kg.nineF; obtain ⟨pkx_0, pkx_1, pkx_0f, pkx_1f⟩ := kx.two; obtain ⟨pky_0, pky_1, pky_0f, pky_1f⟩ := ky.two) | (go_at_call 16; with_reducible refine (H9.out _ bc).mono ?_; rintro e w9 ⟨rfl, hC⟩; dsimp only; replace kf := kf.on hC; replace kg := kg.on hC; replace kx := kx.on hC; replace ky := ky.on hC; replace v1 := v1.on hC; replace v2 := v2.on hC; replace bc := bc.trans (hC.mono bc.size); clear hC; clear pkf_0 pkf_1 pkf_2 pkf_3 pkf_4 pkf_5 pkf_6 pkf_7 pkf_8 pkf_0f pkf_1f pkf_2f pkf_3f pkf_4f pkf_5f pkf_6f pkf_7f pkf_8f pkg_0 pkg_1 pkg_2 pkg_3 pkg_4 pkg_5 pkg_6 pkg_7 pkg_8 pkg_0f pkg_1f pkg_2f pkg_3f pkg_4f pkg_5f pkg_6f pkg_7f pkg_8f pkx_0 pkx_1 pkx_0f pkx_1f pky_0 pky_1 pky_0f pky_1f; obtain ⟨pkf_0, pkf_1, pkf_2, pkf_3, pkf_4, pkf_5, pkf_6, pkf_7, pkf_8⟩ := kf.nine; obtain ⟨pkf_0f, pkf_1f, pkf_2f, pkf_3f, pkf_4f, pkf_5f, pkf_6f, pkf_7f, pkf_8f⟩ := kf.nineF; obtain ⟨pkg_0, pkg_1, pkg_2, pkg_3, pkg_4, pkg_5, pkg_6, pkg_7, pkg_8⟩ := kg.nine; obtain ⟨pkg_0f, pkg_1f, pkg_2f, pkg_3f, pkg_4f, pkg_5f, pkg_6f, pkg_7f, pkg_8f⟩ := kg.nineF; obtain ⟨pkx_0, pkx_1, pkx_0f, pkx_1f⟩ := kx.two; obtain ⟨pky_0, pky_1, pky_0f, pky_1f⟩ := ky.two) | (go_at_call 17; refine (H10.out _ bc).mono ?_; rintro e w10 ⟨rfl, hC⟩; dsimp only; replace kf := kf.on hC; replace kg := kg.on hC; replace kx := kx.on hC; replace ky := ky.on hC; replace v1 := v1.on hC; replace v2 := v2.on hC; replace bc := bc.trans (hC.mono bc.size); clear hC; clear pkf_0 pkf_1 pkf_2 pkf_3 pkf_4 pkf_5 pkf_6 pkf_7 pkf_8 pkf_0f pkf_1f pkf_2f pkf_3f pkf_4f pkf_5f pkf_6f pkf_7f pkf_8f pkg_0 pkg_1 pkg_2 pkg_3 pkg_4 pkg_5 pkg_6 pkg_7 pkg_8 pkg_0f pkg_1f pkg_2f pkg_3f pkg_4f pkg_5f pkg_6f pkg_7f pkg_8f pkx_0 pkx_1 pkx_0f pkx_1f pky_0 pky_1 pky_0f pky_1f; obtain ⟨pkf_0, pkf_1, pkf_2, pkf_3, pkf_4, pkf_5, pkf_6, pkf_7, pkf_8⟩ := kf.nine; obtain ⟨pkf_0f, pkf_1f, pkf_2f, pkf_3f, pkf_4f, pkf_5f, pkf_6f, pkf_7f, pkf_8f⟩ := kf.nineF; obtain ⟨pkg_0, pkg_1, pkg_2, pkg_3, pkg_4, pkg_5, pkg_6, pkg_7, pkg_8⟩ := kg.nine; obtain ⟨pkg_0f, pkg_1f, pkg_2f, pkg_3f, pkg_4f, pkg_5f, pkg_6f, pkg_7f, pkg_8f⟩ := kg.nineF; obtain ⟨pkx_0, pkx_1, pkx_0f, pkx_1f⟩ := kx.two; obtain ⟨pky_0, pky_1, pky_0f, pky_1f⟩ := ky.two) | (go_at_call 16; with_reducible refine (H11.out _ bc).mono ?_; rintro e w11 ⟨rfl, hC⟩; dsimp only; replace kf := kf.on hC; replace kg := kg.on hC; replace kx := kx.on hC; replace ky := ky.on hC; replace v1 := v1.on hC; replace v2 := v2.on hC; replace bc := bc.trans (hC.mono bc.size); clear hC; clear pkf_0 pkf_1 pkf_2 pkf_3 pkf_4 pkf_5 pkf_6 pkf_7 pkf_8 pkf_0f pkf_1f pkf_2f pkf_3f pkf_4f pkf_5f pkf_6f pkf_7f pkf_8f pkg_0 pkg_1 pkg_2 pkg_3 pkg_4 pkg_5 pkg_6 pkg_7 pkg_8 pkg_0f pkg_1f pkg_2f pkg_3f pkg_4f pkg_5f pkg_6f pkg_7f pkg_8f pkx_0 pkx_1 pkx_0f pkx_1f pky_0 pky_1 pky_0f pky_1f; obtain ⟨pkf_0, pkf_1, pkf_2, pkf_3, pkf_4, pkf_5, pkf_6, pkf_7, pkf_8⟩ := kf.nine; obtain ⟨pkf_0f, pkf_1f, pkf_2f, pkf_3f, pkf_4f, pkf_5f, pkf_6f, pkf_7f, pkf_8f⟩ := kf.nineF; obtain ⟨pkg_0, pkg_1, pkg_2, pkg_3, pkg_4, pkg_5, pkg_6, pkg_7, pkg_8⟩ := kg.nine; obtain ⟨pkg_0f, pkg_1f, pkg_2f, pkg_3f, pkg_4f, pkg_5f, pkg_6f, pkg_7f, pkg_8f⟩ := kg.nineF; obtain ⟨pkx_0, pkx_1, pkx_0f, pkx_1f⟩ := kx.two; obtain ⟨pky_0, pky_1, pky_0f, pky_1f⟩ := ky.two))
  all_goals
    go_wp2
    go_ret
    exact ⟨by rfl, bc⟩
end Go.Proofs.YtcfbeelljhjnoaaDoor
