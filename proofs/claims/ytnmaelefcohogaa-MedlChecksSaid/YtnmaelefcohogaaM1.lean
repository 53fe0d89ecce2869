/-
  The statement of which lists may be, of layer 7. Condition: lists that can be read. (Printed by tools/gen07m1.py.)
-/
import Derived.Test.YtnmaelefcohogaaM0
import Derived.Test.YtnmaelefcohogaaMW
import Derived.Test.YtnmaelefcohogaaMM
namespace Go.Proofs.Ytnmaelefcohogaa
open Go.RowKit

set_option maxRecDepth 100000 in
set_option maxHeartbeats 8000000 in
theorem checks_law (a b : ML) (c s c2 s2 : Slc) (n d : Int) (w : World) (ha : Med w a c s) (hb : Med w b c2 s2) : Calls Try.prog 3 #[vM a c s, vM b c2 s2, .int .i64 n, .int .i64 d] w fun e w' => e = .returned (.bool true) ∧ Below w.heap.size w w' := by
  have h1 := fun W (h : Med W a c s) => check_any a c s W h
  have h2 := fun W (h : Med W a c s) => rcheck_any a c s W h
  have h3 := fun W (h : Med W a c s) => maxAir_any a c s W h
  have h4 := fun W (h : Med W a c s) => rmaxAir_any a c s W h
  have h5 := fun W (h : Med W a c s) (k : Med W b c2 s2) => sameM_any a b c s c2 s2 W h k
  have h6 := fun W (h : Med W a c s) (k : Med W b c2 s2) => rsameM_any a b c s c2 s2 W h k
  have h7 := fun W (h : Med W a c s) => sameM_any a a c s c s W h h
  rw [sameM_self] at h7
  have hp := fun W => plain_any n d W
  have hq := fun W => rplain_any n d W
  unfold PlR at hp hq
  generalize checkM a = ck at *
  generalize maxAirS a.N a.ms = ma at *
  generalize sameM a b = sab at *
  obtain ⟨X, hX⟩ : ∃ X, X = plainOf n d := ⟨_, rfl⟩
  rw [← hX] at hp hq
  generalize plainEr n d = er at *
  have h8 := fun cx sx cy sy W (h : Med W X cx sx) (k : Med W X cy sy) => rsameM_any X X cx sx cy sy W h k
  rw [sameM_self] at h8
  clear hX
  have HA := Lib.hid ha; have HB := Lib.hid hb; clear ha hb
  obtain ⟨aN, aS, aG, aW, aD, aL, aco, ams⟩ := a
  obtain ⟨aA, an, ac⟩ := c
  obtain ⟨aB, am, ad⟩ := s
  obtain ⟨bN, bS, bG, bW, bD, bL, bco, bms⟩ := b
  obtain ⟨bA, bn, bc⟩ := c2
  obtain ⟨bB, bm, bd⟩ := s2
  obtain ⟨xN, xS, xG, xW, xD, xL, xco, xms⟩ := X
  dsimp only [vM] at *
  have H1 := Lib.hid h1; have H2 := Lib.hid h2; have H3 := Lib.hid h3; have H4 := Lib.hid h4; have H5 := Lib.hid h5; have H6 := Lib.hid h6; have H7 := Lib.hid h7; have H8 := Lib.hid h8; have HP := Lib.hid hp; have HQ := Lib.hid hq; clear h1 h2 h3 h4 h5 h6 h7 h8 hp hq
  obtain ⟨ka, kb, bc⟩ := bx2 w #[.int .i64 aN, .int .i64 aS, .int .i64 aG, .int .i64 aW, .int .i64 aD, .int .i64 aL, .slice aA an ac, .slice aB am ad] #[.int .i64 bN, .int .i64 bS, .int .i64 bG, .int .i64 bW, .int .i64 bD, .int .i64 bL, .slice bA bn bc, .slice bB bm bd] 25 25
  go_enter Try.func3, Try.ntmps3
  go_wp2_with fail
  refine (HP.out _).mono ?_
  rintro e w1 ⟨⟨yA, yn, yc⟩, ⟨yB, ym, yd⟩, rfl, hMx, hC⟩
  dsimp only at hMx ⊢
  replace ka := ka.on hC; replace kb := kb.on hC; replace bc := bc.trans (hC.mono bc.size); clear hC HP
  obtain ⟨kx, hC⟩ := bx1 w1 #[.int .i64 xN, .int .i64 xS, .int .i64 xG, .int .i64 xW, .int .i64 xD, .int .i64 xL, .slice yA yn yc, .slice yB ym yd] 25
  replace ka := ka.on hC; replace kb := kb.on hC; replace bc := bc.trans (hC.mono bc.size); replace hMx := hMx.on hC; clear hC
  have lw := kb.lt
  go_wp2_with fail
  refine (HQ.out _).mono ?_
  rintro e w2 ⟨⟨zA, zn, zc⟩, ⟨zB, zm, zd⟩, rfl, hMy, hC⟩
  dsimp only at hMy ⊢
  generalize w1.alloc (.cells #[.int .i64 xN, .int .i64 xS, .int .i64 xG, .int .i64 xW, .int .i64 xD, .int .i64 xL, .slice yA yn yc, .slice yB ym yd] 25) = u1 at *
  generalize w1.heap.size = gx at *
  replace ka := ka.on hC; replace kb := kb.on hC; replace kx := kx.on hC; replace bc := bc.trans (hC.mono bc.size); replace hMx := hMx.on hC; clear hC HQ lw
  obtain ⟨ky, hC⟩ := bx1 w2 #[.int .i64 xN, .int .i64 xS, .int .i64 xG, .int .i64 xW, .int .i64 xD, .int .i64 xL, .slice zA zn zc, .slice zB zm zd] 25
  replace ka := ka.on hC; replace kb := kb.on hC; replace kx := kx.on hC; replace bc := bc.trans (hC.mono bc.size); replace hMx := hMx.on hC; replace hMy := hMy.on hC; clear hC
  go_wp2_with fail
  generalize w2.alloc (.cells #[.int .i64 xN, .int .i64 xS, .int .i64 xG, .int .i64 xW, .int .i64 xD, .int .i64 xL, .slice zA zn zc, .slice zB zm zd] 25) = u2 at *
  generalize w2.heap.size = gy at *
  obtain ⟨i0, i1, i2, i3, i4, i5, i6, i7⟩ := near_eight ka
  obtain ⟨j0, j1, j2, j3, j4, j5, j6, j7⟩ := near_eight kb
  obtain ⟨k0, k1, k2, k3, k4, k5, k6, k7⟩ := near_eight kx
  obtain ⟨l0, l1, l2, l3, l4, l5, l6, l7⟩ := near_eight ky
  have HA2 := Lib.hid (HA.out.on bc); have HB2 := Lib.hid (HB.out.on bc); have HX := Lib.hid hMx; have HY := Lib.hid hMy; have BC := Lib.hid bc; clear ka kb kx ky hMx hMy bc HA HB
  replace H8 := Lib.hid (fun W h k => H8.out ⟨yA, yn, yc⟩ ⟨yB, ym, yd⟩ ⟨zA, zn, zc⟩ ⟨zB, zm, zd⟩ W h k)
  refine wp_region_near (by kernel_rfl) (by kernel_rfl) ?_
  repeat (go_big_quiet_step (first
    | (go_at_call 10; exact near_call (begun_any _))
    | (go_at_call 11; exact near_call (H1.out _ (HA2.out.on (NearW.h _))))
    | (go_at_call 12; exact near_call (H2.out _ (HA2.out.on (NearW.h _))))
    | (go_at_call 13; exact near_call (H3.out _ (HA2.out.on (NearW.h _))))
    | (go_at_call 14; exact near_call (H4.out _ (HA2.out.on (NearW.h _))))
    | (go_at_call 15; with_reducible exact near_call (H5.out _ (HA2.out.on (NearW.h _)) (HB2.out.on (NearW.h _))))
    | (go_at_call 15; with_reducible exact near_call (H7.out _ (HA2.out.on (NearW.h _))))
    | (go_at_call 16; with_reducible exact near_call (H6.out _ (HA2.out.on (NearW.h _)) (HB2.out.on (NearW.h _))))
    | (go_at_call 16; with_reducible exact near_call (H8.out _ (HX.out.on (NearW.h _)) (HY.out.on (NearW.h _))))))
  refine wpQuiet_nil ?_
  rintro _ ⟨nw, rfl⟩
  go_wp2
  go_ret
  exact ⟨rfl, below_then BC.out nw.h⟩
end Go.Proofs.Ytnmaelefcohogaa
