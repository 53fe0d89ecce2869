/-
  The statement of any list's bytes, and of the list of any bytes, of layer 7. Condition: a list and bytes that can be read, and the table as it was laid. (Printed by tools/gen07mj.py.)
-/
import Derived.Test.YtnmaelefcohogaaDoorMi
namespace Go.Proofs.YtnmaelefcohogaaDoor
open Go.RowKit

set_option maxRecDepth 100000 in
set_option maxHeartbeats 4000000 in
theorem bytes_law7 (m : ML) (c s : Slc) (A : Option Addr) (n k : Nat) (bs : List UInt8) (w : World) (hM : Med w m c s) (hn : n = bs.length) (hk : n ≤ k) (hkm : k ≤ maxLen) (hA : Byt w.heap.size w A bs) (hT : Tab w) : Calls Tryd.prog 3 #[vM m c s, .slice A n k] w fun e w' => e = .returned (.bool true) ∧ Below w.heap.size w w' := by
  have hP1 := fun W (h : Below w.heap.size w W) => parse_any A n k bs W hn hk hkm ((hA.below h).mono h.size) (hT.below h (.inl (Nat.le_refl _)))
  have hP2 := fun W (h : Below w.heap.size w W) => rparse_any A n k bs W hn hk hkm ((hA.below h).mono h.size)
  have hB1 := fun W (h : Below w.heap.size w W) => bytes_any m c s W (hM.on h) (hT.below h (.inl (Nat.le_refl _)))
  have hB2 := fun W (h : Below w.heap.size w W) => rbytes_any m c s W (hM.on h)
  have hS := fun cx sx cy sy W (hx : Med W (parseM bs) cx sx) (hy : Med W (parseM bs) cy sy) => rsameM_any (parseM bs) (parseM bs) cx sx cy sy W hx hy
  rw [sameM_self] at hS
  have hE := fun A1 A2 c1 c2 W (h1 : Byt W.heap.size W A1 (bytesS m)) (h2 : Byt W.heap.size W A2 (bytesS m)) => bequal_any A1 A2 _ _ c1 c2 (bytesS m) (bytesS m) W rfl rfl h1 h2
  simp only [decide_true] at hE
  unfold BytR at hB1 hB2
  unfold PaR at hP1 hP2
  generalize parseM bs = X at *
  generalize parseE bs = XE at *
  generalize checkM m = CK at *
  generalize bytesS m = Y at *
  have HP1 := Lib.hid hP1; have HP2 := Lib.hid hP2; have HB1 := Lib.hid hB1; have HB2 := Lib.hid hB2; have HS := Lib.hid hS; have HE := Lib.hid hE
  clear hP1 hP2 hB1 hB2 hS hE hM hA hT hk hkm hn
  obtain ⟨aN, aS, aG, aW, aD, aL, aco, ams⟩ := m
  obtain ⟨aA, an, ac⟩ := c
  obtain ⟨aB, am, ad⟩ := s
  obtain ⟨xN, xS, xG, xW, xD, xL, xco, xms⟩ := X
  dsimp only [vM] at *
  obtain ⟨ka, bc⟩ := bx1 w #[.int .i64 aN, .int .i64 aS, .int .i64 aG, .int .i64 aW, .int .i64 aD, .int .i64 aL, .slice aA an ac, .slice aB am ad] 25
  obtain ⟨p0, p1, p2, p3, p4, p5, p6, p7⟩ := ka.eight
  have la := ka.lt
  go_enter Tryd.func3, Tryd.ntmps3
  go_wp2_with fail
  refine (HB1.out _ bc).mono ?_
  rintro e w2 ⟨A1, c1, rfl, hb1, -, -, hC⟩
  dsimp only
  clear p0 p1 p2 p3 p4 p5 p6 p7 la HB1
  replace ka := ka.on hC; replace bc := bc.trans (hC.mono bc.size); clear hC
  obtain ⟨p0, p1, p2, p3, p4, p5, p6, p7⟩ := ka.eight
  have la := ka.lt
  go_wp2_with fail
  refine (HB2.out _ bc).mono ?_
  rintro e w3 ⟨A2, c2, rfl, hb2, -, -, hC⟩
  dsimp only
  clear p0 p1 p2 p3 p4 p5 p6 p7 la HB2 ka
  replace bc := bc.trans (hC.mono bc.size); replace hb1 := (hb1.below hC).mono hC.size; clear hC
  go_wp2_with fail
  refine (HP1.out _ bc).mono ?_
  rintro e w4 ⟨⟨yA, yn, yc⟩, ⟨yB, ym, yd⟩, rfl, hMx, hC⟩
  dsimp only at hMx ⊢
  replace bc := bc.trans (hC.mono bc.size); replace hb1 := (hb1.below (hC)).mono hC.size; replace hb2 := (hb2.below hC).mono hC.size; clear hC HP1
  obtain ⟨kx, hC⟩ := bx1 w4 #[.int .i64 xN, .int .i64 xS, .int .i64 xG, .int .i64 xW, .int .i64 xD, .int .i64 xL, .slice yA yn yc, .slice yB ym yd] 25
  replace bc := bc.trans (hC.mono bc.size); replace hb1 := (hb1.below hC).mono hC.size; replace hb2 := (hb2.below hC).mono hC.size; replace hMx := hMx.on hC; clear hC
  go_wp2_with fail
  refine (HP2.out _ bc).mono ?_
  rintro e w5 ⟨⟨zA, zn, zc⟩, ⟨zB, zm, zd⟩, rfl, hMz, hC⟩
  dsimp only at hMz ⊢
  replace bc := bc.trans (hC.mono bc.size); replace hb1 := (hb1.below hC).mono hC.size; replace hb2 := (hb2.below hC).mono hC.size; replace hMx := hMx.on hC; replace kx := kx.on hC; clear hC HP2
  obtain ⟨kz, hC⟩ := bx1 w5 #[.int .i64 xN, .int .i64 xS, .int .i64 xG, .int .i64 xW, .int .i64 xD, .int .i64 xL, .slice zA zn zc, .slice zB zm zd] 25
  replace bc := bc.trans (hC.mono bc.size); replace hb1 := (hb1.below hC).mono hC.size; replace hb2 := (hb2.below hC).mono hC.size; replace hMx := hMx.on hC; replace hMz := hMz.on hC; replace kx := kx.on hC; clear hC
  go_wp2_with fail
  refine (begun_any _).mono ?_
  rintro e w6 ⟨rfl, hC⟩
  dsimp only
  replace bc := bc.trans (hC.mono bc.size); replace hb1 := (hb1.below hC).mono hC.size; replace hb2 := (hb2.below hC).mono hC.size; replace hMx := hMx.on hC; replace hMz := hMz.on hC; replace kx := kx.on hC; replace kz := kz.on hC; clear hC
  have he1 := HE.out A1 A2 c1 c2 w6 hb1 hb2
  have hs1 := HS.out ⟨yA, yn, yc⟩ ⟨yB, ym, yd⟩ ⟨zA, zn, zc⟩ ⟨zB, zm, zd⟩ w6 hMx hMz
  dsimp only at hs1
  generalize Y.length = ln at *
  have HE1 := Lib.hid he1; have HS1 := Lib.hid hs1
  clear he1 hs1 hb1 hb2 hMx hMz HE HS
  obtain ⟨p0, p1, p2, p3, p4, p5, p6, p7⟩ := kx.eight
  obtain ⟨q0, q1, q2, q3, q4, q5, q6, q7⟩ := kz.eight
  have lx := kx.lt; have lz := kz.lt
  clear kx kz
  go_wp2_with (first
    | (go_at_call 10; refine HE1.out.mono ?_; rintro e w7 ⟨rfl, rfl⟩)
    | (go_at_call 11; refine HS1.out.mono ?_; rintro e w8 ⟨rfl, hC⟩; replace bc := bc.trans (hC.mono bc.size)))
  go_ret
  exact ⟨rfl, bc⟩
end Go.Proofs.YtnmaelefcohogaaDoor
