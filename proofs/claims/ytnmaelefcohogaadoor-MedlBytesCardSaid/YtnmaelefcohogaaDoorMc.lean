/-
  The statement that a list is read as it was, of layer 7. Condition: a list and bytes that can be read, and the table as it was laid. (Printed by tools/gen07mc.py.)
-/
import Derived.Test.YtnmaelefcohogaaDoorMb
import Derived.Test.YtnmaelefcohogaaDoorMW
namespace Go.Proofs.YtnmaelefcohogaaDoor
open Go.RowKit

theorem parse_own {m : ML} (h : okM m) : parseM (bytesM m) = m ∧ parseE (bytesM m) = 0 := by
  obtain ⟨h1, h2⟩ := read_back h
  have hp : parseOk (bytesM m) := ⟨h2, by rw [h1]; exact h, by rw [h1]⟩
  exact ⟨by unfold parseM; rw [if_pos hp, h1], if_pos hp⟩
set_option maxRecDepth 100000 in
set_option maxHeartbeats 4000000 in
theorem back_law7 (m : ML) (c s : Slc) (A : Option Addr) (n k : Nat) (bs : List UInt8) (w : World) (hM : Med w m c s) (hn : n = bs.length) (hk : n ≤ k) (hkm : k ≤ maxLen) (hA : Byt w.heap.size w A bs) (hT : Tab w) : Calls Tryd.prog 4 #[vM m c s, .slice A n k] w fun e w' => e = .returned (.bool true) ∧ Below w.heap.size w w' := by
  have hP2 := fun W (h : Below w.heap.size w W) => parse_any A n k bs W hn hk hkm ((hA.below h).mono h.size) (hT.below h (.inl (Nat.le_refl _)))
  have hE2 := fun A2 n2 c2 W (h2 : n2 = bs.length) (hB : Byt W.heap.size W A2 bs) (h : Below w.heap.size w W) => bequal_any A2 A n2 n c2 k bs bs W h2 hn hB ((hA.below h).mono h.size)
  have hB1 := fun W (h : Below w.heap.size w W) => bytes_any m c s W (hM.on h) (hT.below h (.inl (Nat.le_refl _)))
  have hP1 := fun A1 c1 W (h : Below w.heap.size w W) (hB : Byt W.heap.size W A1 (bytesM m)) h1 h2 => parse_any A1 (bytesM m).length c1 (bytesM m) W rfl h1 h2 hB (hT.below h (.inl (Nat.le_refl _)))
  have hS1 := fun cx sx W (h : Below w.heap.size w W) (hx : Med W m cx sx) => rsameM_any m m cx sx c s W hx (hM.on h)
  rw [sameM_self] at hS1
  have hown := fun (h : okM m) => parse_own h
  have hbs := fun (h : okM m) => (show bytesS m = bytesM m from if_pos h)
  have hck := checkM_two m
  have hoki : checkM m = 0 ↔ okM m := ⟨checkM_ok, checkM_yes⟩
  have hB2 := fun c9 s9 W (h : Below w.heap.size w W) (hx : Med W (parseM bs) c9 s9) => bytes_any (parseM bs) c9 s9 W hx (hT.below h (.inl (Nat.le_refl _)))
  have hpo : parseOk bs → okM (parseM bs) ∧ bytesS (parseM bs) = bs ∧ parseE bs = 0 := fun h => by
    have h1 : parseM bs = readM bs := if_pos h
    rw [h1]
    exact ⟨h.2.1, (if_pos h.2.1).trans h.2.2, if_pos h⟩
  have hpn : ¬ parseOk bs → parseE bs = 71 := fun h => if_neg h
  unfold BytR at hB1 hB2
  unfold PaR at hP1 hP2
  have HP2 := Lib.hid hP2; have HE2 := Lib.hid hE2; have HB1 := Lib.hid hB1; have HP1 := Lib.hid hP1; have HS1 := Lib.hid hS1; have HB2 := Lib.hid hB2; have HPO := Lib.hid hpo; have HPN := Lib.hid hpn; have HOWN := Lib.hid hown; have HBS := Lib.hid hbs; have HOK := Lib.hid hoki
  clear hP2 hE2 hB1 hP1 hS1 hB2 hpo hpn hown hbs hoki hM hA hT hk hkm
  obtain ⟨X, hX⟩ : ∃ X, X = parseM bs := ⟨_, rfl⟩
  obtain ⟨XE, hXE⟩ : ∃ X, X = parseE bs := ⟨_, rfl⟩
  obtain ⟨CK, hCK⟩ : ∃ X, X = checkM m := ⟨_, rfl⟩
  rw [← hX] at HP2 HB2 HPO
  rw [← hXE] at HP2 HPO HPN
  rw [← hCK] at HB1 HOK hck
  have HN := Lib.hid hn; clear hX hXE hCK hn
  obtain ⟨aN, aS, aG, aW, aD, aL, aco, ams⟩ := m
  obtain ⟨aA, an, ac⟩ := c
  obtain ⟨aB, am, ad⟩ := s
  obtain ⟨xN, xS, xG, xW, xD, xL, xco, xms⟩ := X
  dsimp only [vM] at *
  obtain ⟨ka, bc⟩ := bx1 w #[.int .i64 aN, .int .i64 aS, .int .i64 aG, .int .i64 aW, .int .i64 aD, .int .i64 aL, .slice aA an ac, .slice aB am ad] 25
  go_enter Tryd.func4, Tryd.ntmps4
  go_wp2_with fail
  refine (begun_any _).mono ?_
  rintro e w1 ⟨rfl, hC⟩
  dsimp only
  replace ka := ka.on hC; replace bc := bc.trans (hC.mono bc.size); clear hC
  obtain ⟨p0, p1, p2, p3, p4, p5, p6, p7⟩ := ka.eight
  have la := ka.lt
  go_wp2_with fail
  refine (HB1.out _ bc).mono ?_
  rintro e w2 ⟨A1, c1, rfl, hb1, hl1, hm1, hC⟩
  dsimp only
  replace ka := ka.on hC; replace bc := bc.trans (hC.mono bc.size); clear hC p0 p1 p2 p3 p4 p5 p6 p7 la HB1
  rcases hck with rfl | rfl
  · have hok := HOK.out.1 rfl
    have hbe := HBS.out hok
    obtain ⟨ho1, ho2⟩ := HOWN.out hok
    rw [hbe] at hb1 hl1 ⊢
    have hp1 := HP1.out A1 c1 _ bc hb1 hl1 hm1
    rw [ho1, ho2] at hp1
    have HP3 := Lib.hid hp1
    clear hp1 ho1 ho2 hbe hb1 hl1 hm1 hok HP1
    generalize (bytesM ⟨aN, aS, aG, aW, aD, aL, aco, ams⟩).length = ln1 at *
    go_wp2_with fail
    refine HP3.out.mono ?_
    rintro e w3 ⟨⟨zA, zn, zc⟩, ⟨zB, zm, zd⟩, rfl, hMz, hC⟩
    dsimp only at hMz ⊢
    replace ka := ka.on hC; replace bc := bc.trans (hC.mono bc.size); clear hC HP3
    obtain ⟨kz, hC⟩ := bx1 w3 #[.int .i64 aN, .int .i64 aS, .int .i64 aG, .int .i64 aW, .int .i64 aD, .int .i64 aL, .slice zA zn zc, .slice zB zm zd] 25
    replace ka := ka.on hC; replace bc := bc.trans (hC.mono bc.size); replace hMz := hMz.on hC; clear hC
    have hs1 := HS1.out ⟨zA, zn, zc⟩ ⟨zB, zm, zd⟩ _ bc hMz
    dsimp only at hs1
    have HS3 := Lib.hid hs1; clear hs1 hMz HS1
    obtain ⟨p0, p1, p2, p3, p4, p5, p6, p7⟩ := ka.eight
    obtain ⟨q0, q1, q2, q3, q4, q5, q6, q7⟩ := kz.eight
    have la := ka.lt; have lz := kz.lt
    go_wp2_with fail
    refine HS3.out.mono ?_
    rintro e w4 ⟨rfl, hC⟩
    dsimp only
    replace bc := bc.trans (hC.mono bc.size); clear hC HS3 p0 p1 p2 p3 p4 p5 p6 p7 q0 q1 q2 q3 q4 q5 q6 q7 la lz ka kz
    go_wp2_with fail
    refine (HP2.out _ bc).mono ?_
    rintro e w8 ⟨⟨yA, yn, yc⟩, ⟨yB, ym, yd⟩, rfl, hMx, hC⟩
    dsimp only at hMx ⊢
    replace bc := bc.trans (hC.mono bc.size); clear hC HP2
    obtain ⟨kx, hC⟩ := bx1 w8 #[.int .i64 xN, .int .i64 xS, .int .i64 xG, .int .i64 xW, .int .i64 xD, .int .i64 xL, .slice yA yn yc, .slice yB ym yd] 25
    replace bc := bc.trans (hC.mono bc.size); replace hMx := hMx.on hC; clear hC
    by_cases hpk : parseOk bs
    rotate_left
    · obtain rfl := HPN.out hpk
      go_wp2
      go_ret
      exact ⟨rfl, bc⟩
    obtain ⟨ho1, ho2, rfl⟩ := HPO.out hpk
    obtain ⟨p0, p1, p2, p3, p4, p5, p6, p7⟩ := kx.eight
    have lx := kx.lt
    have hb2 := HB2.out ⟨yA, yn, yc⟩ ⟨yB, ym, yd⟩ _ bc hMx
    rw [checkM_yes ho1, ho2] at hb2
    dsimp only at hb2
    have HB3 := Lib.hid hb2
    clear hb2 ho1 ho2 hMx
    go_wp2_with fail
    refine HB3.out.mono ?_
    rintro e w9 ⟨A9, c9, rfl, hb9, -, -, hC⟩
    dsimp only
    replace bc := bc.trans (hC.mono bc.size)
    have heq := HE2.out A9 bs.length c9 w9 rfl hb9 bc
    simp only [decide_true] at heq
    have HEQ := Lib.hid heq
    clear heq hb9 hC
    obtain ⟨ln, hln⟩ : ∃ x, x = bs.length := ⟨_, rfl⟩
    rw [← hln] at HEQ ⊢
    clear hln
    go_wp2_with (go_at_call 10; refine HEQ.out.mono ?_; rintro e w10 ⟨rfl, rfl⟩)
    go_ret
    exact ⟨rfl, bc⟩
  · clear hb1 hl1 hm1 HP1 HS1 ka
    generalize (bytesS ⟨aN, aS, aG, aW, aD, aL, aco, ams⟩).length = ln1 at *
    go_wp2_with fail
    refine (HP2.out _ bc).mono ?_
    rintro e w8 ⟨⟨yA, yn, yc⟩, ⟨yB, ym, yd⟩, rfl, hMx, hC⟩
    dsimp only at hMx ⊢
    replace bc := bc.trans (hC.mono bc.size); clear hC HP2
    obtain ⟨kx, hC⟩ := bx1 w8 #[.int .i64 xN, .int .i64 xS, .int .i64 xG, .int .i64 xW, .int .i64 xD, .int .i64 xL, .slice yA yn yc, .slice yB ym yd] 25
    replace bc := bc.trans (hC.mono bc.size); replace hMx := hMx.on hC; clear hC
    by_cases hpk : parseOk bs
    rotate_left
    · obtain rfl := HPN.out hpk
      go_wp2
      go_ret
      exact ⟨rfl, bc⟩
    obtain ⟨ho1, ho2, rfl⟩ := HPO.out hpk
    obtain ⟨p0, p1, p2, p3, p4, p5, p6, p7⟩ := kx.eight
    have lx := kx.lt
    have hb2 := HB2.out ⟨yA, yn, yc⟩ ⟨yB, ym, yd⟩ _ bc hMx
    rw [checkM_yes ho1, ho2] at hb2
    dsimp only at hb2
    have HB3 := Lib.hid hb2
    clear hb2 ho1 ho2 hMx
    go_wp2_with fail
    refine HB3.out.mono ?_
    rintro e w9 ⟨A9, c9, rfl, hb9, -, -, hC⟩
    dsimp only
    replace bc := bc.trans (hC.mono bc.size)
    have heq := HE2.out A9 bs.length c9 w9 rfl hb9 bc
    simp only [decide_true] at heq
    have HEQ := Lib.hid heq
    clear heq hb9 hC
    obtain ⟨ln, hln⟩ : ∃ x, x = bs.length := ⟨_, rfl⟩
    rw [← hln] at HEQ ⊢
    clear hln
    go_wp2_with (go_at_call 10; refine HEQ.out.mono ?_; rintro e w10 ⟨rfl, rfl⟩)
    go_ret
    exact ⟨rfl, bc⟩
end Go.Proofs.YtnmaelefcohogaaDoor
