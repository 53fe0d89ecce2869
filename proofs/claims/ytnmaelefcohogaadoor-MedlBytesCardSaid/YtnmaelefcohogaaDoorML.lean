/-
  Plain of package medl makes the list that the document says, for numbers within their limits. Condition: that. (Printed by tools/gen07l.py.)
-/
import Derived.Test.YtnmaelefcohogaaDoorMK
namespace Go.Proofs.YtnmaelefcohogaaDoor
open Go.RowKit

/-- The smallest list. -/
def plainB (m : Nat) : List Md := [⟨List.replicate m 2, List.replicate m true, [true]⟩]
def plainW (m : Nat) (d : Int) : Int := 16 * (m : Int) * d + 16
def plainG (m : Nat) (d : Int) : Int := 2 * plainW m d + 2 * 1 + 4
def plainM (m : Nat) (d : Int) : ML := ⟨m, 2 * plainG m d + maxAirS m (plainB m), plainG m d, plainW m d, d, 1, List.replicate m true, plainB m⟩
theorem infoM : (Tryd.prog.info? 25).map (·.size) = some 8 := by kernel_rfl
theorem Blk.row8 {W : World} {g : Nat} {t : TypeId} {old : Array Value} (h : Blk W g t old) (cs : Array Value) : Blk (W.setRow g cs) g t cs := setRow_heap W g old cs t (0, 0) h
theorem Blk.ne_type {w : World} {g g' : Nat} {t t' : TypeId} {cs cs' : Array Value} (h : Blk w g t cs) (h' : Blk w g' t' cs') (hne : t ≠ t') : g ≠ g' := by
  rintro rfl
  unfold Blk at h h'
  rw [h] at h'
  injection h' with h'
  injection h' with _ h2 _
  exact hne h2
theorem bools_rep {w : World} {g m : Nat} (h : Blk w g 4 (List.replicate m (Value.bool true)).toArray) : Bools w.heap.size w (some ⟨g, 0, none⟩) (List.replicate m true) := fun _ =>
  ⟨g, 0, rfl, h.lt, fun j hj => by
    have hj' : j < m := by simpa using hj
    rw [Nat.zero_add, h.cell]; simp [hj']⟩
theorem ints_rep {w : World} {g m : Nat} (h : Blk w g 3 (List.replicate m (Value.int .i64 2)).toArray) : Ints w.heap.size w (some ⟨g, 0, none⟩) (List.replicate m 2) := fun _ =>
  ⟨g, 0, rfl, h.lt, fun j hj => by
    have hj' : j < m := by simpa using hj
    rw [Nat.zero_add, h.cell]; simp [hj']⟩
/-- The list's slices, out of their blocks. -/
theorem med_plain {w : World} {gc gs gd gx gn m : Nat} (h0 : m ≤ 8) {N S G W D L : Int} (kc : Blk w gc 4 (List.replicate m (Value.bool true)).toArray) (ks : Blk w gs 46 #[.slice (some ⟨gd, 0, none⟩) m m, .slice (some ⟨gx, 0, none⟩) m m, .slice (some ⟨gn, 0, none⟩) 1 1])
    (kd : Blk w gd 3 (List.replicate m (Value.int .i64 2)).toArray) (kx : Blk w gx 4 (List.replicate m (Value.bool true)).toArray) (kn : Blk w gn 4 #[.bool true]) :
    Med w ⟨N, S, G, W, D, L, List.replicate m true, plainB m⟩ ⟨some ⟨gc, 0, none⟩, m, m⟩ ⟨some ⟨gs, 0, none⟩, 1, 1⟩ := by
  have hb : (8 : Nat) ≤ maxLen := by unfold maxLen; omega
  refine ⟨bools_rep kc, by simp, Nat.le_trans h0 hb, fun _ => ⟨gs, 0, rfl, ks.lt, fun j o hj => ?_⟩, rfl, (by show (1 : Nat) ≤ maxLen; unfold maxLen; omega)⟩
  obtain ⟨p0, p1, p2, -⟩ := ks.three
  have hj0 : j = 0 := by
    rcases Nat.eq_zero_or_pos j with h | h
    · exact h
    · dsimp only [plainB] at hj
      rw [List.getElem?_eq_none (by simp; omega)] at hj; cases hj
  subst hj0
  obtain rfl : _ = o := by simpa [plainB] using hj
  exact ⟨⟨⟨some ⟨gd, 0, none⟩, m, m⟩, ⟨some ⟨gx, 0, none⟩, m, m⟩, ⟨some ⟨gn, 0, none⟩, 1, 1⟩⟩, p0, p1, p2,
    ints_rep kd, by simp, Nat.le_trans h0 hb, bools_rep kx, by simp, Nat.le_trans h0 hb, bools_rep (m := 1) kn, rfl, (by show (1 : Nat) ≤ maxLen; unfold maxLen; omega)⟩

set_option maxRecDepth 8000 in
set_option maxHeartbeats 1000000 in
theorem plain1_any (g m : Nat) (w : World) (h0 : 4 ≤ m) (h1 : m ≤ 8) (hk : Blk w g 3 #[.int .i64 (m : Int)]) :
    Calls Tryd.prog 45 #[.pointer (some ⟨g, 0, none⟩)] w fun e w' => ∃ g, e = .returned (.slice (some ⟨g, 0, none⟩) m m) ∧ w.heap.size ≤ g ∧ Blk w' g 4 (List.replicate m (Value.bool true)).toArray ∧ Below w.heap.size w w' := by
  obtain ⟨kb, bc⟩ := bx1 w #[.bool true] 4
  replace hk := hk.on bc
  obtain ⟨p0, -⟩ := hk.one
  have hre := repeatB_any w.heap.size m (w.alloc (.cells #[.bool true] 4)) h0 h1 kb.lt kb.one.1
  have HRE := Lib.hid hre; clear hre
  go_enter Tryd.func45, Tryd.ntmps45
  go_wp2_with (first
    | (go_at_call 46; refine HRE.out.mono ?_; rintro e w1 ⟨g1, rfl, hg1, k1, hC⟩))
  go_ret
  exact ⟨g1, rfl, by have := bc.size; omega, k1, bc.trans (hC.mono bc.size)⟩
set_option maxRecDepth 100000 in
set_option maxHeartbeats 8000000 in
theorem plain_good (m : Nat) (d : Int) (w : World) (h0 : 4 ≤ m) (h1 : m ≤ 8) (d0 : 0 ≤ d) (d1 : d ≤ 64) : Calls Tryd.prog 24 #[.int .i64 (m : Int), .int .i64 d] w fun e w' =>
    ∃ c s : Slc, e = .returned (.tuple #[vM (plainM m d) c s, .int .i64 0]) ∧ Med w' (plainM m d) c s ∧ Below w.heap.size w w' := by
  have cf : beyondS 4 8 (m : Int) = false := (beyond_iff 4 8 _).2 ⟨by omega, by omega⟩
  have ef : beyondS 0 64 d = false := (beyond_iff 0 64 _).2 ⟨d0, d1⟩
  obtain ⟨kn, kr, bc⟩ := bx2 w #[.int .i64 (m : Int)] #[.int .i64 0, .int .i64 0, .int .i64 0, .int .i64 0, .int .i64 0, .int .i64 0, .slice none 0 0, .slice none 0 0] 3 25
  go_enter Tryd.func24, Tryd.ntmps24
  go_wp2_with fail
  generalize (w.alloc (.cells #[.int .i64 (m : Int)] 3)).alloc (.cells #[.int .i64 0, .int .i64 0, .int .i64 0, .int .i64 0, .int .i64 0, .int .i64 0, .slice none 0 0, .slice none 0 0] 25) = u1 at *
  have hdr : Below u1.heap.size u1 u1.drew := (Below.refl _ _).drew
  replace kn := kn.on hdr; replace kr := kr.on hdr; replace bc := bc.trans (hdr.mono bc.size); clear hdr
  obtain ⟨p0, -⟩ := kn.one
  go_region_held3 (fun w' => w'.cell? ⟨w.heap.size, 0, none⟩ = some (.int .i64 (m : Int))) (first | exact p0) (first
    | (go_at_call 51; refine (beyond1_any 4 8 _ _ _ k1 k2).mono ?_; rintro e w3 ⟨rfl, rfl⟩; rw [cf])
    | (go_at_call 51; refine (beyond1_any 0 64 _ _ _ k1 k2).mono ?_; rintro e w3 ⟨rfl, rfl⟩; rw [ef])
    | (have _ := k1; go_at_call 29; refine (beyond_any 0 64 _).mono ?_; rintro e w2 ⟨g2, rfl, hg, k1, k2, hC⟩; dsimp only; replace kn := kn.on hC; replace kr := kr.on hC; replace bc := bc.trans (hC.mono bc.size); clear hC; obtain ⟨p0, -⟩ := kn.one)
    | (go_at_call 29; refine (beyond_any 4 8 _).mono ?_; rintro e w2 ⟨g1, rfl, hg, k1, k2, hC⟩; dsimp only; replace kn := kn.on hC; replace kr := kr.on hC; replace bc := bc.trans (hC.mono bc.size); clear hC; obtain ⟨p0, -⟩ := kn.one))
  clear k1 k2 hg p0
  obtain ⟨p0, -⟩ := kn.one
  have hlw := kn.lt
  have ki := Blk.new w2 3 #[.int .i64 2]
  have hri := repeatI_any w2.heap.size m (w2.alloc (.cells #[.int .i64 2] 3)) h0 h1 ki.lt ki.one.1
  have bal := Below.al w2 (.cells #[.int .i64 2] 3)
  have HRI := Lib.hid hri; clear hri ki
  go_wp2_with (first
    | (go_at_call 47; refine HRI.out.mono ?_; rintro e w4 ⟨gd, rfl, hgd, kd, hC⟩; replace hC := bal.trans (hC.mono bal.size); dsimp only; clear bal; replace kn := kn.on hC; replace kr := kr.on hC; replace bc := bc.trans (hC.mono bc.size); clear hC)
    | (go_at_call 45; refine (plain1_any _ m _ h0 h1 kn).mono ?_; rintro e w5 ⟨gx, rfl, hgx, kx, hC⟩; dsimp only; replace kn := kn.on hC; replace kr := kr.on hC; replace kd := kd.on hC; replace bc := bc.trans (hC.mono bc.size); clear hC))
  clear p0 hlw hgd hgx
  obtain ⟨kt, ko, hC⟩ := bx2 w5 #[.bool true] #[.slice (some ⟨gd, 0, none⟩) m m, .slice (some ⟨gx, 0, none⟩) m m, .slice (some ⟨w5.heap.size, 0, none⟩) 1 1] 4 46
  replace kn := kn.on hC; replace kr := kr.on hC; replace kd := kd.on hC; replace kx := kx.on hC; replace bc := bc.trans (hC.mono bc.size); clear hC
  generalize (w5.alloc (.cells #[.bool true] 4)).alloc (.cells #[.slice (some ⟨gd, 0, none⟩) m m, .slice (some ⟨gx, 0, none⟩) m m, .slice (some ⟨w5.heap.size, 0, none⟩) 1 1] 46) = u2 at *
  generalize w5.heap.size = gt at *
  rename_i K hK
  have hrl : w.heap.size + 1 < u2.heap.size := kr.lt
  have hrest : ∀ (gc gs gb : Nat) (W : World), Blk W gc 4 (List.replicate m (Value.bool true)).toArray → Blk W gs 46 #[.slice (some ⟨gd, 0, none⟩) m m, .slice (some ⟨gx, 0, none⟩) m m, .slice (some ⟨gt, 0, none⟩) 1 1] → Blk W gb 25 #[.int .i64 (m : Int), .int .i64 0, .int .i64 0, .int .i64 0, .int .i64 d, .int .i64 1, .slice (some ⟨gc, 0, none⟩) m m, .slice (some ⟨gs, 0, none⟩) 1 1] → Below u2.heap.size u2 W → u2.heap.size ≤ gb → K ⟨#[.int .i64 (m : Int), .int .i64 d, .pointer (some ⟨w.heap.size, 0, none⟩), undef, .pointer (some ⟨w.heap.size + 1, 0, none⟩), .int .i64 0, .func (.func 45) #[] #[.pointer (some ⟨w.heap.size, 0, none⟩)], .pointer (some ⟨gt + 1, 0, none⟩), .pointer (some ⟨gb, 0, none⟩), .func (.func 51) #[] #[.pointer (some ⟨g1, 0, none⟩), .pointer (some ⟨g1 + 1, 0, none⟩)], .int .i64 (m : Int), .bool false, .bool false, .func (.func 51) #[] #[.pointer (some ⟨g2, 0, none⟩), .pointer (some ⟨g2 + 1, 0, none⟩)], .int .i64 d, .bool false, .bool false, undef, .func (.func 45) #[] #[.pointer (some ⟨w.heap.size, 0, none⟩)], .slice (some ⟨w2.heap.size, 0, none⟩) 1 1, .int .i64 (m : Int), .slice (some ⟨gd, 0, none⟩) m m, .func (.func 45) #[] #[.pointer (some ⟨w.heap.size, 0, none⟩)], .slice (some ⟨gx, 0, none⟩) m m, .slice (some ⟨gt, 0, none⟩) 1 1, .agg #[.slice (some ⟨gd, 0, none⟩) m m, .slice (some ⟨gx, 0, none⟩) m m, .slice (some ⟨gt, 0, none⟩) 1 1], .int .i64 (m : Int), .int .i64 d, .func (.func 45) #[] #[.pointer (some ⟨w.heap.size, 0, none⟩)], .slice (some ⟨gc, 0, none⟩) m m, .agg #[.slice (some ⟨gd, 0, none⟩) m m, .slice (some ⟨gx, 0, none⟩) m m, .slice (some ⟨gt, 0, none⟩) 1 1], .slice (some ⟨gs, 0, none⟩) 1 1, .agg #[.int .i64 (m : Int), .int .i64 0, .int .i64 0, .int .i64 0, .int .i64 d, .int .i64 1, .slice (some ⟨gc, 0, none⟩) m m, .slice (some ⟨gs, 0, none⟩) 1 1], undef, undef, undef, undef, undef, undef, undef, undef, undef, undef], []⟩ W := by
    intro gc gs gb W kc ks kb bs hgb
    refine hK _ _ ?_
    replace kn := kn.on bs
    replace kr := kr.on bs
    replace kd := kd.on bs
    replace kx := kx.on bs
    replace kt := kt.on bs
    replace ko := ko.on bs
    replace bc := bc.trans (bs.mono bc.size)
    have hgr : w.heap.size + 1 ≠ gb := by have := hrl; omega
    have hwb : w.heap.size ≤ gb := by have := hrl; omega
    clear bs hgb
    obtain ⟨hp0, hp1⟩ := mul_small (N := (m : Int)) (D := d) (by omega) (by omega) d0 d1
    have e1 : 16 * (m : Int) * d = 16 * ((m : Int) * d) := Int.mul_assoc _ _ _
    obtain ⟨X, hX⟩ : ∃ X, 16 * (m : Int) * d + 16 = X := ⟨_, rfl⟩
    have hX0 : 16 ≤ X ∧ X ≤ 8208 := by rw [← hX, e1]; omega
    obtain ⟨Y, hY⟩ : ∃ Y, 2 * X + 2 * 1 + 4 = Y := ⟨_, rfl⟩
    have hY0 : 0 ≤ Y ∧ Y ≤ 20000 := by omega
    obtain ⟨Z, hZ⟩ : ∃ Z, 2 * Y + maxAirS (m : Int) (plainB m) = Z := ⟨_, rfl⟩
    have hpl : plainM m d = ⟨m, Z, Y, X, d, 1, List.replicate m true, plainB m⟩ := by unfold plainM plainG plainW; rw [← hZ, ← hY, ← hX]
    have HPL := Lib.hid hpl; have HX := Lib.hid hX; have HY := Lib.hid hY; have HZ := Lib.hid hZ; have HX0 := Lib.hid hX0; have HY0 := Lib.hid hY0
    clear hpl hX hY hZ e1 hp0 hp1 hX0 hY0
    obtain ⟨p0, p1, p2, p3, p4, p5, p6, p7⟩ := kb.eight
    obtain ⟨f0, f1, f2, f3, f4, f5, f6, f7⟩ := kb.eightF
    have hcall := leastWindow_any ⟨(m : Int), 0, 0, 0, d, 1, List.replicate m true, plainB m⟩ ⟨some ⟨gc, 0, none⟩, m, m⟩ ⟨some ⟨gs, 0, none⟩, 1, 1⟩ W (by dsimp only; omega) (by dsimp only; omega) d0 d1
    dsimp only [vM] at hcall
    rw [HX.out] at hcall
    have HCALL := Lib.hid hcall; clear hcall
    simp only []
    go_wp2_with fail
    refine HCALL.out.mono ?_
    rintro e w6 ⟨rfl, hC⟩
    dsimp only
    clear HCALL p0 p1 p2 p3 p4 p5 p6 p7 f0 f1 f2 f3 f4 f5 f6 f7
    replace kn := kn.on hC
    replace kr := kr.on hC
    replace kd := kd.on hC
    replace kx := kx.on hC
    replace kt := kt.on hC
    replace ko := ko.on hC
    replace kc := kc.on hC
    replace ks := ks.on hC
    replace kb := kb.on hC
    replace bc := bc.trans (hC.mono bc.size); clear hC
    obtain ⟨p0, p1, p2, p3, p4, p5, p6, p7⟩ := kb.eight
    obtain ⟨f0, f1, f2, f3, f4, f5, f6, f7⟩ := kb.eightF
    have hG : w6.grownBy (w6.setCell ⟨gb, 3, none⟩ (.int .i64 X)) (some gb) := only_setCell (World.grownBy.refl w6 (some gb)) (.inl rfl) _
    have kb2 : Blk (w6.setCell ⟨gb, 3, none⟩ (.int .i64 X)) gb 25 #[.int .i64 (m : Int), .int .i64 0, .int .i64 0, .int .i64 X, .int .i64 d, .int .i64 1, .slice (some ⟨gc, 0, none⟩) m m, .slice (some ⟨gs, 0, none⟩) 1 1] := by simpa using kb.set_ 3 (.int .i64 X)
    replace kn := kn.grown hG (some_ne (kn.ne_type kb (by decide)))
    replace kd := kd.grown hG (some_ne (kd.ne_type kb (by decide)))
    replace kx := kx.grown hG (some_ne (kx.ne_type kb (by decide)))
    replace kt := kt.grown hG (some_ne (kt.ne_type kb (by decide)))
    replace ko := ko.grown hG (some_ne (ko.ne_type kb (by decide)))
    replace kc := kc.grown hG (some_ne (kc.ne_type kb (by decide)))
    replace ks := ks.grown hG (some_ne (ks.ne_type kb (by decide)))
    replace kr := kr.grown hG (some_ne hgr)
    replace bc := Below.off bc bc.size hwb hG
    clear hG kb
    have kb := kb2; clear kb2
    go_wp2_with fail
    clear p0 p1 p2 p3 p4 p5 p6 p7 f0 f1 f2 f3 f4 f5 f6 f7
    generalize w6.setCell ⟨gb, 3, none⟩ (.int .i64 X) = x0 at *
    obtain ⟨p0, p1, p2, p3, p4, p5, p6, p7⟩ := kb.eight
    obtain ⟨f0, f1, f2, f3, f4, f5, f6, f7⟩ := kb.eightF
    have hcall := leastGap_any ⟨(m : Int), 0, 0, X, d, 1, List.replicate m true, plainB m⟩ ⟨some ⟨gc, 0, none⟩, m, m⟩ ⟨some ⟨gs, 0, none⟩, 1, 1⟩ x0 (by dsimp only; have := HX0.out; omega) (by dsimp only; have := HX0.out; omega) (by dsimp only; omega) (by dsimp only; omega)
    dsimp only [vM] at hcall
    rw [HY.out] at hcall
    have HCALL := Lib.hid hcall; clear hcall
    refine HCALL.out.mono ?_
    rintro e w7 ⟨rfl, hC⟩
    dsimp only
    clear HCALL p0 p1 p2 p3 p4 p5 p6 p7 f0 f1 f2 f3 f4 f5 f6 f7
    replace kn := kn.on hC
    replace kr := kr.on hC
    replace kd := kd.on hC
    replace kx := kx.on hC
    replace kt := kt.on hC
    replace ko := ko.on hC
    replace kc := kc.on hC
    replace ks := ks.on hC
    replace kb := kb.on hC
    replace bc := bc.trans (hC.mono bc.size); clear hC
    obtain ⟨p0, p1, p2, p3, p4, p5, p6, p7⟩ := kb.eight
    obtain ⟨f0, f1, f2, f3, f4, f5, f6, f7⟩ := kb.eightF
    have hG : w7.grownBy (w7.setCell ⟨gb, 2, none⟩ (.int .i64 Y)) (some gb) := only_setCell (World.grownBy.refl w7 (some gb)) (.inl rfl) _
    have kb2 : Blk (w7.setCell ⟨gb, 2, none⟩ (.int .i64 Y)) gb 25 #[.int .i64 (m : Int), .int .i64 0, .int .i64 Y, .int .i64 X, .int .i64 d, .int .i64 1, .slice (some ⟨gc, 0, none⟩) m m, .slice (some ⟨gs, 0, none⟩) 1 1] := by simpa using kb.set_ 2 (.int .i64 Y)
    replace kn := kn.grown hG (some_ne (kn.ne_type kb (by decide)))
    replace kd := kd.grown hG (some_ne (kd.ne_type kb (by decide)))
    replace kx := kx.grown hG (some_ne (kx.ne_type kb (by decide)))
    replace kt := kt.grown hG (some_ne (kt.ne_type kb (by decide)))
    replace ko := ko.grown hG (some_ne (ko.ne_type kb (by decide)))
    replace kc := kc.grown hG (some_ne (kc.ne_type kb (by decide)))
    replace ks := ks.grown hG (some_ne (ks.ne_type kb (by decide)))
    replace kr := kr.grown hG (some_ne hgr)
    replace bc := Below.off bc bc.size hwb hG
    clear hG kb
    have kb := kb2; clear kb2
    go_wp2_with fail
    clear p0 p1 p2 p3 p4 p5 p6 p7 f0 f1 f2 f3 f4 f5 f6 f7
    generalize w7.setCell ⟨gb, 2, none⟩ (.int .i64 Y) = x1 at *
    obtain ⟨p0, p1, p2, p3, p4, p5, p6, p7⟩ := kb.eight
    obtain ⟨f0, f1, f2, f3, f4, f5, f6, f7⟩ := kb.eightF
    have hcall := leastSlot_any ⟨(m : Int), 0, Y, X, d, 1, List.replicate m true, plainB m⟩ ⟨some ⟨gc, 0, none⟩, m, m⟩ ⟨some ⟨gs, 0, none⟩, 1, 1⟩ x1 (by dsimp only; have := HY0.out; omega) (by dsimp only; have := HY0.out; omega) (med_plain h1 kc ks kd kx kt)
    dsimp only [vM] at hcall
    rw [HZ.out] at hcall
    have HCALL := Lib.hid hcall; clear hcall
    refine HCALL.out.mono ?_
    rintro e w8 ⟨rfl, hC⟩
    dsimp only
    clear HCALL p0 p1 p2 p3 p4 p5 p6 p7 f0 f1 f2 f3 f4 f5 f6 f7
    replace kn := kn.on hC
    replace kr := kr.on hC
    replace kd := kd.on hC
    replace kx := kx.on hC
    replace kt := kt.on hC
    replace ko := ko.on hC
    replace kc := kc.on hC
    replace ks := ks.on hC
    replace kb := kb.on hC
    replace bc := bc.trans (hC.mono bc.size); clear hC
    obtain ⟨p0, p1, p2, p3, p4, p5, p6, p7⟩ := kb.eight
    obtain ⟨f0, f1, f2, f3, f4, f5, f6, f7⟩ := kb.eightF
    have hG : w8.grownBy (w8.setCell ⟨gb, 1, none⟩ (.int .i64 Z)) (some gb) := only_setCell (World.grownBy.refl w8 (some gb)) (.inl rfl) _
    have kb2 : Blk (w8.setCell ⟨gb, 1, none⟩ (.int .i64 Z)) gb 25 #[.int .i64 (m : Int), .int .i64 Z, .int .i64 Y, .int .i64 X, .int .i64 d, .int .i64 1, .slice (some ⟨gc, 0, none⟩) m m, .slice (some ⟨gs, 0, none⟩) 1 1] := by simpa using kb.set_ 1 (.int .i64 Z)
    replace kn := kn.grown hG (some_ne (kn.ne_type kb (by decide)))
    replace kd := kd.grown hG (some_ne (kd.ne_type kb (by decide)))
    replace kx := kx.grown hG (some_ne (kx.ne_type kb (by decide)))
    replace kt := kt.grown hG (some_ne (kt.ne_type kb (by decide)))
    replace ko := ko.grown hG (some_ne (ko.ne_type kb (by decide)))
    replace kc := kc.grown hG (some_ne (kc.ne_type kb (by decide)))
    replace ks := ks.grown hG (some_ne (ks.ne_type kb (by decide)))
    replace kr := kr.grown hG (some_ne hgr)
    replace bc := Below.off bc bc.size hwb hG
    clear hG kb
    have kb := kb2; clear kb2
    have hst := run_storeVar_row (P := Tryd.prog) (w8.setCell ⟨gb, 1, none⟩ (.int .i64 Z)) (w.heap.size + 1) 25 25 _ #[.int .i64 (m : Int), .int .i64 Z, .int .i64 Y, .int .i64 X, .int .i64 d, .int .i64 1, .slice (some ⟨gc, 0, none⟩) m m, .slice (some ⟨gs, 0, none⟩) 1 1] kr infoM rfl (by simp [Value.oneCell'])
    simp [go_sem] at hst
    have hG := only_setRow (w8.setCell ⟨gb, 1, none⟩ (.int .i64 Z)) (w.heap.size + 1) #[.int .i64 (m : Int), .int .i64 Z, .int .i64 Y, .int .i64 X, .int .i64 d, .int .i64 1, .slice (some ⟨gc, 0, none⟩) m m, .slice (some ⟨gs, 0, none⟩) 1 1]
    replace kn := kn.grown hG (some_ne (kn.ne_type kr (by decide)))
    replace kd := kd.grown hG (some_ne (kd.ne_type kr (by decide)))
    replace kx := kx.grown hG (some_ne (kx.ne_type kr (by decide)))
    replace kt := kt.grown hG (some_ne (kt.ne_type kr (by decide)))
    replace ko := ko.grown hG (some_ne (ko.ne_type kr (by decide)))
    replace kc := kc.grown hG (some_ne (kc.ne_type kr (by decide)))
    replace ks := ks.grown hG (some_ne (ks.ne_type kr (by decide)))
    replace bc := Below.off bc bc.size (by omega) hG
    have kr2 := kr.row8 #[.int .i64 (m : Int), .int .i64 Z, .int .i64 Y, .int .i64 X, .int .i64 d, .int .i64 1, .slice (some ⟨gc, 0, none⟩) m m, .slice (some ⟨gs, 0, none⟩) 1 1]
    have HMED := Lib.hid (med_plain (N := m) (S := Z) (G := Y) (W := X) (D := d) (L := 1) h1 kc ks kd kx kt)
    obtain ⟨q0, q1, q2, q3, q4, q5, q6, q7⟩ := kr2.eight
    clear hG kb kr kn kd kx kt ko kc ks kr2
    have BC := Lib.hid bc; clear bc
    go_wp2_with fail
    refine bodyPost_ret (v := .tuple #[.agg #[.int .i64 (m : Int), .int .i64 Z, .int .i64 Y, .int .i64 X, .int .i64 d, .int .i64 1, .slice (some ⟨gc, 0, none⟩) m m, .slice (some ⟨gs, 0, none⟩) 1 1], .int .i64 0]) (by simp [results, Tryd.results24, go_sem, q0, q1, q2, q3, q4, q5, q6, q7]) rfl ?_
    rw [HPL.out]
    exact ⟨⟨some ⟨gc, 0, none⟩, m, m⟩, ⟨some ⟨gs, 0, none⟩, 1, 1⟩, rfl, HMED.out, BC.out⟩
  have bs : Below u2.heap.size u2 u2.drew := (Below.refl _ _).drew
  obtain ⟨c0, -⟩ := kn.one
  obtain ⟨c1, c2, c3, -⟩ := ko.three
  have l0 := kn.lt
  have l1 := ko.lt
  refine wp_region_held (S := fun W => Below u2.heap.size u2 W) (by kernel_rfl) ?_
  change wpAnyH _ _ _ _ _ _ _ _ u2.drew
  refine wpAnyH_take (i := 0) (v := .int .i64 (m : Int)) rfl (by kernel_rfl) (by kernel_rfl) (by kernel_rfl) (fun _ _ _ h => h) (Or.inl ⟨by rfl, fun W hS => by have hc := (hS.cell (p := ⟨w.heap.size, 0, none⟩) l0).trans c0; go_simp⟩) bs ?_
  change wpAnyH _ _ _ _ _ _ _ ⟨#[.int .i64 (m : Int), .int .i64 d, .pointer (some ⟨w.heap.size, 0, none⟩), undef, .pointer (some ⟨w.heap.size + 1, 0, none⟩), .int .i64 0, .func (.func 45) #[] #[.pointer (some ⟨w.heap.size, 0, none⟩)], .pointer (some ⟨gt + 1, 0, none⟩), undef, .func (.func 51) #[] #[.pointer (some ⟨g1, 0, none⟩), .pointer (some ⟨g1 + 1, 0, none⟩)], .int .i64 (m : Int), .bool false, .bool false, .func (.func 51) #[] #[.pointer (some ⟨g2, 0, none⟩), .pointer (some ⟨g2 + 1, 0, none⟩)], .int .i64 d, .bool false, .bool false, undef, .func (.func 45) #[] #[.pointer (some ⟨w.heap.size, 0, none⟩)], .slice (some ⟨w2.heap.size, 0, none⟩) 1 1, .int .i64 (m : Int), .slice (some ⟨gd, 0, none⟩) m m, .func (.func 45) #[] #[.pointer (some ⟨w.heap.size, 0, none⟩)], .slice (some ⟨gx, 0, none⟩) m m, .slice (some ⟨gt, 0, none⟩) 1 1, .agg #[.slice (some ⟨gd, 0, none⟩) m m, .slice (some ⟨gx, 0, none⟩) m m, .slice (some ⟨gt, 0, none⟩) 1 1], .int .i64 (m : Int), undef, undef, undef, undef, undef, undef, undef, undef, undef, undef, undef, undef, undef, undef, undef, undef], []⟩ _
  refine wpAnyH_take (i := 1) (v := .int .i64 d) rfl (by kernel_rfl) (by kernel_rfl) (by kernel_rfl) (fun _ _ _ h => h) (Or.inl ⟨by rfl, fun W _ => by go_simp⟩) bs ?_
  change wpAnyH _ _ _ _ _ _ _ ⟨#[.int .i64 (m : Int), .int .i64 d, .pointer (some ⟨w.heap.size, 0, none⟩), undef, .pointer (some ⟨w.heap.size + 1, 0, none⟩), .int .i64 0, .func (.func 45) #[] #[.pointer (some ⟨w.heap.size, 0, none⟩)], .pointer (some ⟨gt + 1, 0, none⟩), undef, .func (.func 51) #[] #[.pointer (some ⟨g1, 0, none⟩), .pointer (some ⟨g1 + 1, 0, none⟩)], .int .i64 (m : Int), .bool false, .bool false, .func (.func 51) #[] #[.pointer (some ⟨g2, 0, none⟩), .pointer (some ⟨g2 + 1, 0, none⟩)], .int .i64 d, .bool false, .bool false, undef, .func (.func 45) #[] #[.pointer (some ⟨w.heap.size, 0, none⟩)], .slice (some ⟨w2.heap.size, 0, none⟩) 1 1, .int .i64 (m : Int), .slice (some ⟨gd, 0, none⟩) m m, .func (.func 45) #[] #[.pointer (some ⟨w.heap.size, 0, none⟩)], .slice (some ⟨gx, 0, none⟩) m m, .slice (some ⟨gt, 0, none⟩) 1 1, .agg #[.slice (some ⟨gd, 0, none⟩) m m, .slice (some ⟨gx, 0, none⟩) m m, .slice (some ⟨gt, 0, none⟩) 1 1], .int .i64 (m : Int), .int .i64 d, undef, undef, undef, undef, undef, undef, undef, undef, undef, undef, undef, undef, undef, undef, undef], []⟩ _
  refine wpAnyH_take (i := 2) (v := .func (.func 45) #[] #[.pointer (some ⟨w.heap.size, 0, none⟩)]) rfl (by kernel_rfl) (by kernel_rfl) (by kernel_rfl) (fun _ _ _ h => h) (Or.inl ⟨by rfl, fun W _ => by go_simp⟩) bs ?_
  change wpAnyH _ _ _ _ _ _ _ ⟨#[.int .i64 (m : Int), .int .i64 d, .pointer (some ⟨w.heap.size, 0, none⟩), undef, .pointer (some ⟨w.heap.size + 1, 0, none⟩), .int .i64 0, .func (.func 45) #[] #[.pointer (some ⟨w.heap.size, 0, none⟩)], .pointer (some ⟨gt + 1, 0, none⟩), undef, .func (.func 51) #[] #[.pointer (some ⟨g1, 0, none⟩), .pointer (some ⟨g1 + 1, 0, none⟩)], .int .i64 (m : Int), .bool false, .bool false, .func (.func 51) #[] #[.pointer (some ⟨g2, 0, none⟩), .pointer (some ⟨g2 + 1, 0, none⟩)], .int .i64 d, .bool false, .bool false, undef, .func (.func 45) #[] #[.pointer (some ⟨w.heap.size, 0, none⟩)], .slice (some ⟨w2.heap.size, 0, none⟩) 1 1, .int .i64 (m : Int), .slice (some ⟨gd, 0, none⟩) m m, .func (.func 45) #[] #[.pointer (some ⟨w.heap.size, 0, none⟩)], .slice (some ⟨gx, 0, none⟩) m m, .slice (some ⟨gt, 0, none⟩) 1 1, .agg #[.slice (some ⟨gd, 0, none⟩) m m, .slice (some ⟨gx, 0, none⟩) m m, .slice (some ⟨gt, 0, none⟩) 1 1], .int .i64 (m : Int), .int .i64 d, .func (.func 45) #[] #[.pointer (some ⟨w.heap.size, 0, none⟩)], undef, undef, undef, undef, undef, undef, undef, undef, undef, undef, undef, undef, undef, undef], []⟩ _
  refine wpAnyH_take (i := 4) (v := .agg #[.slice (some ⟨gd, 0, none⟩) m m, .slice (some ⟨gx, 0, none⟩) m m, .slice (some ⟨gt, 0, none⟩) 1 1]) rfl (by kernel_rfl) (by kernel_rfl) (by kernel_rfl) (fun _ _ _ h => h) (Or.inl ⟨by rfl, fun W hS => by have hc := (hS.cell (p := ⟨gt + 1, 0, none⟩) l1).trans c1; have hd := (hS.cell (p := ⟨gt + 1, 1, none⟩) l1).trans c2; have he := (hS.cell (p := ⟨gt + 1, 2, none⟩) l1).trans c3; go_simp⟩) bs ?_
  change wpAnyH _ _ _ _ _ _ _ ⟨#[.int .i64 (m : Int), .int .i64 d, .pointer (some ⟨w.heap.size, 0, none⟩), undef, .pointer (some ⟨w.heap.size + 1, 0, none⟩), .int .i64 0, .func (.func 45) #[] #[.pointer (some ⟨w.heap.size, 0, none⟩)], .pointer (some ⟨gt + 1, 0, none⟩), undef, .func (.func 51) #[] #[.pointer (some ⟨g1, 0, none⟩), .pointer (some ⟨g1 + 1, 0, none⟩)], .int .i64 (m : Int), .bool false, .bool false, .func (.func 51) #[] #[.pointer (some ⟨g2, 0, none⟩), .pointer (some ⟨g2 + 1, 0, none⟩)], .int .i64 d, .bool false, .bool false, undef, .func (.func 45) #[] #[.pointer (some ⟨w.heap.size, 0, none⟩)], .slice (some ⟨w2.heap.size, 0, none⟩) 1 1, .int .i64 (m : Int), .slice (some ⟨gd, 0, none⟩) m m, .func (.func 45) #[] #[.pointer (some ⟨w.heap.size, 0, none⟩)], .slice (some ⟨gx, 0, none⟩) m m, .slice (some ⟨gt, 0, none⟩) 1 1, .agg #[.slice (some ⟨gd, 0, none⟩) m m, .slice (some ⟨gx, 0, none⟩) m m, .slice (some ⟨gt, 0, none⟩) 1 1], .int .i64 (m : Int), .int .i64 d, .func (.func 45) #[] #[.pointer (some ⟨w.heap.size, 0, none⟩)], undef, .agg #[.slice (some ⟨gd, 0, none⟩) m m, .slice (some ⟨gx, 0, none⟩) m m, .slice (some ⟨gt, 0, none⟩) 1 1], undef, undef, undef, undef, undef, undef, undef, undef, undef, undef, undef, undef], []⟩ _
  generalize u2.drew = v0 at *
  refine wpAnyH_ready (rs := [3, 5, 7]) (by kernel_rfl) (by simp) ?_
  refine AllReadyH.cons rfl (fun K2 hK2 => ?_) (AllReadyH.cons rfl (fun K2 hK2 => ?_) (AllReadyH.cons rfl (fun K2 hK2 => ?_) AllReadyH.nil))
  · skip
    go_simp
    refine (plain1_any _ m _ h0 h1 (kn.on bs)).mono ?_
    rintro e v13 ⟨gc, rfl, hgc, kc, hC⟩
    dsimp only
    replace bs := bs.trans (hC.mono bs.size)
    clear hC
    refine Shut.out hK2 _ _ bs (fun _ => ?_)
    clear hK2 K2
    change wpAnyH _ _ _ _ _ _ _ ⟨#[.int .i64 (m : Int), .int .i64 d, .pointer (some ⟨w.heap.size, 0, none⟩), undef, .pointer (some ⟨w.heap.size + 1, 0, none⟩), .int .i64 0, .func (.func 45) #[] #[.pointer (some ⟨w.heap.size, 0, none⟩)], .pointer (some ⟨gt + 1, 0, none⟩), undef, .func (.func 51) #[] #[.pointer (some ⟨g1, 0, none⟩), .pointer (some ⟨g1 + 1, 0, none⟩)], .int .i64 (m : Int), .bool false, .bool false, .func (.func 51) #[] #[.pointer (some ⟨g2, 0, none⟩), .pointer (some ⟨g2 + 1, 0, none⟩)], .int .i64 d, .bool false, .bool false, undef, .func (.func 45) #[] #[.pointer (some ⟨w.heap.size, 0, none⟩)], .slice (some ⟨w2.heap.size, 0, none⟩) 1 1, .int .i64 (m : Int), .slice (some ⟨gd, 0, none⟩) m m, .func (.func 45) #[] #[.pointer (some ⟨w.heap.size, 0, none⟩)], .slice (some ⟨gx, 0, none⟩) m m, .slice (some ⟨gt, 0, none⟩) 1 1, .agg #[.slice (some ⟨gd, 0, none⟩) m m, .slice (some ⟨gx, 0, none⟩) m m, .slice (some ⟨gt, 0, none⟩) 1 1], .int .i64 (m : Int), .int .i64 d, .func (.func 45) #[] #[.pointer (some ⟨w.heap.size, 0, none⟩)], .slice (some ⟨gc, 0, none⟩) m m, .agg #[.slice (some ⟨gd, 0, none⟩) m m, .slice (some ⟨gx, 0, none⟩) m m, .slice (some ⟨gt, 0, none⟩) 1 1], undef, undef, undef, undef, undef, undef, undef, undef, undef, undef, undef, undef], []⟩ _
    refine wpAnyH_ready (rs := [5, 7]) (by kernel_rfl) (by simp) ?_
    refine AllReadyH.cons rfl (fun K2 hK2 => ?_) (AllReadyH.cons rfl (fun K2 hK2 => ?_) AllReadyH.nil)
    · skip
      go_simp
      have hC := Below.al v13 (.cells #[.slice (some ⟨gd, 0, none⟩) m m, .slice (some ⟨gx, 0, none⟩) m m, .slice (some ⟨gt, 0, none⟩) 1 1] 46)
      have ks := Blk.new v13 46 #[.slice (some ⟨gd, 0, none⟩) m m, .slice (some ⟨gx, 0, none⟩) m m, .slice (some ⟨gt, 0, none⟩) 1 1]
      replace kc := kc.on hC
      replace bs := bs.trans (hC.mono bs.size)
      clear hC
      refine Shut.out hK2 _ _ bs (fun _ => ?_)
      clear hK2 K2
      change wpAnyH _ _ _ _ _ _ _ ⟨#[.int .i64 (m : Int), .int .i64 d, .pointer (some ⟨w.heap.size, 0, none⟩), undef, .pointer (some ⟨w.heap.size + 1, 0, none⟩), .int .i64 0, .func (.func 45) #[] #[.pointer (some ⟨w.heap.size, 0, none⟩)], .pointer (some ⟨gt + 1, 0, none⟩), undef, .func (.func 51) #[] #[.pointer (some ⟨g1, 0, none⟩), .pointer (some ⟨g1 + 1, 0, none⟩)], .int .i64 (m : Int), .bool false, .bool false, .func (.func 51) #[] #[.pointer (some ⟨g2, 0, none⟩), .pointer (some ⟨g2 + 1, 0, none⟩)], .int .i64 d, .bool false, .bool false, undef, .func (.func 45) #[] #[.pointer (some ⟨w.heap.size, 0, none⟩)], .slice (some ⟨w2.heap.size, 0, none⟩) 1 1, .int .i64 (m : Int), .slice (some ⟨gd, 0, none⟩) m m, .func (.func 45) #[] #[.pointer (some ⟨w.heap.size, 0, none⟩)], .slice (some ⟨gx, 0, none⟩) m m, .slice (some ⟨gt, 0, none⟩) 1 1, .agg #[.slice (some ⟨gd, 0, none⟩) m m, .slice (some ⟨gx, 0, none⟩) m m, .slice (some ⟨gt, 0, none⟩) 1 1], .int .i64 (m : Int), .int .i64 d, .func (.func 45) #[] #[.pointer (some ⟨w.heap.size, 0, none⟩)], .slice (some ⟨gc, 0, none⟩) m m, .agg #[.slice (some ⟨gd, 0, none⟩) m m, .slice (some ⟨gx, 0, none⟩) m m, .slice (some ⟨gt, 0, none⟩) 1 1], .slice (some ⟨v13.heap.size, 0, none⟩) 1 1, undef, undef, undef, undef, undef, undef, undef, undef, undef, undef, undef], []⟩ _
      generalize v13.alloc (.cells #[.slice (some ⟨gd, 0, none⟩) m m, .slice (some ⟨gx, 0, none⟩) m m, .slice (some ⟨gt, 0, none⟩) 1 1] 46) = v235 at *
      generalize v13.heap.size = gs at *
      refine wpAnyH_take (i := 6) (v := .agg #[.int .i64 (m : Int), .int .i64 0, .int .i64 0, .int .i64 0, .int .i64 d, .int .i64 1, .slice (some ⟨gc, 0, none⟩) m m, .slice (some ⟨gs, 0, none⟩) 1 1]) rfl (by kernel_rfl) (by kernel_rfl) (by kernel_rfl) (fun _ _ _ h => h) (Or.inl ⟨by rfl, fun W _ => by go_simp⟩) bs ?_
      change wpAnyH _ _ _ _ _ _ _ ⟨#[.int .i64 (m : Int), .int .i64 d, .pointer (some ⟨w.heap.size, 0, none⟩), undef, .pointer (some ⟨w.heap.size + 1, 0, none⟩), .int .i64 0, .func (.func 45) #[] #[.pointer (some ⟨w.heap.size, 0, none⟩)], .pointer (some ⟨gt + 1, 0, none⟩), undef, .func (.func 51) #[] #[.pointer (some ⟨g1, 0, none⟩), .pointer (some ⟨g1 + 1, 0, none⟩)], .int .i64 (m : Int), .bool false, .bool false, .func (.func 51) #[] #[.pointer (some ⟨g2, 0, none⟩), .pointer (some ⟨g2 + 1, 0, none⟩)], .int .i64 d, .bool false, .bool false, undef, .func (.func 45) #[] #[.pointer (some ⟨w.heap.size, 0, none⟩)], .slice (some ⟨w2.heap.size, 0, none⟩) 1 1, .int .i64 (m : Int), .slice (some ⟨gd, 0, none⟩) m m, .func (.func 45) #[] #[.pointer (some ⟨w.heap.size, 0, none⟩)], .slice (some ⟨gx, 0, none⟩) m m, .slice (some ⟨gt, 0, none⟩) 1 1, .agg #[.slice (some ⟨gd, 0, none⟩) m m, .slice (some ⟨gx, 0, none⟩) m m, .slice (some ⟨gt, 0, none⟩) 1 1], .int .i64 (m : Int), .int .i64 d, .func (.func 45) #[] #[.pointer (some ⟨w.heap.size, 0, none⟩)], .slice (some ⟨gc, 0, none⟩) m m, .agg #[.slice (some ⟨gd, 0, none⟩) m m, .slice (some ⟨gx, 0, none⟩) m m, .slice (some ⟨gt, 0, none⟩) 1 1], .slice (some ⟨gs, 0, none⟩) 1 1, .agg #[.int .i64 (m : Int), .int .i64 0, .int .i64 0, .int .i64 0, .int .i64 d, .int .i64 1, .slice (some ⟨gc, 0, none⟩) m m, .slice (some ⟨gs, 0, none⟩) 1 1], undef, undef, undef, undef, undef, undef, undef, undef, undef, undef], []⟩ _
      refine wpAnyH_ready (rs := [7]) (by kernel_rfl) (by simp) ?_
      refine AllReadyH.cons rfl (fun K2 hK2 => ?_) AllReadyH.nil
      · skip
        go_simp
        have hC := Below.al v235 (.cells #[.int .i64 0, .int .i64 0, .int .i64 0, .int .i64 0, .int .i64 0, .int .i64 0, .slice none 0 0, .slice none 0 0] 25)
        have kb := Blk.new v235 25 #[.int .i64 0, .int .i64 0, .int .i64 0, .int .i64 0, .int .i64 0, .int .i64 0, .slice none 0 0, .slice none 0 0]
        have hgb : u2.heap.size ≤ v235.heap.size := bs.size
        replace kc := kc.on hC
        replace ks := ks.on hC
        replace bs := bs.trans (hC.mono bs.size)
        clear hC
        refine Shut.out hK2 _ _ bs (fun _ => ?_)
        clear hK2 K2
        change wpAnyH _ _ _ _ _ _ _ ⟨#[.int .i64 (m : Int), .int .i64 d, .pointer (some ⟨w.heap.size, 0, none⟩), undef, .pointer (some ⟨w.heap.size + 1, 0, none⟩), .int .i64 0, .func (.func 45) #[] #[.pointer (some ⟨w.heap.size, 0, none⟩)], .pointer (some ⟨gt + 1, 0, none⟩), .pointer (some ⟨v235.heap.size, 0, none⟩), .func (.func 51) #[] #[.pointer (some ⟨g1, 0, none⟩), .pointer (some ⟨g1 + 1, 0, none⟩)], .int .i64 (m : Int), .bool false, .bool false, .func (.func 51) #[] #[.pointer (some ⟨g2, 0, none⟩), .pointer (some ⟨g2 + 1, 0, none⟩)], .int .i64 d, .bool false, .bool false, undef, .func (.func 45) #[] #[.pointer (some ⟨w.heap.size, 0, none⟩)], .slice (some ⟨w2.heap.size, 0, none⟩) 1 1, .int .i64 (m : Int), .slice (some ⟨gd, 0, none⟩) m m, .func (.func 45) #[] #[.pointer (some ⟨w.heap.size, 0, none⟩)], .slice (some ⟨gx, 0, none⟩) m m, .slice (some ⟨gt, 0, none⟩) 1 1, .agg #[.slice (some ⟨gd, 0, none⟩) m m, .slice (some ⟨gx, 0, none⟩) m m, .slice (some ⟨gt, 0, none⟩) 1 1], .int .i64 (m : Int), .int .i64 d, .func (.func 45) #[] #[.pointer (some ⟨w.heap.size, 0, none⟩)], .slice (some ⟨gc, 0, none⟩) m m, .agg #[.slice (some ⟨gd, 0, none⟩) m m, .slice (some ⟨gx, 0, none⟩) m m, .slice (some ⟨gt, 0, none⟩) 1 1], .slice (some ⟨gs, 0, none⟩) 1 1, .agg #[.int .i64 (m : Int), .int .i64 0, .int .i64 0, .int .i64 0, .int .i64 d, .int .i64 1, .slice (some ⟨gc, 0, none⟩) m m, .slice (some ⟨gs, 0, none⟩) 1 1], undef, undef, undef, undef, undef, undef, undef, undef, undef, undef], []⟩ _
        generalize v235.alloc (.cells #[.int .i64 0, .int .i64 0, .int .i64 0, .int .i64 0, .int .i64 0, .int .i64 0, .slice none 0 0, .slice none 0 0] 25) = v3357 at *
        generalize v235.heap.size = gb at *
        refine wpAnyH_ready (rs := [8]) (by kernel_rfl) (by simp) ?_
        refine AllReadyH.cons rfl (fun K2 hK2 => ?_) AllReadyH.nil
        have hst := run_storeVar_row (P := Tryd.prog) v3357 gb 25 25 _ #[.int .i64 (m : Int), .int .i64 0, .int .i64 0, .int .i64 0, .int .i64 d, .int .i64 1, .slice (some ⟨gc, 0, none⟩) m m, .slice (some ⟨gs, 0, none⟩) 1 1] kb infoM rfl (by simp [Value.oneCell'])
        simp [go_sem] at hst
        have hG := only_setRow v3357 gb #[.int .i64 (m : Int), .int .i64 0, .int .i64 0, .int .i64 0, .int .i64 d, .int .i64 1, .slice (some ⟨gc, 0, none⟩) m m, .slice (some ⟨gs, 0, none⟩) 1 1]
        have bs2 := Below.off bs bs.size hgb hG
        have kc2 := kc.grown hG (some_ne (kc.ne_type kb (by decide)))
        have ks2 := ks.grown hG (some_ne (ks.ne_type kb (by decide)))
        have kb2 := kb.row8 #[.int .i64 (m : Int), .int .i64 0, .int .i64 0, .int .i64 0, .int .i64 d, .int .i64 1, .slice (some ⟨gc, 0, none⟩) m m, .slice (some ⟨gs, 0, none⟩) 1 1]
        clear hG kc ks
        go_simp
        refine Shut.out hK2 _ _ bs2 (fun _ => ?_)
        clear hK2 K2
        refine wpAnyH_done (by kernel_rfl) ?_ _
        exact hrest gc gs gb _ kc2 ks2 kb2 bs2 hgb
    · skip
      go_simp
      have hC := Below.al v13 (.cells #[.int .i64 0, .int .i64 0, .int .i64 0, .int .i64 0, .int .i64 0, .int .i64 0, .slice none 0 0, .slice none 0 0] 25)
      have kb := Blk.new v13 25 #[.int .i64 0, .int .i64 0, .int .i64 0, .int .i64 0, .int .i64 0, .int .i64 0, .slice none 0 0, .slice none 0 0]
      have hgb : u2.heap.size ≤ v13.heap.size := bs.size
      replace kc := kc.on hC
      replace bs := bs.trans (hC.mono bs.size)
      clear hC
      refine Shut.out hK2 _ _ bs (fun _ => ?_)
      clear hK2 K2
      change wpAnyH _ _ _ _ _ _ _ ⟨#[.int .i64 (m : Int), .int .i64 d, .pointer (some ⟨w.heap.size, 0, none⟩), undef, .pointer (some ⟨w.heap.size + 1, 0, none⟩), .int .i64 0, .func (.func 45) #[] #[.pointer (some ⟨w.heap.size, 0, none⟩)], .pointer (some ⟨gt + 1, 0, none⟩), .pointer (some ⟨v13.heap.size, 0, none⟩), .func (.func 51) #[] #[.pointer (some ⟨g1, 0, none⟩), .pointer (some ⟨g1 + 1, 0, none⟩)], .int .i64 (m : Int), .bool false, .bool false, .func (.func 51) #[] #[.pointer (some ⟨g2, 0, none⟩), .pointer (some ⟨g2 + 1, 0, none⟩)], .int .i64 d, .bool false, .bool false, undef, .func (.func 45) #[] #[.pointer (some ⟨w.heap.size, 0, none⟩)], .slice (some ⟨w2.heap.size, 0, none⟩) 1 1, .int .i64 (m : Int), .slice (some ⟨gd, 0, none⟩) m m, .func (.func 45) #[] #[.pointer (some ⟨w.heap.size, 0, none⟩)], .slice (some ⟨gx, 0, none⟩) m m, .slice (some ⟨gt, 0, none⟩) 1 1, .agg #[.slice (some ⟨gd, 0, none⟩) m m, .slice (some ⟨gx, 0, none⟩) m m, .slice (some ⟨gt, 0, none⟩) 1 1], .int .i64 (m : Int), .int .i64 d, .func (.func 45) #[] #[.pointer (some ⟨w.heap.size, 0, none⟩)], .slice (some ⟨gc, 0, none⟩) m m, .agg #[.slice (some ⟨gd, 0, none⟩) m m, .slice (some ⟨gx, 0, none⟩) m m, .slice (some ⟨gt, 0, none⟩) 1 1], undef, undef, undef, undef, undef, undef, undef, undef, undef, undef, undef, undef], []⟩ _
      generalize v13.alloc (.cells #[.int .i64 0, .int .i64 0, .int .i64 0, .int .i64 0, .int .i64 0, .int .i64 0, .slice none 0 0, .slice none 0 0] 25) = v237 at *
      generalize v13.heap.size = gb at *
      refine wpAnyH_ready (rs := [5]) (by kernel_rfl) (by simp) ?_
      refine AllReadyH.cons rfl (fun K2 hK2 => ?_) AllReadyH.nil
      · skip
        go_simp
        have hC := Below.al v237 (.cells #[.slice (some ⟨gd, 0, none⟩) m m, .slice (some ⟨gx, 0, none⟩) m m, .slice (some ⟨gt, 0, none⟩) 1 1] 46)
        have ks := Blk.new v237 46 #[.slice (some ⟨gd, 0, none⟩) m m, .slice (some ⟨gx, 0, none⟩) m m, .slice (some ⟨gt, 0, none⟩) 1 1]
        replace kc := kc.on hC
        replace kb := kb.on hC
        replace bs := bs.trans (hC.mono bs.size)
        clear hC
        refine Shut.out hK2 _ _ bs (fun _ => ?_)
        clear hK2 K2
        change wpAnyH _ _ _ _ _ _ _ ⟨#[.int .i64 (m : Int), .int .i64 d, .pointer (some ⟨w.heap.size, 0, none⟩), undef, .pointer (some ⟨w.heap.size + 1, 0, none⟩), .int .i64 0, .func (.func 45) #[] #[.pointer (some ⟨w.heap.size, 0, none⟩)], .pointer (some ⟨gt + 1, 0, none⟩), .pointer (some ⟨gb, 0, none⟩), .func (.func 51) #[] #[.pointer (some ⟨g1, 0, none⟩), .pointer (some ⟨g1 + 1, 0, none⟩)], .int .i64 (m : Int), .bool false, .bool false, .func (.func 51) #[] #[.pointer (some ⟨g2, 0, none⟩), .pointer (some ⟨g2 + 1, 0, none⟩)], .int .i64 d, .bool false, .bool false, undef, .func (.func 45) #[] #[.pointer (some ⟨w.heap.size, 0, none⟩)], .slice (some ⟨w2.heap.size, 0, none⟩) 1 1, .int .i64 (m : Int), .slice (some ⟨gd, 0, none⟩) m m, .func (.func 45) #[] #[.pointer (some ⟨w.heap.size, 0, none⟩)], .slice (some ⟨gx, 0, none⟩) m m, .slice (some ⟨gt, 0, none⟩) 1 1, .agg #[.slice (some ⟨gd, 0, none⟩) m m, .slice (some ⟨gx, 0, none⟩) m m, .slice (some ⟨gt, 0, none⟩) 1 1], .int .i64 (m : Int), .int .i64 d, .func (.func 45) #[] #[.pointer (some ⟨w.heap.size, 0, none⟩)], .slice (some ⟨gc, 0, none⟩) m m, .agg #[.slice (some ⟨gd, 0, none⟩) m m, .slice (some ⟨gx, 0, none⟩) m m, .slice (some ⟨gt, 0, none⟩) 1 1], .slice (some ⟨v237.heap.size, 0, none⟩) 1 1, undef, undef, undef, undef, undef, undef, undef, undef, undef, undef, undef], []⟩ _
        generalize v237.alloc (.cells #[.slice (some ⟨gd, 0, none⟩) m m, .slice (some ⟨gx, 0, none⟩) m m, .slice (some ⟨gt, 0, none⟩) 1 1] 46) = v3375 at *
        generalize v237.heap.size = gs at *
        refine wpAnyH_take (i := 6) (v := .agg #[.int .i64 (m : Int), .int .i64 0, .int .i64 0, .int .i64 0, .int .i64 d, .int .i64 1, .slice (some ⟨gc, 0, none⟩) m m, .slice (some ⟨gs, 0, none⟩) 1 1]) rfl (by kernel_rfl) (by kernel_rfl) (by kernel_rfl) (fun _ _ _ h => h) (Or.inl ⟨by rfl, fun W _ => by go_simp⟩) bs ?_
        change wpAnyH _ _ _ _ _ _ _ ⟨#[.int .i64 (m : Int), .int .i64 d, .pointer (some ⟨w.heap.size, 0, none⟩), undef, .pointer (some ⟨w.heap.size + 1, 0, none⟩), .int .i64 0, .func (.func 45) #[] #[.pointer (some ⟨w.heap.size, 0, none⟩)], .pointer (some ⟨gt + 1, 0, none⟩), .pointer (some ⟨gb, 0, none⟩), .func (.func 51) #[] #[.pointer (some ⟨g1, 0, none⟩), .pointer (some ⟨g1 + 1, 0, none⟩)], .int .i64 (m : Int), .bool false, .bool false, .func (.func 51) #[] #[.pointer (some ⟨g2, 0, none⟩), .pointer (some ⟨g2 + 1, 0, none⟩)], .int .i64 d, .bool false, .bool false, undef, .func (.func 45) #[] #[.pointer (some ⟨w.heap.size, 0, none⟩)], .slice (some ⟨w2.heap.size, 0, none⟩) 1 1, .int .i64 (m : Int), .slice (some ⟨gd, 0, none⟩) m m, .func (.func 45) #[] #[.pointer (some ⟨w.heap.size, 0, none⟩)], .slice (some ⟨gx, 0, none⟩) m m, .slice (some ⟨gt, 0, none⟩) 1 1, .agg #[.slice (some ⟨gd, 0, none⟩) m m, .slice (some ⟨gx, 0, none⟩) m m, .slice (some ⟨gt, 0, none⟩) 1 1], .int .i64 (m : Int), .int .i64 d, .func (.func 45) #[] #[.pointer (some ⟨w.heap.size, 0, none⟩)], .slice (some ⟨gc, 0, none⟩) m m, .agg #[.slice (some ⟨gd, 0, none⟩) m m, .slice (some ⟨gx, 0, none⟩) m m, .slice (some ⟨gt, 0, none⟩) 1 1], .slice (some ⟨gs, 0, none⟩) 1 1, .agg #[.int .i64 (m : Int), .int .i64 0, .int .i64 0, .int .i64 0, .int .i64 d, .int .i64 1, .slice (some ⟨gc, 0, none⟩) m m, .slice (some ⟨gs, 0, none⟩) 1 1], undef, undef, undef, undef, undef, undef, undef, undef, undef, undef], []⟩ _
        refine wpAnyH_ready (rs := [8]) (by kernel_rfl) (by simp) ?_
        refine AllReadyH.cons rfl (fun K2 hK2 => ?_) AllReadyH.nil
        have hst := run_storeVar_row (P := Tryd.prog) v3375 gb 25 25 _ #[.int .i64 (m : Int), .int .i64 0, .int .i64 0, .int .i64 0, .int .i64 d, .int .i64 1, .slice (some ⟨gc, 0, none⟩) m m, .slice (some ⟨gs, 0, none⟩) 1 1] kb infoM rfl (by simp [Value.oneCell'])
        simp [go_sem] at hst
        have hG := only_setRow v3375 gb #[.int .i64 (m : Int), .int .i64 0, .int .i64 0, .int .i64 0, .int .i64 d, .int .i64 1, .slice (some ⟨gc, 0, none⟩) m m, .slice (some ⟨gs, 0, none⟩) 1 1]
        have bs2 := Below.off bs bs.size hgb hG
        have kc2 := kc.grown hG (some_ne (kc.ne_type kb (by decide)))
        have ks2 := ks.grown hG (some_ne (ks.ne_type kb (by decide)))
        have kb2 := kb.row8 #[.int .i64 (m : Int), .int .i64 0, .int .i64 0, .int .i64 0, .int .i64 d, .int .i64 1, .slice (some ⟨gc, 0, none⟩) m m, .slice (some ⟨gs, 0, none⟩) 1 1]
        clear hG kc ks
        go_simp
        refine Shut.out hK2 _ _ bs2 (fun _ => ?_)
        clear hK2 K2
        refine wpAnyH_done (by kernel_rfl) ?_ _
        exact hrest gc gs gb _ kc2 ks2 kb2 bs2 hgb
  · skip
    go_simp
    have hC := Below.al v0 (.cells #[.slice (some ⟨gd, 0, none⟩) m m, .slice (some ⟨gx, 0, none⟩) m m, .slice (some ⟨gt, 0, none⟩) 1 1] 46)
    have ks := Blk.new v0 46 #[.slice (some ⟨gd, 0, none⟩) m m, .slice (some ⟨gx, 0, none⟩) m m, .slice (some ⟨gt, 0, none⟩) 1 1]
    replace bs := bs.trans (hC.mono bs.size)
    clear hC
    refine Shut.out hK2 _ _ bs (fun _ => ?_)
    clear hK2 K2
    change wpAnyH _ _ _ _ _ _ _ ⟨#[.int .i64 (m : Int), .int .i64 d, .pointer (some ⟨w.heap.size, 0, none⟩), undef, .pointer (some ⟨w.heap.size + 1, 0, none⟩), .int .i64 0, .func (.func 45) #[] #[.pointer (some ⟨w.heap.size, 0, none⟩)], .pointer (some ⟨gt + 1, 0, none⟩), undef, .func (.func 51) #[] #[.pointer (some ⟨g1, 0, none⟩), .pointer (some ⟨g1 + 1, 0, none⟩)], .int .i64 (m : Int), .bool false, .bool false, .func (.func 51) #[] #[.pointer (some ⟨g2, 0, none⟩), .pointer (some ⟨g2 + 1, 0, none⟩)], .int .i64 d, .bool false, .bool false, undef, .func (.func 45) #[] #[.pointer (some ⟨w.heap.size, 0, none⟩)], .slice (some ⟨w2.heap.size, 0, none⟩) 1 1, .int .i64 (m : Int), .slice (some ⟨gd, 0, none⟩) m m, .func (.func 45) #[] #[.pointer (some ⟨w.heap.size, 0, none⟩)], .slice (some ⟨gx, 0, none⟩) m m, .slice (some ⟨gt, 0, none⟩) 1 1, .agg #[.slice (some ⟨gd, 0, none⟩) m m, .slice (some ⟨gx, 0, none⟩) m m, .slice (some ⟨gt, 0, none⟩) 1 1], .int .i64 (m : Int), .int .i64 d, .func (.func 45) #[] #[.pointer (some ⟨w.heap.size, 0, none⟩)], undef, .agg #[.slice (some ⟨gd, 0, none⟩) m m, .slice (some ⟨gx, 0, none⟩) m m, .slice (some ⟨gt, 0, none⟩) 1 1], .slice (some ⟨v0.heap.size, 0, none⟩) 1 1, undef, undef, undef, undef, undef, undef, undef, undef, undef, undef, undef], []⟩ _
    generalize v0.alloc (.cells #[.slice (some ⟨gd, 0, none⟩) m m, .slice (some ⟨gx, 0, none⟩) m m, .slice (some ⟨gt, 0, none⟩) 1 1] 46) = v15 at *
    generalize v0.heap.size = gs at *
    refine wpAnyH_ready (rs := [3, 7]) (by kernel_rfl) (by simp) ?_
    refine AllReadyH.cons rfl (fun K2 hK2 => ?_) (AllReadyH.cons rfl (fun K2 hK2 => ?_) AllReadyH.nil)
    · skip
      go_simp
      refine (plain1_any _ m _ h0 h1 (kn.on bs)).mono ?_
      rintro e v253 ⟨gc, rfl, hgc, kc, hC⟩
      dsimp only
      replace ks := ks.on hC
      replace bs := bs.trans (hC.mono bs.size)
      clear hC
      refine Shut.out hK2 _ _ bs (fun _ => ?_)
      clear hK2 K2
      change wpAnyH _ _ _ _ _ _ _ ⟨#[.int .i64 (m : Int), .int .i64 d, .pointer (some ⟨w.heap.size, 0, none⟩), undef, .pointer (some ⟨w.heap.size + 1, 0, none⟩), .int .i64 0, .func (.func 45) #[] #[.pointer (some ⟨w.heap.size, 0, none⟩)], .pointer (some ⟨gt + 1, 0, none⟩), undef, .func (.func 51) #[] #[.pointer (some ⟨g1, 0, none⟩), .pointer (some ⟨g1 + 1, 0, none⟩)], .int .i64 (m : Int), .bool false, .bool false, .func (.func 51) #[] #[.pointer (some ⟨g2, 0, none⟩), .pointer (some ⟨g2 + 1, 0, none⟩)], .int .i64 d, .bool false, .bool false, undef, .func (.func 45) #[] #[.pointer (some ⟨w.heap.size, 0, none⟩)], .slice (some ⟨w2.heap.size, 0, none⟩) 1 1, .int .i64 (m : Int), .slice (some ⟨gd, 0, none⟩) m m, .func (.func 45) #[] #[.pointer (some ⟨w.heap.size, 0, none⟩)], .slice (some ⟨gx, 0, none⟩) m m, .slice (some ⟨gt, 0, none⟩) 1 1, .agg #[.slice (some ⟨gd, 0, none⟩) m m, .slice (some ⟨gx, 0, none⟩) m m, .slice (some ⟨gt, 0, none⟩) 1 1], .int .i64 (m : Int), .int .i64 d, .func (.func 45) #[] #[.pointer (some ⟨w.heap.size, 0, none⟩)], .slice (some ⟨gc, 0, none⟩) m m, .agg #[.slice (some ⟨gd, 0, none⟩) m m, .slice (some ⟨gx, 0, none⟩) m m, .slice (some ⟨gt, 0, none⟩) 1 1], .slice (some ⟨gs, 0, none⟩) 1 1, undef, undef, undef, undef, undef, undef, undef, undef, undef, undef, undef], []⟩ _
      refine wpAnyH_take (i := 6) (v := .agg #[.int .i64 (m : Int), .int .i64 0, .int .i64 0, .int .i64 0, .int .i64 d, .int .i64 1, .slice (some ⟨gc, 0, none⟩) m m, .slice (some ⟨gs, 0, none⟩) 1 1]) rfl (by kernel_rfl) (by kernel_rfl) (by kernel_rfl) (fun _ _ _ h => h) (Or.inl ⟨by rfl, fun W _ => by go_simp⟩) bs ?_
      change wpAnyH _ _ _ _ _ _ _ ⟨#[.int .i64 (m : Int), .int .i64 d, .pointer (some ⟨w.heap.size, 0, none⟩), undef, .pointer (some ⟨w.heap.size + 1, 0, none⟩), .int .i64 0, .func (.func 45) #[] #[.pointer (some ⟨w.heap.size, 0, none⟩)], .pointer (some ⟨gt + 1, 0, none⟩), undef, .func (.func 51) #[] #[.pointer (some ⟨g1, 0, none⟩), .pointer (some ⟨g1 + 1, 0, none⟩)], .int .i64 (m : Int), .bool false, .bool false, .func (.func 51) #[] #[.pointer (some ⟨g2, 0, none⟩), .pointer (some ⟨g2 + 1, 0, none⟩)], .int .i64 d, .bool false, .bool false, undef, .func (.func 45) #[] #[.pointer (some ⟨w.heap.size, 0, none⟩)], .slice (some ⟨w2.heap.size, 0, none⟩) 1 1, .int .i64 (m : Int), .slice (some ⟨gd, 0, none⟩) m m, .func (.func 45) #[] #[.pointer (some ⟨w.heap.size, 0, none⟩)], .slice (some ⟨gx, 0, none⟩) m m, .slice (some ⟨gt, 0, none⟩) 1 1, .agg #[.slice (some ⟨gd, 0, none⟩) m m, .slice (some ⟨gx, 0, none⟩) m m, .slice (some ⟨gt, 0, none⟩) 1 1], .int .i64 (m : Int), .int .i64 d, .func (.func 45) #[] #[.pointer (some ⟨w.heap.size, 0, none⟩)], .slice (some ⟨gc, 0, none⟩) m m, .agg #[.slice (some ⟨gd, 0, none⟩) m m, .slice (some ⟨gx, 0, none⟩) m m, .slice (some ⟨gt, 0, none⟩) 1 1], .slice (some ⟨gs, 0, none⟩) 1 1, .agg #[.int .i64 (m : Int), .int .i64 0, .int .i64 0, .int .i64 0, .int .i64 d, .int .i64 1, .slice (some ⟨gc, 0, none⟩) m m, .slice (some ⟨gs, 0, none⟩) 1 1], undef, undef, undef, undef, undef, undef, undef, undef, undef, undef], []⟩ _
      refine wpAnyH_ready (rs := [7]) (by kernel_rfl) (by simp) ?_
      refine AllReadyH.cons rfl (fun K2 hK2 => ?_) AllReadyH.nil
      · skip
        go_simp
        have hC := Below.al v253 (.cells #[.int .i64 0, .int .i64 0, .int .i64 0, .int .i64 0, .int .i64 0, .int .i64 0, .slice none 0 0, .slice none 0 0] 25)
        have kb := Blk.new v253 25 #[.int .i64 0, .int .i64 0, .int .i64 0, .int .i64 0, .int .i64 0, .int .i64 0, .slice none 0 0, .slice none 0 0]
        have hgb : u2.heap.size ≤ v253.heap.size := bs.size
        replace kc := kc.on hC
        replace ks := ks.on hC
        replace bs := bs.trans (hC.mono bs.size)
        clear hC
        refine Shut.out hK2 _ _ bs (fun _ => ?_)
        clear hK2 K2
        change wpAnyH _ _ _ _ _ _ _ ⟨#[.int .i64 (m : Int), .int .i64 d, .pointer (some ⟨w.heap.size, 0, none⟩), undef, .pointer (some ⟨w.heap.size + 1, 0, none⟩), .int .i64 0, .func (.func 45) #[] #[.pointer (some ⟨w.heap.size, 0, none⟩)], .pointer (some ⟨gt + 1, 0, none⟩), .pointer (some ⟨v253.heap.size, 0, none⟩), .func (.func 51) #[] #[.pointer (some ⟨g1, 0, none⟩), .pointer (some ⟨g1 + 1, 0, none⟩)], .int .i64 (m : Int), .bool false, .bool false, .func (.func 51) #[] #[.pointer (some ⟨g2, 0, none⟩), .pointer (some ⟨g2 + 1, 0, none⟩)], .int .i64 d, .bool false, .bool false, undef, .func (.func 45) #[] #[.pointer (some ⟨w.heap.size, 0, none⟩)], .slice (some ⟨w2.heap.size, 0, none⟩) 1 1, .int .i64 (m : Int), .slice (some ⟨gd, 0, none⟩) m m, .func (.func 45) #[] #[.pointer (some ⟨w.heap.size, 0, none⟩)], .slice (some ⟨gx, 0, none⟩) m m, .slice (some ⟨gt, 0, none⟩) 1 1, .agg #[.slice (some ⟨gd, 0, none⟩) m m, .slice (some ⟨gx, 0, none⟩) m m, .slice (some ⟨gt, 0, none⟩) 1 1], .int .i64 (m : Int), .int .i64 d, .func (.func 45) #[] #[.pointer (some ⟨w.heap.size, 0, none⟩)], .slice (some ⟨gc, 0, none⟩) m m, .agg #[.slice (some ⟨gd, 0, none⟩) m m, .slice (some ⟨gx, 0, none⟩) m m, .slice (some ⟨gt, 0, none⟩) 1 1], .slice (some ⟨gs, 0, none⟩) 1 1, .agg #[.int .i64 (m : Int), .int .i64 0, .int .i64 0, .int .i64 0, .int .i64 d, .int .i64 1, .slice (some ⟨gc, 0, none⟩) m m, .slice (some ⟨gs, 0, none⟩) 1 1], undef, undef, undef, undef, undef, undef, undef, undef, undef, undef], []⟩ _
        generalize v253.alloc (.cells #[.int .i64 0, .int .i64 0, .int .i64 0, .int .i64 0, .int .i64 0, .int .i64 0, .slice none 0 0, .slice none 0 0] 25) = v3537 at *
        generalize v253.heap.size = gb at *
        refine wpAnyH_ready (rs := [8]) (by kernel_rfl) (by simp) ?_
        refine AllReadyH.cons rfl (fun K2 hK2 => ?_) AllReadyH.nil
        have hst := run_storeVar_row (P := Tryd.prog) v3537 gb 25 25 _ #[.int .i64 (m : Int), .int .i64 0, .int .i64 0, .int .i64 0, .int .i64 d, .int .i64 1, .slice (some ⟨gc, 0, none⟩) m m, .slice (some ⟨gs, 0, none⟩) 1 1] kb infoM rfl (by simp [Value.oneCell'])
        simp [go_sem] at hst
        have hG := only_setRow v3537 gb #[.int .i64 (m : Int), .int .i64 0, .int .i64 0, .int .i64 0, .int .i64 d, .int .i64 1, .slice (some ⟨gc, 0, none⟩) m m, .slice (some ⟨gs, 0, none⟩) 1 1]
        have bs2 := Below.off bs bs.size hgb hG
        have kc2 := kc.grown hG (some_ne (kc.ne_type kb (by decide)))
        have ks2 := ks.grown hG (some_ne (ks.ne_type kb (by decide)))
        have kb2 := kb.row8 #[.int .i64 (m : Int), .int .i64 0, .int .i64 0, .int .i64 0, .int .i64 d, .int .i64 1, .slice (some ⟨gc, 0, none⟩) m m, .slice (some ⟨gs, 0, none⟩) 1 1]
        clear hG kc ks
        go_simp
        refine Shut.out hK2 _ _ bs2 (fun _ => ?_)
        clear hK2 K2
        refine wpAnyH_done (by kernel_rfl) ?_ _
        exact hrest gc gs gb _ kc2 ks2 kb2 bs2 hgb
    · skip
      go_simp
      have hC := Below.al v15 (.cells #[.int .i64 0, .int .i64 0, .int .i64 0, .int .i64 0, .int .i64 0, .int .i64 0, .slice none 0 0, .slice none 0 0] 25)
      have kb := Blk.new v15 25 #[.int .i64 0, .int .i64 0, .int .i64 0, .int .i64 0, .int .i64 0, .int .i64 0, .slice none 0 0, .slice none 0 0]
      have hgb : u2.heap.size ≤ v15.heap.size := bs.size
      replace ks := ks.on hC
      replace bs := bs.trans (hC.mono bs.size)
      clear hC
      refine Shut.out hK2 _ _ bs (fun _ => ?_)
      clear hK2 K2
      change wpAnyH _ _ _ _ _ _ _ ⟨#[.int .i64 (m : Int), .int .i64 d, .pointer (some ⟨w.heap.size, 0, none⟩), undef, .pointer (some ⟨w.heap.size + 1, 0, none⟩), .int .i64 0, .func (.func 45) #[] #[.pointer (some ⟨w.heap.size, 0, none⟩)], .pointer (some ⟨gt + 1, 0, none⟩), .pointer (some ⟨v15.heap.size, 0, none⟩), .func (.func 51) #[] #[.pointer (some ⟨g1, 0, none⟩), .pointer (some ⟨g1 + 1, 0, none⟩)], .int .i64 (m : Int), .bool false, .bool false, .func (.func 51) #[] #[.pointer (some ⟨g2, 0, none⟩), .pointer (some ⟨g2 + 1, 0, none⟩)], .int .i64 d, .bool false, .bool false, undef, .func (.func 45) #[] #[.pointer (some ⟨w.heap.size, 0, none⟩)], .slice (some ⟨w2.heap.size, 0, none⟩) 1 1, .int .i64 (m : Int), .slice (some ⟨gd, 0, none⟩) m m, .func (.func 45) #[] #[.pointer (some ⟨w.heap.size, 0, none⟩)], .slice (some ⟨gx, 0, none⟩) m m, .slice (some ⟨gt, 0, none⟩) 1 1, .agg #[.slice (some ⟨gd, 0, none⟩) m m, .slice (some ⟨gx, 0, none⟩) m m, .slice (some ⟨gt, 0, none⟩) 1 1], .int .i64 (m : Int), .int .i64 d, .func (.func 45) #[] #[.pointer (some ⟨w.heap.size, 0, none⟩)], undef, .agg #[.slice (some ⟨gd, 0, none⟩) m m, .slice (some ⟨gx, 0, none⟩) m m, .slice (some ⟨gt, 0, none⟩) 1 1], .slice (some ⟨gs, 0, none⟩) 1 1, undef, undef, undef, undef, undef, undef, undef, undef, undef, undef, undef], []⟩ _
      generalize v15.alloc (.cells #[.int .i64 0, .int .i64 0, .int .i64 0, .int .i64 0, .int .i64 0, .int .i64 0, .slice none 0 0, .slice none 0 0] 25) = v257 at *
      generalize v15.heap.size = gb at *
      refine wpAnyH_ready (rs := [3]) (by kernel_rfl) (by simp) ?_
      refine AllReadyH.cons rfl (fun K2 hK2 => ?_) AllReadyH.nil
      · skip
        go_simp
        refine (plain1_any _ m _ h0 h1 (kn.on bs)).mono ?_
        rintro e v3573 ⟨gc, rfl, hgc, kc, hC⟩
        dsimp only
        replace ks := ks.on hC
        replace kb := kb.on hC
        replace bs := bs.trans (hC.mono bs.size)
        clear hC
        refine Shut.out hK2 _ _ bs (fun _ => ?_)
        clear hK2 K2
        change wpAnyH _ _ _ _ _ _ _ ⟨#[.int .i64 (m : Int), .int .i64 d, .pointer (some ⟨w.heap.size, 0, none⟩), undef, .pointer (some ⟨w.heap.size + 1, 0, none⟩), .int .i64 0, .func (.func 45) #[] #[.pointer (some ⟨w.heap.size, 0, none⟩)], .pointer (some ⟨gt + 1, 0, none⟩), .pointer (some ⟨gb, 0, none⟩), .func (.func 51) #[] #[.pointer (some ⟨g1, 0, none⟩), .pointer (some ⟨g1 + 1, 0, none⟩)], .int .i64 (m : Int), .bool false, .bool false, .func (.func 51) #[] #[.pointer (some ⟨g2, 0, none⟩), .pointer (some ⟨g2 + 1, 0, none⟩)], .int .i64 d, .bool false, .bool false, undef, .func (.func 45) #[] #[.pointer (some ⟨w.heap.size, 0, none⟩)], .slice (some ⟨w2.heap.size, 0, none⟩) 1 1, .int .i64 (m : Int), .slice (some ⟨gd, 0, none⟩) m m, .func (.func 45) #[] #[.pointer (some ⟨w.heap.size, 0, none⟩)], .slice (some ⟨gx, 0, none⟩) m m, .slice (some ⟨gt, 0, none⟩) 1 1, .agg #[.slice (some ⟨gd, 0, none⟩) m m, .slice (some ⟨gx, 0, none⟩) m m, .slice (some ⟨gt, 0, none⟩) 1 1], .int .i64 (m : Int), .int .i64 d, .func (.func 45) #[] #[.pointer (some ⟨w.heap.size, 0, none⟩)], .slice (some ⟨gc, 0, none⟩) m m, .agg #[.slice (some ⟨gd, 0, none⟩) m m, .slice (some ⟨gx, 0, none⟩) m m, .slice (some ⟨gt, 0, none⟩) 1 1], .slice (some ⟨gs, 0, none⟩) 1 1, undef, undef, undef, undef, undef, undef, undef, undef, undef, undef, undef], []⟩ _
        refine wpAnyH_take (i := 6) (v := .agg #[.int .i64 (m : Int), .int .i64 0, .int .i64 0, .int .i64 0, .int .i64 d, .int .i64 1, .slice (some ⟨gc, 0, none⟩) m m, .slice (some ⟨gs, 0, none⟩) 1 1]) rfl (by kernel_rfl) (by kernel_rfl) (by kernel_rfl) (fun _ _ _ h => h) (Or.inl ⟨by rfl, fun W _ => by go_simp⟩) bs ?_
        change wpAnyH _ _ _ _ _ _ _ ⟨#[.int .i64 (m : Int), .int .i64 d, .pointer (some ⟨w.heap.size, 0, none⟩), undef, .pointer (some ⟨w.heap.size + 1, 0, none⟩), .int .i64 0, .func (.func 45) #[] #[.pointer (some ⟨w.heap.size, 0, none⟩)], .pointer (some ⟨gt + 1, 0, none⟩), .pointer (some ⟨gb, 0, none⟩), .func (.func 51) #[] #[.pointer (some ⟨g1, 0, none⟩), .pointer (some ⟨g1 + 1, 0, none⟩)], .int .i64 (m : Int), .bool false, .bool false, .func (.func 51) #[] #[.pointer (some ⟨g2, 0, none⟩), .pointer (some ⟨g2 + 1, 0, none⟩)], .int .i64 d, .bool false, .bool false, undef, .func (.func 45) #[] #[.pointer (some ⟨w.heap.size, 0, none⟩)], .slice (some ⟨w2.heap.size, 0, none⟩) 1 1, .int .i64 (m : Int), .slice (some ⟨gd, 0, none⟩) m m, .func (.func 45) #[] #[.pointer (some ⟨w.heap.size, 0, none⟩)], .slice (some ⟨gx, 0, none⟩) m m, .slice (some ⟨gt, 0, none⟩) 1 1, .agg #[.slice (some ⟨gd, 0, none⟩) m m, .slice (some ⟨gx, 0, none⟩) m m, .slice (some ⟨gt, 0, none⟩) 1 1], .int .i64 (m : Int), .int .i64 d, .func (.func 45) #[] #[.pointer (some ⟨w.heap.size, 0, none⟩)], .slice (some ⟨gc, 0, none⟩) m m, .agg #[.slice (some ⟨gd, 0, none⟩) m m, .slice (some ⟨gx, 0, none⟩) m m, .slice (some ⟨gt, 0, none⟩) 1 1], .slice (some ⟨gs, 0, none⟩) 1 1, .agg #[.int .i64 (m : Int), .int .i64 0, .int .i64 0, .int .i64 0, .int .i64 d, .int .i64 1, .slice (some ⟨gc, 0, none⟩) m m, .slice (some ⟨gs, 0, none⟩) 1 1], undef, undef, undef, undef, undef, undef, undef, undef, undef, undef], []⟩ _
        refine wpAnyH_ready (rs := [8]) (by kernel_rfl) (by simp) ?_
        refine AllReadyH.cons rfl (fun K2 hK2 => ?_) AllReadyH.nil
        have hst := run_storeVar_row (P := Tryd.prog) v3573 gb 25 25 _ #[.int .i64 (m : Int), .int .i64 0, .int .i64 0, .int .i64 0, .int .i64 d, .int .i64 1, .slice (some ⟨gc, 0, none⟩) m m, .slice (some ⟨gs, 0, none⟩) 1 1] kb infoM rfl (by simp [Value.oneCell'])
        simp [go_sem] at hst
        have hG := only_setRow v3573 gb #[.int .i64 (m : Int), .int .i64 0, .int .i64 0, .int .i64 0, .int .i64 d, .int .i64 1, .slice (some ⟨gc, 0, none⟩) m m, .slice (some ⟨gs, 0, none⟩) 1 1]
        have bs2 := Below.off bs bs.size hgb hG
        have kc2 := kc.grown hG (some_ne (kc.ne_type kb (by decide)))
        have ks2 := ks.grown hG (some_ne (ks.ne_type kb (by decide)))
        have kb2 := kb.row8 #[.int .i64 (m : Int), .int .i64 0, .int .i64 0, .int .i64 0, .int .i64 d, .int .i64 1, .slice (some ⟨gc, 0, none⟩) m m, .slice (some ⟨gs, 0, none⟩) 1 1]
        clear hG kc ks
        go_simp
        refine Shut.out hK2 _ _ bs2 (fun _ => ?_)
        clear hK2 K2
        refine wpAnyH_done (by kernel_rfl) ?_ _
        exact hrest gc gs gb _ kc2 ks2 kb2 bs2 hgb
  · skip
    go_simp
    have hC := Below.al v0 (.cells #[.int .i64 0, .int .i64 0, .int .i64 0, .int .i64 0, .int .i64 0, .int .i64 0, .slice none 0 0, .slice none 0 0] 25)
    have kb := Blk.new v0 25 #[.int .i64 0, .int .i64 0, .int .i64 0, .int .i64 0, .int .i64 0, .int .i64 0, .slice none 0 0, .slice none 0 0]
    have hgb : u2.heap.size ≤ v0.heap.size := bs.size
    replace bs := bs.trans (hC.mono bs.size)
    clear hC
    refine Shut.out hK2 _ _ bs (fun _ => ?_)
    clear hK2 K2
    change wpAnyH _ _ _ _ _ _ _ ⟨#[.int .i64 (m : Int), .int .i64 d, .pointer (some ⟨w.heap.size, 0, none⟩), undef, .pointer (some ⟨w.heap.size + 1, 0, none⟩), .int .i64 0, .func (.func 45) #[] #[.pointer (some ⟨w.heap.size, 0, none⟩)], .pointer (some ⟨gt + 1, 0, none⟩), .pointer (some ⟨v0.heap.size, 0, none⟩), .func (.func 51) #[] #[.pointer (some ⟨g1, 0, none⟩), .pointer (some ⟨g1 + 1, 0, none⟩)], .int .i64 (m : Int), .bool false, .bool false, .func (.func 51) #[] #[.pointer (some ⟨g2, 0, none⟩), .pointer (some ⟨g2 + 1, 0, none⟩)], .int .i64 d, .bool false, .bool false, undef, .func (.func 45) #[] #[.pointer (some ⟨w.heap.size, 0, none⟩)], .slice (some ⟨w2.heap.size, 0, none⟩) 1 1, .int .i64 (m : Int), .slice (some ⟨gd, 0, none⟩) m m, .func (.func 45) #[] #[.pointer (some ⟨w.heap.size, 0, none⟩)], .slice (some ⟨gx, 0, none⟩) m m, .slice (some ⟨gt, 0, none⟩) 1 1, .agg #[.slice (some ⟨gd, 0, none⟩) m m, .slice (some ⟨gx, 0, none⟩) m m, .slice (some ⟨gt, 0, none⟩) 1 1], .int .i64 (m : Int), .int .i64 d, .func (.func 45) #[] #[.pointer (some ⟨w.heap.size, 0, none⟩)], undef, .agg #[.slice (some ⟨gd, 0, none⟩) m m, .slice (some ⟨gx, 0, none⟩) m m, .slice (some ⟨gt, 0, none⟩) 1 1], undef, undef, undef, undef, undef, undef, undef, undef, undef, undef, undef, undef], []⟩ _
    generalize v0.alloc (.cells #[.int .i64 0, .int .i64 0, .int .i64 0, .int .i64 0, .int .i64 0, .int .i64 0, .slice none 0 0, .slice none 0 0] 25) = v17 at *
    generalize v0.heap.size = gb at *
    refine wpAnyH_ready (rs := [3, 5]) (by kernel_rfl) (by simp) ?_
    refine AllReadyH.cons rfl (fun K2 hK2 => ?_) (AllReadyH.cons rfl (fun K2 hK2 => ?_) AllReadyH.nil)
    · skip
      go_simp
      refine (plain1_any _ m _ h0 h1 (kn.on bs)).mono ?_
      rintro e v273 ⟨gc, rfl, hgc, kc, hC⟩
      dsimp only
      replace kb := kb.on hC
      replace bs := bs.trans (hC.mono bs.size)
      clear hC
      refine Shut.out hK2 _ _ bs (fun _ => ?_)
      clear hK2 K2
      change wpAnyH _ _ _ _ _ _ _ ⟨#[.int .i64 (m : Int), .int .i64 d, .pointer (some ⟨w.heap.size, 0, none⟩), undef, .pointer (some ⟨w.heap.size + 1, 0, none⟩), .int .i64 0, .func (.func 45) #[] #[.pointer (some ⟨w.heap.size, 0, none⟩)], .pointer (some ⟨gt + 1, 0, none⟩), .pointer (some ⟨gb, 0, none⟩), .func (.func 51) #[] #[.pointer (some ⟨g1, 0, none⟩), .pointer (some ⟨g1 + 1, 0, none⟩)], .int .i64 (m : Int), .bool false, .bool false, .func (.func 51) #[] #[.pointer (some ⟨g2, 0, none⟩), .pointer (some ⟨g2 + 1, 0, none⟩)], .int .i64 d, .bool false, .bool false, undef, .func (.func 45) #[] #[.pointer (some ⟨w.heap.size, 0, none⟩)], .slice (some ⟨w2.heap.size, 0, none⟩) 1 1, .int .i64 (m : Int), .slice (some ⟨gd, 0, none⟩) m m, .func (.func 45) #[] #[.pointer (some ⟨w.heap.size, 0, none⟩)], .slice (some ⟨gx, 0, none⟩) m m, .slice (some ⟨gt, 0, none⟩) 1 1, .agg #[.slice (some ⟨gd, 0, none⟩) m m, .slice (some ⟨gx, 0, none⟩) m m, .slice (some ⟨gt, 0, none⟩) 1 1], .int .i64 (m : Int), .int .i64 d, .func (.func 45) #[] #[.pointer (some ⟨w.heap.size, 0, none⟩)], .slice (some ⟨gc, 0, none⟩) m m, .agg #[.slice (some ⟨gd, 0, none⟩) m m, .slice (some ⟨gx, 0, none⟩) m m, .slice (some ⟨gt, 0, none⟩) 1 1], undef, undef, undef, undef, undef, undef, undef, undef, undef, undef, undef, undef], []⟩ _
      refine wpAnyH_ready (rs := [5]) (by kernel_rfl) (by simp) ?_
      refine AllReadyH.cons rfl (fun K2 hK2 => ?_) AllReadyH.nil
      · skip
        go_simp
        have hC := Below.al v273 (.cells #[.slice (some ⟨gd, 0, none⟩) m m, .slice (some ⟨gx, 0, none⟩) m m, .slice (some ⟨gt, 0, none⟩) 1 1] 46)
        have ks := Blk.new v273 46 #[.slice (some ⟨gd, 0, none⟩) m m, .slice (some ⟨gx, 0, none⟩) m m, .slice (some ⟨gt, 0, none⟩) 1 1]
        replace kc := kc.on hC
        replace kb := kb.on hC
        replace bs := bs.trans (hC.mono bs.size)
        clear hC
        refine Shut.out hK2 _ _ bs (fun _ => ?_)
        clear hK2 K2
        change wpAnyH _ _ _ _ _ _ _ ⟨#[.int .i64 (m : Int), .int .i64 d, .pointer (some ⟨w.heap.size, 0, none⟩), undef, .pointer (some ⟨w.heap.size + 1, 0, none⟩), .int .i64 0, .func (.func 45) #[] #[.pointer (some ⟨w.heap.size, 0, none⟩)], .pointer (some ⟨gt + 1, 0, none⟩), .pointer (some ⟨gb, 0, none⟩), .func (.func 51) #[] #[.pointer (some ⟨g1, 0, none⟩), .pointer (some ⟨g1 + 1, 0, none⟩)], .int .i64 (m : Int), .bool false, .bool false, .func (.func 51) #[] #[.pointer (some ⟨g2, 0, none⟩), .pointer (some ⟨g2 + 1, 0, none⟩)], .int .i64 d, .bool false, .bool false, undef, .func (.func 45) #[] #[.pointer (some ⟨w.heap.size, 0, none⟩)], .slice (some ⟨w2.heap.size, 0, none⟩) 1 1, .int .i64 (m : Int), .slice (some ⟨gd, 0, none⟩) m m, .func (.func 45) #[] #[.pointer (some ⟨w.heap.size, 0, none⟩)], .slice (some ⟨gx, 0, none⟩) m m, .slice (some ⟨gt, 0, none⟩) 1 1, .agg #[.slice (some ⟨gd, 0, none⟩) m m, .slice (some ⟨gx, 0, none⟩) m m, .slice (some ⟨gt, 0, none⟩) 1 1], .int .i64 (m : Int), .int .i64 d, .func (.func 45) #[] #[.pointer (some ⟨w.heap.size, 0, none⟩)], .slice (some ⟨gc, 0, none⟩) m m, .agg #[.slice (some ⟨gd, 0, none⟩) m m, .slice (some ⟨gx, 0, none⟩) m m, .slice (some ⟨gt, 0, none⟩) 1 1], .slice (some ⟨v273.heap.size, 0, none⟩) 1 1, undef, undef, undef, undef, undef, undef, undef, undef, undef, undef, undef], []⟩ _
        generalize v273.alloc (.cells #[.slice (some ⟨gd, 0, none⟩) m m, .slice (some ⟨gx, 0, none⟩) m m, .slice (some ⟨gt, 0, none⟩) 1 1] 46) = v3735 at *
        generalize v273.heap.size = gs at *
        refine wpAnyH_take (i := 6) (v := .agg #[.int .i64 (m : Int), .int .i64 0, .int .i64 0, .int .i64 0, .int .i64 d, .int .i64 1, .slice (some ⟨gc, 0, none⟩) m m, .slice (some ⟨gs, 0, none⟩) 1 1]) rfl (by kernel_rfl) (by kernel_rfl) (by kernel_rfl) (fun _ _ _ h => h) (Or.inl ⟨by rfl, fun W _ => by go_simp⟩) bs ?_
        change wpAnyH _ _ _ _ _ _ _ ⟨#[.int .i64 (m : Int), .int .i64 d, .pointer (some ⟨w.heap.size, 0, none⟩), undef, .pointer (some ⟨w.heap.size + 1, 0, none⟩), .int .i64 0, .func (.func 45) #[] #[.pointer (some ⟨w.heap.size, 0, none⟩)], .pointer (some ⟨gt + 1, 0, none⟩), .pointer (some ⟨gb, 0, none⟩), .func (.func 51) #[] #[.pointer (some ⟨g1, 0, none⟩), .pointer (some ⟨g1 + 1, 0, none⟩)], .int .i64 (m : Int), .bool false, .bool false, .func (.func 51) #[] #[.pointer (some ⟨g2, 0, none⟩), .pointer (some ⟨g2 + 1, 0, none⟩)], .int .i64 d, .bool false, .bool false, undef, .func (.func 45) #[] #[.pointer (some ⟨w.heap.size, 0, none⟩)], .slice (some ⟨w2.heap.size, 0, none⟩) 1 1, .int .i64 (m : Int), .slice (some ⟨gd, 0, none⟩) m m, .func (.func 45) #[] #[.pointer (some ⟨w.heap.size, 0, none⟩)], .slice (some ⟨gx, 0, none⟩) m m, .slice (some ⟨gt, 0, none⟩) 1 1, .agg #[.slice (some ⟨gd, 0, none⟩) m m, .slice (some ⟨gx, 0, none⟩) m m, .slice (some ⟨gt, 0, none⟩) 1 1], .int .i64 (m : Int), .int .i64 d, .func (.func 45) #[] #[.pointer (some ⟨w.heap.size, 0, none⟩)], .slice (some ⟨gc, 0, none⟩) m m, .agg #[.slice (some ⟨gd, 0, none⟩) m m, .slice (some ⟨gx, 0, none⟩) m m, .slice (some ⟨gt, 0, none⟩) 1 1], .slice (some ⟨gs, 0, none⟩) 1 1, .agg #[.int .i64 (m : Int), .int .i64 0, .int .i64 0, .int .i64 0, .int .i64 d, .int .i64 1, .slice (some ⟨gc, 0, none⟩) m m, .slice (some ⟨gs, 0, none⟩) 1 1], undef, undef, undef, undef, undef, undef, undef, undef, undef, undef], []⟩ _
        refine wpAnyH_ready (rs := [8]) (by kernel_rfl) (by simp) ?_
        refine AllReadyH.cons rfl (fun K2 hK2 => ?_) AllReadyH.nil
        have hst := run_storeVar_row (P := Tryd.prog) v3735 gb 25 25 _ #[.int .i64 (m : Int), .int .i64 0, .int .i64 0, .int .i64 0, .int .i64 d, .int .i64 1, .slice (some ⟨gc, 0, none⟩) m m, .slice (some ⟨gs, 0, none⟩) 1 1] kb infoM rfl (by simp [Value.oneCell'])
        simp [go_sem] at hst
        have hG := only_setRow v3735 gb #[.int .i64 (m : Int), .int .i64 0, .int .i64 0, .int .i64 0, .int .i64 d, .int .i64 1, .slice (some ⟨gc, 0, none⟩) m m, .slice (some ⟨gs, 0, none⟩) 1 1]
        have bs2 := Below.off bs bs.size hgb hG
        have kc2 := kc.grown hG (some_ne (kc.ne_type kb (by decide)))
        have ks2 := ks.grown hG (some_ne (ks.ne_type kb (by decide)))
        have kb2 := kb.row8 #[.int .i64 (m : Int), .int .i64 0, .int .i64 0, .int .i64 0, .int .i64 d, .int .i64 1, .slice (some ⟨gc, 0, none⟩) m m, .slice (some ⟨gs, 0, none⟩) 1 1]
        clear hG kc ks
        go_simp
        refine Shut.out hK2 _ _ bs2 (fun _ => ?_)
        clear hK2 K2
        refine wpAnyH_done (by kernel_rfl) ?_ _
        exact hrest gc gs gb _ kc2 ks2 kb2 bs2 hgb
    · skip
      go_simp
      have hC := Below.al v17 (.cells #[.slice (some ⟨gd, 0, none⟩) m m, .slice (some ⟨gx, 0, none⟩) m m, .slice (some ⟨gt, 0, none⟩) 1 1] 46)
      have ks := Blk.new v17 46 #[.slice (some ⟨gd, 0, none⟩) m m, .slice (some ⟨gx, 0, none⟩) m m, .slice (some ⟨gt, 0, none⟩) 1 1]
      replace kb := kb.on hC
      replace bs := bs.trans (hC.mono bs.size)
      clear hC
      refine Shut.out hK2 _ _ bs (fun _ => ?_)
      clear hK2 K2
      change wpAnyH _ _ _ _ _ _ _ ⟨#[.int .i64 (m : Int), .int .i64 d, .pointer (some ⟨w.heap.size, 0, none⟩), undef, .pointer (some ⟨w.heap.size + 1, 0, none⟩), .int .i64 0, .func (.func 45) #[] #[.pointer (some ⟨w.heap.size, 0, none⟩)], .pointer (some ⟨gt + 1, 0, none⟩), .pointer (some ⟨gb, 0, none⟩), .func (.func 51) #[] #[.pointer (some ⟨g1, 0, none⟩), .pointer (some ⟨g1 + 1, 0, none⟩)], .int .i64 (m : Int), .bool false, .bool false, .func (.func 51) #[] #[.pointer (some ⟨g2, 0, none⟩), .pointer (some ⟨g2 + 1, 0, none⟩)], .int .i64 d, .bool false, .bool false, undef, .func (.func 45) #[] #[.pointer (some ⟨w.heap.size, 0, none⟩)], .slice (some ⟨w2.heap.size, 0, none⟩) 1 1, .int .i64 (m : Int), .slice (some ⟨gd, 0, none⟩) m m, .func (.func 45) #[] #[.pointer (some ⟨w.heap.size, 0, none⟩)], .slice (some ⟨gx, 0, none⟩) m m, .slice (some ⟨gt, 0, none⟩) 1 1, .agg #[.slice (some ⟨gd, 0, none⟩) m m, .slice (some ⟨gx, 0, none⟩) m m, .slice (some ⟨gt, 0, none⟩) 1 1], .int .i64 (m : Int), .int .i64 d, .func (.func 45) #[] #[.pointer (some ⟨w.heap.size, 0, none⟩)], undef, .agg #[.slice (some ⟨gd, 0, none⟩) m m, .slice (some ⟨gx, 0, none⟩) m m, .slice (some ⟨gt, 0, none⟩) 1 1], .slice (some ⟨v17.heap.size, 0, none⟩) 1 1, undef, undef, undef, undef, undef, undef, undef, undef, undef, undef, undef], []⟩ _
      generalize v17.alloc (.cells #[.slice (some ⟨gd, 0, none⟩) m m, .slice (some ⟨gx, 0, none⟩) m m, .slice (some ⟨gt, 0, none⟩) 1 1] 46) = v275 at *
      generalize v17.heap.size = gs at *
      refine wpAnyH_ready (rs := [3]) (by kernel_rfl) (by simp) ?_
      refine AllReadyH.cons rfl (fun K2 hK2 => ?_) AllReadyH.nil
      · skip
        go_simp
        refine (plain1_any _ m _ h0 h1 (kn.on bs)).mono ?_
        rintro e v3753 ⟨gc, rfl, hgc, kc, hC⟩
        dsimp only
        replace ks := ks.on hC
        replace kb := kb.on hC
        replace bs := bs.trans (hC.mono bs.size)
        clear hC
        refine Shut.out hK2 _ _ bs (fun _ => ?_)
        clear hK2 K2
        change wpAnyH _ _ _ _ _ _ _ ⟨#[.int .i64 (m : Int), .int .i64 d, .pointer (some ⟨w.heap.size, 0, none⟩), undef, .pointer (some ⟨w.heap.size + 1, 0, none⟩), .int .i64 0, .func (.func 45) #[] #[.pointer (some ⟨w.heap.size, 0, none⟩)], .pointer (some ⟨gt + 1, 0, none⟩), .pointer (some ⟨gb, 0, none⟩), .func (.func 51) #[] #[.pointer (some ⟨g1, 0, none⟩), .pointer (some ⟨g1 + 1, 0, none⟩)], .int .i64 (m : Int), .bool false, .bool false, .func (.func 51) #[] #[.pointer (some ⟨g2, 0, none⟩), .pointer (some ⟨g2 + 1, 0, none⟩)], .int .i64 d, .bool false, .bool false, undef, .func (.func 45) #[] #[.pointer (some ⟨w.heap.size, 0, none⟩)], .slice (some ⟨w2.heap.size, 0, none⟩) 1 1, .int .i64 (m : Int), .slice (some ⟨gd, 0, none⟩) m m, .func (.func 45) #[] #[.pointer (some ⟨w.heap.size, 0, none⟩)], .slice (some ⟨gx, 0, none⟩) m m, .slice (some ⟨gt, 0, none⟩) 1 1, .agg #[.slice (some ⟨gd, 0, none⟩) m m, .slice (some ⟨gx, 0, none⟩) m m, .slice (some ⟨gt, 0, none⟩) 1 1], .int .i64 (m : Int), .int .i64 d, .func (.func 45) #[] #[.pointer (some ⟨w.heap.size, 0, none⟩)], .slice (some ⟨gc, 0, none⟩) m m, .agg #[.slice (some ⟨gd, 0, none⟩) m m, .slice (some ⟨gx, 0, none⟩) m m, .slice (some ⟨gt, 0, none⟩) 1 1], .slice (some ⟨gs, 0, none⟩) 1 1, undef, undef, undef, undef, undef, undef, undef, undef, undef, undef, undef], []⟩ _
        refine wpAnyH_take (i := 6) (v := .agg #[.int .i64 (m : Int), .int .i64 0, .int .i64 0, .int .i64 0, .int .i64 d, .int .i64 1, .slice (some ⟨gc, 0, none⟩) m m, .slice (some ⟨gs, 0, none⟩) 1 1]) rfl (by kernel_rfl) (by kernel_rfl) (by kernel_rfl) (fun _ _ _ h => h) (Or.inl ⟨by rfl, fun W _ => by go_simp⟩) bs ?_
        change wpAnyH _ _ _ _ _ _ _ ⟨#[.int .i64 (m : Int), .int .i64 d, .pointer (some ⟨w.heap.size, 0, none⟩), undef, .pointer (some ⟨w.heap.size + 1, 0, none⟩), .int .i64 0, .func (.func 45) #[] #[.pointer (some ⟨w.heap.size, 0, none⟩)], .pointer (some ⟨gt + 1, 0, none⟩), .pointer (some ⟨gb, 0, none⟩), .func (.func 51) #[] #[.pointer (some ⟨g1, 0, none⟩), .pointer (some ⟨g1 + 1, 0, none⟩)], .int .i64 (m : Int), .bool false, .bool false, .func (.func 51) #[] #[.pointer (some ⟨g2, 0, none⟩), .pointer (some ⟨g2 + 1, 0, none⟩)], .int .i64 d, .bool false, .bool false, undef, .func (.func 45) #[] #[.pointer (some ⟨w.heap.size, 0, none⟩)], .slice (some ⟨w2.heap.size, 0, none⟩) 1 1, .int .i64 (m : Int), .slice (some ⟨gd, 0, none⟩) m m, .func (.func 45) #[] #[.pointer (some ⟨w.heap.size, 0, none⟩)], .slice (some ⟨gx, 0, none⟩) m m, .slice (some ⟨gt, 0, none⟩) 1 1, .agg #[.slice (some ⟨gd, 0, none⟩) m m, .slice (some ⟨gx, 0, none⟩) m m, .slice (some ⟨gt, 0, none⟩) 1 1], .int .i64 (m : Int), .int .i64 d, .func (.func 45) #[] #[.pointer (some ⟨w.heap.size, 0, none⟩)], .slice (some ⟨gc, 0, none⟩) m m, .agg #[.slice (some ⟨gd, 0, none⟩) m m, .slice (some ⟨gx, 0, none⟩) m m, .slice (some ⟨gt, 0, none⟩) 1 1], .slice (some ⟨gs, 0, none⟩) 1 1, .agg #[.int .i64 (m : Int), .int .i64 0, .int .i64 0, .int .i64 0, .int .i64 d, .int .i64 1, .slice (some ⟨gc, 0, none⟩) m m, .slice (some ⟨gs, 0, none⟩) 1 1], undef, undef, undef, undef, undef, undef, undef, undef, undef, undef], []⟩ _
        refine wpAnyH_ready (rs := [8]) (by kernel_rfl) (by simp) ?_
        refine AllReadyH.cons rfl (fun K2 hK2 => ?_) AllReadyH.nil
        have hst := run_storeVar_row (P := Tryd.prog) v3753 gb 25 25 _ #[.int .i64 (m : Int), .int .i64 0, .int .i64 0, .int .i64 0, .int .i64 d, .int .i64 1, .slice (some ⟨gc, 0, none⟩) m m, .slice (some ⟨gs, 0, none⟩) 1 1] kb infoM rfl (by simp [Value.oneCell'])
        simp [go_sem] at hst
        have hG := only_setRow v3753 gb #[.int .i64 (m : Int), .int .i64 0, .int .i64 0, .int .i64 0, .int .i64 d, .int .i64 1, .slice (some ⟨gc, 0, none⟩) m m, .slice (some ⟨gs, 0, none⟩) 1 1]
        have bs2 := Below.off bs bs.size hgb hG
        have kc2 := kc.grown hG (some_ne (kc.ne_type kb (by decide)))
        have ks2 := ks.grown hG (some_ne (ks.ne_type kb (by decide)))
        have kb2 := kb.row8 #[.int .i64 (m : Int), .int .i64 0, .int .i64 0, .int .i64 0, .int .i64 d, .int .i64 1, .slice (some ⟨gc, 0, none⟩) m m, .slice (some ⟨gs, 0, none⟩) 1 1]
        clear hG kc ks
        go_simp
        refine Shut.out hK2 _ _ bs2 (fun _ => ?_)
        clear hK2 K2
        refine wpAnyH_done (by kernel_rfl) ?_ _
        exact hrest gc gs gb _ kc2 ks2 kb2 bs2 hgb
end Go.Proofs.YtnmaelefcohogaaDoor
