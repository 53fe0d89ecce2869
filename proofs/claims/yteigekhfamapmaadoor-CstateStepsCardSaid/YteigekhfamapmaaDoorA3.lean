/-
  The document's Bits of package cstate, the walk. No condition.
-/
import Derived.Test.YteigekhfamapmaaDoorA2
namespace Go.Proofs.YteigekhfamapmaaDoor
open Go.RowKit

set_option maxRecDepth 8000 in
set_option maxHeartbeats 2000000 in
theorem rbitsC_any (c : CS) (w : World) : Calls Tryd.prog 8 #[.agg c.cells] w (Res w (bitsC c)) := by
  have hck := fun W => rcheckC_any c 8 W
  obtain ⟨T, P, Mo, Nx, Me⟩ := c
  have hB : Below w.heap.size w ((w.alloc (.cells #[.int .i64 T, .int .i64 P, .int .i64 Mo, .int .i64 Nx, .int .i64 Me] 23)).alloc (.cells #[.int .i64 0, .slice none 0 0] 26)) := ((Below.refl _ _).alloc (Nat.le_refl _) _).alloc (by simp) _
  have k1 := (Blk.new w 23 #[.int .i64 T, .int .i64 P, .int .i64 Mo, .int .i64 Nx, .int .i64 Me]).alloc (.cells #[.int .i64 0, .slice none 0 0] 26)
  have k2 : Blk ((w.alloc (.cells #[.int .i64 T, .int .i64 P, .int .i64 Mo, .int .i64 Nx, .int .i64 Me] 23)).alloc (.cells #[.int .i64 0, .slice none 0 0] 26)) (w.heap.size + 1) 26 #[.int .i64 0, .slice none 0 0] := by simpa using Blk.new (w.alloc (.cells #[.int .i64 T, .int .i64 P, .int .i64 Mo, .int .i64 Nx, .int .i64 Me] 23)) 26 #[.int .i64 0, .slice none 0 0]
  unfold CS.cells at *
  dsimp only at *
  unfold bitsC
  by_cases hm : mayC ⟨T, P, Mo, Nx, Me⟩ 8 = true
  · rw [if_pos hm]
    have hc0 : checkC ⟨T, P, Mo, Nx, Me⟩ 8 = 0 := by unfold checkC; rw [if_neg (by omega), if_pos hm]
    rw [hc0] at hck
    unfold mayC at hm
    simp only [decide_eq_true_eq] at hm
    rw [show (2 : Int) ^ (8 : Int).toNat = 256 from by decide] at hm
    obtain ⟨t0, t1, p0, p1, m0, m1, n0, n1, e0, e1⟩ := hm
    obtain ⟨T', rfl⟩ := Int.eq_ofNat_of_zero_le t0
    obtain ⟨P', rfl⟩ := Int.eq_ofNat_of_zero_le p0
    obtain ⟨Mo', rfl⟩ := Int.eq_ofNat_of_zero_le m0
    obtain ⟨Nx', rfl⟩ := Int.eq_ofNat_of_zero_le n0
    obtain ⟨Me', rfl⟩ := Int.eq_ofNat_of_zero_le e0
    have u1 : IntKind.u64.wrap (T' : Int) = (T' : Int) := IntWalk.u64_in _ (by omega)
    have u2 : IntKind.u64.wrap (P' : Int) = (P' : Int) := IntWalk.u64_in _ (by omega)
    have u3 : IntKind.u64.wrap (Mo' : Int) = (Mo' : Int) := IntWalk.u64_in _ (by omega)
    have u4 : IntKind.u64.wrap (Nx' : Int) = (Nx' : Int) := IntWalk.u64_in _ (by omega)
    have u5 : IntKind.u64.wrap (Me' : Int) = (Me' : Int) := IntWalk.u64_in _ (by omega)
    unfold bitsOf
    dsimp only
    simp only [Int.toNat_natCast]
    obtain ⟨R, hR⟩ : ∃ R, R = numBits T' 8 ++ numBits P' 3 ++ numBits Mo' 2 ++ numBits Nx' 3 ++ numBits Me' 8 := ⟨_, rfl⟩
    rw [← hR]
    have HR := Lib.hid hR; clear hR
    have HCK := Lib.hid hck; clear hck hc0
    go_enter Tryd.func8, Tryd.ntmps8
    go_wp2_with fail
    refine (HCK.out _).mono ?_
    rintro e w1 ⟨rfl, hB1⟩
    replace k1 := k1.on hB1
    replace k2 := k2.on hB1
    have b1 := hB.trans (hB1.mono hB.size)
    have c0 := k1.cell 0; have c1 := k1.cell 1; have c2 := k1.cell 2; have c3 := k1.cell 3; have c4 := k1.cell 4
    simp at c0 c1 c2 c3 c4
    go_wp2_with fail
    have hp1 := rput_more [] none 0 0 [] T' 8 w1 rfl isBits_nil (by decide) (by decide) (by omega) (fun h => absurd rfl h)
    rw [List.nil_append] at hp1
    obtain ⟨L1, hL1⟩ : ∃ L, L = numBits T' 8 := ⟨_, rfl⟩
    rw [← hL1] at hp1
    have hl1 : L1.length = 8 := by rw [hL1, numBits_length]
    have HP1 := Lib.hid hp1; have HL1 := Lib.hid hl1; have HE1 := Lib.hid hL1; clear hp1 hl1 hL1
    refine HP1.out.mono ?_
    rintro e w2 ⟨A1, a1, b1', bs1, rfl, hn1, his1, _, hA1, hB2, hF1⟩
    dsimp only at his1
    replace k1 := k1.on hB2
    replace k2 := k2.on hB2
    have b2 := b1.trans (hB2.mono b1.size)
    have HN1 := Lib.hid hn1; have HI1 := Lib.hid his1; clear hn1 his1
    have z1 := k1.lt
    have z2 := k2.lt
    have d1 := k1.cell 1
    simp at d1
    clear c0 c1 c2 c3 c4
    dsimp only
    have al2 : Below w2.heap.size w2 (w2.alloc (.cells #[.int .i64 L1.length, .slice A1 a1 b1'] 26)) := (Below.refl _ _).alloc (Nat.le_refl _) _
    have k4 := Blk.new w2 26 #[.int .i64 L1.length, .slice A1 a1 b1']
    have hg4 : w.heap.size + 1 < w2.heap.size := z2
    replace k1 := k1.on al2
    replace k2 := k2.on al2
    have b3 := b2.trans (al2.mono b2.size)
    have hA1' := hA1.on al2
    have hF1' : Fresh w1.heap.size A1 bs1 := hF1
    go_wp2_with fail
    clear d1
    obtain ⟨g4, hg4e⟩ : ∃ g, g = w2.heap.size := ⟨_, rfl⟩
    rw [← hg4e] at k4 hg4 ⊢
    generalize w2.alloc (.cells #[.int .i64 L1.length, .slice A1 a1 b1'] 26) = W1 at *
    clear hg4e al2 hA1 hF1 hF1' z1 z2
    have hp2 := rput_more L1 A1 a1 b1' bs1 P' 3 W1 HN1.out HI1.out (by have := HL1.out; omega) (by decide) (by omega) hA1'
    obtain ⟨L2, hL2⟩ : ∃ L, L = L1 ++ numBits P' 3 := ⟨_, rfl⟩
    rw [← hL2] at hp2
    have hl2 : L2.length = 11 := by rw [hL2, List.length_append, numBits_length, HL1.out]
    have HP2 := Lib.hid hp2; have HL2 := Lib.hid hl2; have HE2 := Lib.hid hL2; clear hp2 hl2 hL2
    refine HP2.out.mono ?_
    rintro e V2 ⟨A2, a2, b2', bs2, rfl, hn2, his2, hle2, hA2, hBV2, hF2⟩
    dsimp only at his2 hle2
    replace k1 := k1.on hBV2
    replace k2 := k2.on hBV2
    have g4lt := k4.lt
    replace k4 := k4.on hBV2
    have b4 := b3.trans (hBV2.mono b3.size)
    have HN2 := Lib.hid hn2; have HI2 := Lib.hid his2; clear hn2 his2
    dsimp only
    obtain ⟨r0, r1, q0, q1⟩ := k4.two
    have d1 := k1.cell 2
    simp at d1
    have z1 := k1.lt
    have z4 := k4.lt
    have hne1 : w.heap.size ≠ g4 := by omega
    have hne2 : w.heap.size + 1 ≠ g4 := by omega
    have k4n : Blk ((V2.setCell ⟨g4, 0, none⟩ (.int .i64 L2.length)).setCell ⟨g4, 1, none⟩ (.slice A2 a2 b2')) g4 26 #[.int .i64 L2.length, .slice A2 a2 b2'] := k4.put2 _ _
    have k1n := (k1.far (p := ⟨g4, 0, none⟩) hne1 (.int .i64 L2.length)).far (p := ⟨g4, 1, none⟩) hne1 (.slice A2 a2 b2')
    have k2n := (k2.far (p := ⟨g4, 0, none⟩) hne2 (.int .i64 L2.length)).far (p := ⟨g4, 1, none⟩) hne2 (.slice A2 a2 b2')
    have hAn := (hA2.set_low hF2 (p := ⟨g4, 0, none⟩) g4lt (.int .i64 L2.length)).set_low hF2 (p := ⟨g4, 1, none⟩) g4lt (.slice A2 a2 b2')
    have hA2' : Byt ((V2.setCell ⟨g4, 0, none⟩ (.int .i64 L2.length)).setCell ⟨g4, 1, none⟩ (.slice A2 a2 b2')).heap.size ((V2.setCell ⟨g4, 0, none⟩ (.int .i64 L2.length)).setCell ⟨g4, 1, none⟩ (.slice A2 a2 b2')) A2 bs2 := by simpa using hAn
    have bb2 : Below w.heap.size w ((V2.setCell ⟨g4, 0, none⟩ (.int .i64 L2.length)).setCell ⟨g4, 1, none⟩ (.slice A2 a2 b2')) := (b4.setCell (p := ⟨g4, 0, none⟩) (by simp; omega) _).setCell (p := ⟨g4, 1, none⟩) (by simp; omega) _
    go_wp2_with fail
    clear d1 r0 r1 q0 q1 hAn k1 k2 k4 hA2 hF2 hBV2 z1 z4 b4
    have k1 := k1n; have k2 := k2n; have k4 := k4n; have b4 := bb2
    clear k1n k2n k4n bb2
    generalize (V2.setCell ⟨g4, 0, none⟩ (.int .i64 L2.length)).setCell ⟨g4, 1, none⟩ (.slice A2 a2 b2') = W2 at *
    clear g4lt hne1 hne2
    have hp3 := rput_more L2 A2 a2 b2' bs2 Mo' 2 W2 HN2.out HI2.out (by have := HL2.out; omega) (by decide) (by omega) hA2'
    obtain ⟨L3, hL3⟩ : ∃ L, L = L2 ++ numBits Mo' 2 := ⟨_, rfl⟩
    rw [← hL3] at hp3
    have hl3 : L3.length = 13 := by rw [hL3, List.length_append, numBits_length, HL2.out]
    have HP3 := Lib.hid hp3; have HL3 := Lib.hid hl3; have HE3 := Lib.hid hL3; clear hp3 hl3 hL3
    refine HP3.out.mono ?_
    rintro e V3 ⟨A3, a3, b3', bs3, rfl, hn3, his3, hle3, hA3, hBV3, hF3⟩
    dsimp only at his3 hle3
    replace k1 := k1.on hBV3
    replace k2 := k2.on hBV3
    have g4lt := k4.lt
    replace k4 := k4.on hBV3
    have b5 := b4.trans (hBV3.mono b4.size)
    have HN3 := Lib.hid hn3; have HI3 := Lib.hid his3; clear hn3 his3
    dsimp only
    obtain ⟨r0, r1, q0, q1⟩ := k4.two
    have d1 := k1.cell 3
    simp at d1
    have z1 := k1.lt
    have z4 := k4.lt
    have hne1 : w.heap.size ≠ g4 := by omega
    have hne2 : w.heap.size + 1 ≠ g4 := by omega
    have k4n : Blk ((V3.setCell ⟨g4, 0, none⟩ (.int .i64 L3.length)).setCell ⟨g4, 1, none⟩ (.slice A3 a3 b3')) g4 26 #[.int .i64 L3.length, .slice A3 a3 b3'] := k4.put2 _ _
    have k1n := (k1.far (p := ⟨g4, 0, none⟩) hne1 (.int .i64 L3.length)).far (p := ⟨g4, 1, none⟩) hne1 (.slice A3 a3 b3')
    have k2n := (k2.far (p := ⟨g4, 0, none⟩) hne2 (.int .i64 L3.length)).far (p := ⟨g4, 1, none⟩) hne2 (.slice A3 a3 b3')
    have hAn := (hA3.set_low hF3 (p := ⟨g4, 0, none⟩) g4lt (.int .i64 L3.length)).set_low hF3 (p := ⟨g4, 1, none⟩) g4lt (.slice A3 a3 b3')
    have hA3' : Byt ((V3.setCell ⟨g4, 0, none⟩ (.int .i64 L3.length)).setCell ⟨g4, 1, none⟩ (.slice A3 a3 b3')).heap.size ((V3.setCell ⟨g4, 0, none⟩ (.int .i64 L3.length)).setCell ⟨g4, 1, none⟩ (.slice A3 a3 b3')) A3 bs3 := by simpa using hAn
    have bb3 : Below w.heap.size w ((V3.setCell ⟨g4, 0, none⟩ (.int .i64 L3.length)).setCell ⟨g4, 1, none⟩ (.slice A3 a3 b3')) := (b5.setCell (p := ⟨g4, 0, none⟩) (by simp; omega) _).setCell (p := ⟨g4, 1, none⟩) (by simp; omega) _
    go_wp2_with fail
    clear d1 r0 r1 q0 q1 hAn k1 k2 k4 hA3 hF3 hBV3 z1 z4 b5
    have k1 := k1n; have k2 := k2n; have k4 := k4n; have b5 := bb3
    clear k1n k2n k4n bb3
    generalize (V3.setCell ⟨g4, 0, none⟩ (.int .i64 L3.length)).setCell ⟨g4, 1, none⟩ (.slice A3 a3 b3') = W3 at *
    clear g4lt hne1 hne2
    have hp4 := rput_more L3 A3 a3 b3' bs3 Nx' 3 W3 HN3.out HI3.out (by have := HL3.out; omega) (by decide) (by omega) hA3'
    obtain ⟨L4, hL4⟩ : ∃ L, L = L3 ++ numBits Nx' 3 := ⟨_, rfl⟩
    rw [← hL4] at hp4
    have hl4 : L4.length = 16 := by rw [hL4, List.length_append, numBits_length, HL3.out]
    have HP4 := Lib.hid hp4; have HL4 := Lib.hid hl4; have HE4 := Lib.hid hL4; clear hp4 hl4 hL4
    refine HP4.out.mono ?_
    rintro e V4 ⟨A4, a4, b4', bs4, rfl, hn4, his4, hle4, hA4, hBV4, hF4⟩
    dsimp only at his4 hle4
    replace k1 := k1.on hBV4
    replace k2 := k2.on hBV4
    have g4lt := k4.lt
    replace k4 := k4.on hBV4
    have b6 := b5.trans (hBV4.mono b5.size)
    have HN4 := Lib.hid hn4; have HI4 := Lib.hid his4; clear hn4 his4
    dsimp only
    obtain ⟨r0, r1, q0, q1⟩ := k4.two
    have d1 := k1.cell 4
    simp at d1
    have z1 := k1.lt
    have z4 := k4.lt
    have hne1 : w.heap.size ≠ g4 := by omega
    have hne2 : w.heap.size + 1 ≠ g4 := by omega
    have k4n : Blk ((V4.setCell ⟨g4, 0, none⟩ (.int .i64 L4.length)).setCell ⟨g4, 1, none⟩ (.slice A4 a4 b4')) g4 26 #[.int .i64 L4.length, .slice A4 a4 b4'] := k4.put2 _ _
    have k1n := (k1.far (p := ⟨g4, 0, none⟩) hne1 (.int .i64 L4.length)).far (p := ⟨g4, 1, none⟩) hne1 (.slice A4 a4 b4')
    have k2n := (k2.far (p := ⟨g4, 0, none⟩) hne2 (.int .i64 L4.length)).far (p := ⟨g4, 1, none⟩) hne2 (.slice A4 a4 b4')
    have hAn := (hA4.set_low hF4 (p := ⟨g4, 0, none⟩) g4lt (.int .i64 L4.length)).set_low hF4 (p := ⟨g4, 1, none⟩) g4lt (.slice A4 a4 b4')
    have hA4' : Byt ((V4.setCell ⟨g4, 0, none⟩ (.int .i64 L4.length)).setCell ⟨g4, 1, none⟩ (.slice A4 a4 b4')).heap.size ((V4.setCell ⟨g4, 0, none⟩ (.int .i64 L4.length)).setCell ⟨g4, 1, none⟩ (.slice A4 a4 b4')) A4 bs4 := by simpa using hAn
    have bb4 : Below w.heap.size w ((V4.setCell ⟨g4, 0, none⟩ (.int .i64 L4.length)).setCell ⟨g4, 1, none⟩ (.slice A4 a4 b4')) := (b6.setCell (p := ⟨g4, 0, none⟩) (by simp; omega) _).setCell (p := ⟨g4, 1, none⟩) (by simp; omega) _
    go_wp2_with fail
    clear d1 r0 r1 q0 q1 hAn k1 k2 k4 hA4 hF4 hBV4 z1 z4 b6
    have k1 := k1n; have k2 := k2n; have k4 := k4n; have b6 := bb4
    clear k1n k2n k4n bb4
    generalize (V4.setCell ⟨g4, 0, none⟩ (.int .i64 L4.length)).setCell ⟨g4, 1, none⟩ (.slice A4 a4 b4') = W4 at *
    clear g4lt hne1 hne2
    have hp5 := rput_more L4 A4 a4 b4' bs4 Me' 8 W4 HN4.out HI4.out (by have := HL4.out; omega) (by decide) (by omega) hA4'
    obtain ⟨L5, hL5⟩ : ∃ L, L = L4 ++ numBits Me' 8 := ⟨_, rfl⟩
    rw [← hL5] at hp5
    have hl5 : L5.length = 24 := by rw [hL5, List.length_append, numBits_length, HL4.out]
    have HP5 := Lib.hid hp5; have HL5 := Lib.hid hl5; have HE5 := Lib.hid hL5; clear hp5 hl5 hL5
    refine HP5.out.mono ?_
    rintro e V5 ⟨A5, a5, b5', bs5, rfl, hn5, his5, hle5, hA5, hBV5, hF5⟩
    dsimp only at his5 hle5
    replace k1 := k1.on hBV5
    have k2p := k2.lt
    replace k2 := k2.on hBV5
    have g4lt := k4.lt
    replace k4 := k4.on hBV5
    have b7 := b6.trans (hBV5.mono b6.size)
    have HN5 := Lib.hid hn5; have HI5 := Lib.hid his5; clear hn5 his5
    dsimp only
    obtain ⟨r0, r1, q0, q1⟩ := k2.two
    have z2 := k2.lt
    have y2 : w.heap.size + 1 < W4.heap.size := by have := k2p; omega
    go_wp2_with fail
    have k2n : Blk ((V5.setCell ⟨w.heap.size + 1, 0, none⟩ (.int .i64 L5.length)).setCell ⟨w.heap.size + 1, 1, none⟩ (.slice A5 a5 b5')) (w.heap.size + 1) 26 #[.int .i64 L5.length, .slice A5 a5 b5'] := k2.put2 _ _
    have hAn := (hA5.set_low hF5 (p := ⟨w.heap.size + 1, 0, none⟩) y2 (.int .i64 L5.length)).set_low hF5 (p := ⟨w.heap.size + 1, 1, none⟩) y2 (.slice A5 a5 b5')
    have bb5 : Below w.heap.size w ((V5.setCell ⟨w.heap.size + 1, 0, none⟩ (.int .i64 L5.length)).setCell ⟨w.heap.size + 1, 1, none⟩ (.slice A5 a5 b5')) := (b7.setCell (p := ⟨w.heap.size + 1, 0, none⟩) (by simp) _).setCell (p := ⟨w.heap.size + 1, 1, none⟩) (by simp) _
    have hRL : R = L5 := by rw [HR.out, HE5.out, HE4.out, HE3.out, HE2.out, HE1.out]
    obtain ⟨d1, d2, -, -⟩ := k2n.two
    have hsz := b6.size
    have hres : Res w (0, R) (.returned (.tuple #[.agg #[.int .i64 L5.length, .slice A5 a5 b5'], .int .i64 0])) ((V5.setCell ⟨w.heap.size + 1, 0, none⟩ (.int .i64 L5.length)).setCell ⟨w.heap.size + 1, 1, none⟩ (.slice A5 a5 b5')) := by
      rw [hRL]
      exact ⟨A5, a5, b5', bs5, rfl, HN5.out, HI5.out, hle5, by simpa using hAn, bb5, fun a h1 h2 => Nat.le_trans hsz (hF5 a h1 h2)⟩
    exact bodyPost_ret (v := .tuple #[.agg #[.int .i64 L5.length, .slice A5 a5 b5'], .int .i64 0]) (by simp [results, Tryd.results8, go_sem, r0, r1]) rfl hres
  · rw [if_neg hm]
    have hc0 : checkC ⟨T, P, Mo, Nx, Me⟩ 8 = 40 := by unfold checkC; rw [if_neg (by omega), if_neg hm]
    rw [hc0] at hck
    clear hm
    have HCK := Lib.hid hck; clear hck hc0
    go_enter Tryd.func8, Tryd.ntmps8
    go_wp2_with fail
    refine (HCK.out _).mono ?_
    rintro e w1 ⟨rfl, hB1⟩
    replace k1 := k1.on hB1
    replace k2 := k2.on hB1
    have b1 := hB.trans (hB1.mono hB.size)
    obtain ⟨r0, r1, q0, q1⟩ := k2.two
    have z2 := k2.lt
    go_wp2
    exact bodyPost_ret (v := .tuple #[.agg #[.int .i64 0, .slice none 0 0], .int .i64 40]) (by simp [results, Tryd.results8, go_sem, r0, r1]) rfl
      (res_err 40 ((b1.setCell (p := ⟨w.heap.size + 1, 0, none⟩) (by simp) _).setCell (p := ⟨w.heap.size + 1, 1, none⟩) (by simp) _))
end Go.Proofs.YteigekhfamapmaaDoor
