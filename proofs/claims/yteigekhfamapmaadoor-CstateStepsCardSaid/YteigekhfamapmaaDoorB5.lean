/-
  Bits of package cstate answers as the document says. Condition: the array of widths holds what the program's text lays.
-/
import Derived.Test.YteigekhfamapmaaDoorB4
namespace Go.Proofs.YteigekhfamapmaaDoor
open Go.RowKit

/-- The widths that the program's text lays. -/
def widL : List Int := [8, 3, 2, 3, 8]
/-- The array's cells hold them. -/
def WTab (w : World) : Prop := 0 < w.heap.size ∧ 0 < w.heap.size ∧ ∀ i, i < 5 → w.cell? ⟨0, i, none⟩ = some (.int .i64 (widL.getD i 0))
theorem WTab.below {B : Nat} {w w' : World} (h : WTab w) (hb : Below B w w') (hB : w.heap.size ≤ B ∨ 0 < B) : WTab w' :=
  have hlt : 0 < B := by
    rcases hB with h1 | h1
    · exact Nat.lt_of_lt_of_le h.2.1 h1
    · exact h1
  have hs : 0 < w'.heap.size := Nat.lt_of_lt_of_le h.2.1 hb.size
  ⟨by omega, hs, fun i hi => (hb.cell (p := ⟨0, i, none⟩) hlt).trans (h.2.2 i hi)⟩
theorem WTab.on {w w' : World} (h : WTab w) (hb : Below w.heap.size w w') : WTab w' := h.below hb (.inl (Nat.le_refl _))
/-- How many bits the field k has. -/
def wid (k : Nat) : Nat := [8, 3, 2, 3, 8].getD k 0
theorem wid_of {k : Nat} (h : k < 5) : widL.getD k 0 = (wid k : Int) := by
  rcases five h with rfl | rfl | rfl | rfl | rfl <;> rfl
theorem wid_le {k : Nat} (h : k < 5) : wid k ≤ 8 := by
  rcases five h with rfl | rfl | rfl | rfl | rfl <;> decide
/-- The bits of the first k fields. -/
def bitsTo (c : CS) : Nat → List Bool
  | 0 => []
  | k + 1 => bitsTo c k ++ numBits (c.fld k).toNat (wid k)
theorem bitsTo_five (c : CS) : bitsTo c 5 = bitsOf c := by simp [bitsTo, bitsOf, CS.fld, wid]
theorem bitsTo_length (c : CS) : ∀ k, k ≤ 5 → (bitsTo c k).length ≤ 8 * k
  | 0, _ => by simp [bitsTo]
  | k + 1, h => by
    have := bitsTo_length c k (by omega)
    have := wid_le (k := k) (by omega)
    simp only [bitsTo, List.length_append, numBits_length]
    omega
theorem fld_lt {c : CS} (h : mayC c 8 = true) {k : Nat} (hk : k < 5) : 0 ≤ c.fld k ∧ (c.fld k).toNat < 2 ^ wid k := by
  have := (mayC_iff c 8).1 h k hk
  rcases five hk with rfl | rfl | rfl | rfl | rfl <;> simp [CS.fld, endsC, wid] at this ⊢ <;> omega
/-- One number more behind bits that are there. -/
theorem put_more4 (l : List Bool) (A : Option Addr) (n c : Nat) (bs : List UInt8) (v : Nat) (width : Nat) (w : World) (hn : n = bs.length) (his : IsBits l bs) (hl : l.length + width ≤ 4096) (hw : width ≤ 64) (hv : v < 2 ^ width) (hA : Byt w.heap.size w A bs) :
    Calls Tryd.prog 31 #[.agg #[.int .i64 l.length, .slice A n c], .int .u64 v, .int .i64 (width : Int)] w (Res w (0, l ++ numBits v width)) := by
  have h64 : v < 2 ^ 64 := Nat.lt_of_lt_of_le hv (Nat.pow_le_pow_right (by decide) hw)
  have h := put_any (l.length : Int) (width : Int) v A n c bs w hn (by rw [hn]; exact bytes_small his (by omega)) hA h64
  rw [put_more his (by omega), if_pos ⟨⟨by omega, by omega⟩, by rw [Int.toNat_natCast]; exact Nat.div_eq_of_lt hv⟩, if_neg (by omega), Int.toNat_natCast] at h
  exact h
theorem three_boxes (w : World) (T P Mo Nx Me : Int) :
    Blk ((w.alloc (.cells #[.int .i64 T, .int .i64 P, .int .i64 Mo, .int .i64 Nx, .int .i64 Me] 23)).alloc (.cells #[.int .i64 0, .slice none 0 0] 26)) w.heap.size 23 #[.int .i64 T, .int .i64 P, .int .i64 Mo, .int .i64 Nx, .int .i64 Me] ∧
    Blk ((w.alloc (.cells #[.int .i64 T, .int .i64 P, .int .i64 Mo, .int .i64 Nx, .int .i64 Me] 23)).alloc (.cells #[.int .i64 0, .slice none 0 0] 26)) (w.heap.size + 1) 26 #[.int .i64 0, .slice none 0 0] ∧
    Below w.heap.size w ((w.alloc (.cells #[.int .i64 T, .int .i64 P, .int .i64 Mo, .int .i64 Nx, .int .i64 Me] 23)).alloc (.cells #[.int .i64 0, .slice none 0 0] 26)) := by
  refine ⟨(Blk.new w _ _).alloc _, ?_, ((Below.refl _ _).alloc (Nat.le_refl _) _).alloc (by simp) _⟩
  simpa using Blk.new (w.alloc (.cells #[.int .i64 T, .int .i64 P, .int .i64 Mo, .int .i64 Nx, .int .i64 Me] 23)) 26 #[.int .i64 0, .slice none 0 0]

set_option maxRecDepth 8000 in
set_option maxHeartbeats 2000000 in
theorem bitsC_any (c : CS) (w : World) (hT : WTab w) : Calls Tryd.prog 7 #[.agg c.cells] w (Res w (bitsC c)) := by
  have hck := fun W => checkC_any c 8 W
  have hv := fun W => values_any c W
  by_cases hm : mayC c 8 = true
  · have hr : bitsC c = (0, bitsTo c 5) := by unfold bitsC; rw [if_pos hm, bitsTo_five]
    rw [hr]
    have hc0 : checkC c 8 = 0 := by unfold checkC; rw [if_neg (by omega), if_pos hm]
    rw [hc0] at hck
    have hfl := fun k (hk : k < 5) => fld_lt hm hk
    have hbl := bitsTo_length c
    clear hc0 hr hm
    have HFL := Lib.hid hfl; have HBL := Lib.hid hbl; clear hfl hbl
    obtain ⟨F, hF⟩ : ∃ F : Nat → Int, F = c.fld := ⟨_, rfl⟩
    obtain ⟨L, hL⟩ : ∃ L : Nat → List Bool, L = bitsTo c := ⟨_, rfl⟩
    have hLs : ∀ k, L (k + 1) = L k ++ numBits (F k).toNat (wid k) := fun k => by rw [hL, hF]; rfl
    have hL0 : L 0 = [] := by rw [hL]; rfl
    have hcel : ∀ k, k < 5 → c.cells[k]? = some (.int .i64 (F k)) := fun k hk => by rw [hF]; exact c.cells_at hk
    rw [← hF] at HFL
    rw [← hL] at HBL ⊢
    clear hF hL
    have HLS := Lib.hid hLs; have HL0 := Lib.hid hL0; have HCEL := Lib.hid hcel; clear hLs hL0 hcel
    obtain ⟨T, P, Mo, Nx, Me⟩ := c
    unfold CS.cells at *
    dsimp only at *
    obtain ⟨k1, k2, hB⟩ := three_boxes w T P Mo Nx Me
    have hg0 := hT.2.1
    have HCK := Lib.hid hck; have HV := Lib.hid hv; clear hck hv
    go_enter Tryd.func7, Tryd.ntmps7
    go_wp2_with fail
    refine (HCK.out _).mono ?_
    rintro e w1 ⟨rfl, hB1⟩
    dsimp only
    replace k1 := k1.on hB1
    replace k2 := k2.on hB1
    have b1 := hB.trans (hB1.mono hB.size)
    have hT1 := hT.below b1 (.inl (Nat.le_refl _))
    obtain ⟨⟨c0, c1, c2, c3, c4⟩, -⟩ := k1.five
    clear hB hB1 hT
    go_wp2_with fail
    refine (HV.out _).mono ?_
    rintro e w2 ⟨rfl, hB2⟩
    dsimp only
    replace k2 := k2.on hB2
    have b2 := b1.trans (hB2.mono b1.size)
    have hT2 := hT1.on hB2
    clear b1 hB2 hT1 k1 c0 c1 c2 c3 c4
    have k2lt := k2.lt
    have k4 : Blk ((w2.alloc (.cells #[.int .i64 T, .int .i64 P, .int .i64 Mo, .int .i64 Nx, .int .i64 Me] 52)).alloc (.cells #[.int .i64 0, .slice none 0 0] 26)) w2.heap.size 52 #[.int .i64 T, .int .i64 P, .int .i64 Mo, .int .i64 Nx, .int .i64 Me] := (Blk.new w2 _ _).alloc _
    have k5 : Blk ((w2.alloc (.cells #[.int .i64 T, .int .i64 P, .int .i64 Mo, .int .i64 Nx, .int .i64 Me] 52)).alloc (.cells #[.int .i64 0, .slice none 0 0] 26)) (w2.heap.size + 1) 26 #[.int .i64 0, .slice none 0 0] := by
      simpa using Blk.new (w2.alloc (.cells #[.int .i64 T, .int .i64 P, .int .i64 Mo, .int .i64 Nx, .int .i64 Me] 52)) 26 #[.int .i64 0, .slice none 0 0]
    have hb23 : Below w2.heap.size w2 ((w2.alloc (.cells #[.int .i64 T, .int .i64 P, .int .i64 Mo, .int .i64 Nx, .int .i64 Me] 52)).alloc (.cells #[.int .i64 0, .slice none 0 0] 26)) := ((Below.refl _ _).alloc (Nat.le_refl _) _).alloc (by simp) _
    have hb3 := b2.trans (hb23.mono b2.size)
    have hT3 := hT2.on hb23
    have k23 := k2.on hb23
    go_wp2_with fail
    clear hT2 k2 b2 hb23
    generalize (w2.alloc (.cells #[.int .i64 T, .int .i64 P, .int .i64 Mo, .int .i64 Nx, .int .i64 Me] 52)).alloc (.cells #[.int .i64 0, .slice none 0 0] 26) = w3 at *
    go_loopw [13] (fun i wr => ∃ (k : Nat) (A : Option Addr) (n c : Nat) (bs : List UInt8), k ≤ 5 ∧ i = .int .i64 k ∧ n = bs.length ∧ IsBits (L k) bs ∧ Byt wr.heap.size wr A bs ∧ Fresh (w2.heap.size + 2) A bs ∧ Blk wr w2.heap.size 52 #[.int .i64 T, .int .i64 P, .int .i64 Mo, .int .i64 Nx, .int .i64 Me] ∧ Blk wr (w2.heap.size + 1) 26 #[.int .i64 (L k).length, .slice A n c] ∧ Blk wr (w.heap.size + 1) 26 #[.int .i64 0, .slice none 0 0] ∧ WTab wr ∧ Below w.heap.size w wr)
      (fun i _ => 5 - (intOf i).toNat)
    case atStart => exact ⟨0, none, 0, 0, [], by omega, rfl, rfl, by rw [HL0.out]; exact isBits_nil, fun h => absurd rfl h, fun _ _ h => absurd rfl h, k4, by rw [HL0.out]; exact k5, k23, hT3, hb3⟩
    case round =>
      obtain ⟨k, A, n, c, bs, hk, rfl, hn, his, hA, hF, h4, h5, h2, hT, hB⟩ := hrel
      have HN := Lib.hid hn; have HI := Lib.hid his; clear hn his
      clear hb3 hT3 k23 k4 k5
      have h5lt := h5.lt
      by_cases hlt : k < 5
      · obtain ⟨v, hv⟩ := Int.eq_ofNat_of_zero_le (HFL.out k hlt).1
        have hvl : v < 2 ^ wid k := by have := (HFL.out k hlt).2; rw [hv] at this; simpa using this
        have hw8 := wid_le hlt
        have hw64 : v < 256 := Nat.lt_of_lt_of_le hvl (Nat.pow_le_pow_right (by decide) hw8)
        have hcF := h4.cell k
        rw [HCEL.out k hlt, hv] at hcF
        have hcW := hT.2.2 k hlt
        rw [wid_of hlt] at hcW
        have hk0 : (0 : Int) ≤ (k : Int) := by omega
        have hk1 : (k : Int) < 5 := by omega
        have hll := HBL.out k (by omega)
        have hp := put_more4 (L k) A n c bs v (wid k) wr.drew HN.out HI.out (by omega) (by omega) hvl hA
        have hls := HLS.out k
        rw [hv, Int.toNat_natCast] at hls
        rw [← hls] at hp
        have hlk := HBL.out (k + 1) (by omega)
        have HP := Lib.hid hp; have HLK := Lib.hid hlk; clear hp hls hvl hll hlk
        have HV2 := Lib.hid hv; clear hv
        generalize wid k = wk at *
        obtain ⟨r0, r1, q0, q1⟩ := h5.two
        have huw : IntKind.u64.wrap (v : Int) = (v : Int) := by rw [IntKind.wrap_u64]; omega
        have hBd : Below wr.heap.size wr wr.drew := (Below.refl _ _).drew
        go_wp2
        go_region_with (go_at_call 31; refine HP.out.mono ?_; rintro e w5 ⟨A5, n5, c5, bs5, rfl, hn5, his5, hle5, hA5, hB5', hF5⟩; have hB5 : Below wr.heap.size wr w5 := hBd.trans hB5'; obtain ⟨s0, s1, t0, t1⟩ := (h5.on hB5).two; have z5 := (h5.on hB5).lt; have HN5 := Lib.hid hn5; have HI5 := Lib.hid his5; clear hn5 his5; dsimp only at hle5 ⊢)
        all_goals
          have z2 : w.heap.size + 1 < wr.heap.size := h2.lt
          have zd : w2.heap.size + 1 < wr.drew.heap.size := h5lt
          go_wp2
          go_roundw
          case rel =>
            have e1 : w2.heap.size ≠ w2.heap.size + 1 := by omega
            have e2 : w.heap.size + 1 ≠ w2.heap.size + 1 := by omega
            refine ⟨k + 1, A5, n5, c5, bs5, by omega, by go_num, HN5.out, HI5.out, ?_, ?_, ((h4.on hB5).far (p := ⟨w2.heap.size + 1, 0, none⟩) e1 _).far (p := ⟨w2.heap.size + 1, 1, none⟩) e1 _, (h5.on hB5).put2 _ _, ((h2.on hB5).far (p := ⟨w2.heap.size + 1, 0, none⟩) e2 _).far (p := ⟨w2.heap.size + 1, 1, none⟩) e2 _, ?_, ?_⟩
            · simpa using (hA5.set_low hF5 (p := ⟨w2.heap.size + 1, 0, none⟩) zd _).set_low hF5 (p := ⟨w2.heap.size + 1, 1, none⟩) zd _
            · exact fun a h1 h2 => Nat.le_trans zd (hF5 a h1 h2)
            · exact hT.below (((hB5.mono hB.size).setCell (p := ⟨w2.heap.size + 1, 0, none⟩) (by simp; omega) _).setCell (p := ⟨w2.heap.size + 1, 1, none⟩) (by simp; omega) _) (.inr hg0)
            · exact ((hB.trans (hB5.mono hB.size)).setCell (p := ⟨w2.heap.size + 1, 0, none⟩) (by simp; omega) _).setCell (p := ⟨w2.heap.size + 1, 1, none⟩) (by simp; omega) _
          case measure => simp [intOf]; omega
      · obtain rfl : k = 5 := by omega
        obtain ⟨r0, r1, q0, q1⟩ := h5.two
        obtain ⟨s0, s1, t0, t1⟩ := h2.two
        have z2 := h2.lt
        have hl5 := HBL.out 5 (by omega)
        go_wp2
        have hres : Res w (0, L 5) (.returned (.tuple #[.agg #[.int .i64 (L 5).length, .slice A n c], .int .i64 0])) ((wr.setCell ⟨w.heap.size + 1, 0, none⟩ (.int .i64 (L 5).length)).setCell ⟨w.heap.size + 1, 1, none⟩ (.slice A n c)) :=
          ⟨A, n, c, bs, rfl, HN.out, HI.out, by dsimp only; omega, by simpa using (hA.set_low hF (p := ⟨w.heap.size + 1, 0, none⟩) (by simp; omega) _).set_low hF (p := ⟨w.heap.size + 1, 1, none⟩) (by simp; omega) _, (hB.setCell (p := ⟨w.heap.size + 1, 0, none⟩) (by simp) _).setCell (p := ⟨w.heap.size + 1, 1, none⟩) (by simp) _, fun a h1 h2 => Nat.le_trans (by omega) (hF a h1 h2)⟩
        exact bodyPost_ret (v := .tuple #[.agg #[.int .i64 (L 5).length, .slice A n c], .int .i64 0]) (by simp [results, Tryd.results7, go_sem, s0, s1]) rfl hres
  · have hr : bitsC c = (40, []) := by unfold bitsC; rw [if_neg hm]
    rw [hr]
    have hc0 : checkC c 8 = 40 := by unfold checkC; rw [if_neg (by omega), if_neg hm]
    rw [hc0] at hck
    clear hm hc0 hr hv
    obtain ⟨T, P, Mo, Nx, Me⟩ := c
    unfold CS.cells at *
    dsimp only at *
    obtain ⟨k1, k2, hB⟩ := three_boxes w T P Mo Nx Me
    have HCK := Lib.hid hck; clear hck
    go_enter Tryd.func7, Tryd.ntmps7
    go_wp2_with fail
    refine (HCK.out _).mono ?_
    rintro e w1 ⟨rfl, hB1⟩
    replace k2 := k2.on hB1
    have b1 := hB.trans (hB1.mono hB.size)
    obtain ⟨r0, r1, q0, q1⟩ := k2.two
    have z2 := k2.lt
    clear hB hB1 k1
    go_wp2
    exact bodyPost_ret (v := .tuple #[.agg #[.int .i64 0, .slice none 0 0], .int .i64 40]) (by simp [results, Tryd.results7, go_sem, r0, r1]) rfl
      (res_err 40 ((b1.setCell (p := ⟨w.heap.size + 1, 0, none⟩) (by simp) _).setCell (p := ⟨w.heap.size + 1, 1, none⟩) (by simp) _))
end Go.Proofs.YteigekhfamapmaaDoor
