/-
  Parse of package cstate answers as the document says. Condition: the array of widths holds what the program's text lays.
-/
import Derived.Test.YteigekhfamapmaaDoorB8
namespace Go.Proofs.YteigekhfamapmaaDoor
open Go.RowKit

/-- Where the field k begins. -/
def atW (k : Nat) : Nat := [0, 8, 11, 13, 16, 24].getD k 0
theorem atW_next {k : Nat} (h : k < 5) : atW (k + 1) = atW k + wid k := by
  rcases five h with rfl | rfl | rfl | rfl | rfl <;> rfl
theorem atW_le {k : Nat} (h : k < 5) : atW k + wid k ≤ 24 := by
  rcases five h with rfl | rfl | rfl | rfl | rfl <;> decide
/-- The number that the field k holds. -/
def partF (L : List Bool) (k : Nat) : Nat := numOf ((L.drop (atW k)).take (wid k))
theorem partF_lt (L : List Bool) {k : Nat} (h : k < 5) : partF L k < 256 := by
  have h1 := numOf_lt ((L.drop (atW k)).take (wid k))
  have h2 : ((L.drop (atW k)).take (wid k)).length ≤ 8 := Nat.le_trans (List.length_take_le _ _) (wid_le h)
  exact Nat.lt_of_lt_of_le h1 (Nat.pow_le_pow_right (by decide) h2)
/-- The fields. -/
def fieldsOf (L : List Bool) : CS := ⟨partF L 0, partF L 1, partF L 2, partF L 3, partF L 4⟩
/-- Parse, by the document. -/
def readC (N : Int) (bs : List UInt8) : Int × CS :=
  if goodB N bs = true then
    if N = 24 then if mayC (fieldsOf (listOf N bs)) 8 = true then (0, fieldsOf (listOf N bs)) else (40, zeroC)
    else (40, zeroC)
  else (10, zeroC)
theorem get_part {bs : List UInt8} (h : goodB 24 bs = true) {k : Nat} (hk : k < 5) : getS 24 bs (atW k : Int) (wid k : Int) = (0, partF (listOf 24 bs) k) := by
  have h1 := atW_le hk
  unfold getS
  rw [if_pos h, if_pos (by omega), Int.toNat_natCast, Int.toNat_natCast]
  rfl
/-- What is read, up to the field k. -/
def heldC (F : Nat → Nat) (k : Nat) : Array Value := #[.int .i64 (if 0 < k then (F 0 : Int) else 0), .int .i64 (if 1 < k then (F 1 : Int) else 0), .int .i64 (if 2 < k then (F 2 : Int) else 0), .int .i64 (if 3 < k then (F 3 : Int) else 0), .int .i64 (if 4 < k then (F 4 : Int) else 0)]
theorem heldC_zero (F : Nat → Nat) : heldC F 0 = #[.int .i64 0, .int .i64 0, .int .i64 0, .int .i64 0, .int .i64 0] := by simp [heldC]
theorem heldC_five (F : Nat → Nat) : heldC F 5 = #[.int .i64 (F 0), .int .i64 (F 1), .int .i64 (F 2), .int .i64 (F 3), .int .i64 (F 4)] := by simp [heldC]
theorem heldC_next (F : Nat → Nat) {k : Nat} (h : k < 5) : (heldC F k).setIfInBounds k (.int .i64 (F k)) = heldC F (k + 1) := by
  rcases five h with rfl | rfl | rfl | rfl | rfl <;> simp [heldC]
theorem heldC_at (F : Nat → Nat) {k : Nat} (h : k < 5) : (heldC F k)[k]? = some (.int .i64 0) := by
  rcases five h with rfl | rfl | rfl | rfl | rfl <;> simp [heldC]

theorem boxes_read (w : World) (N : Int) (A : Option Addr) (n c : Nat) :
    Blk ((w.alloc (.cells #[.int .i64 N, .slice A n c] 26)).alloc (.cells #[.int .i64 0, .int .i64 0, .int .i64 0, .int .i64 0, .int .i64 0] 23)) w.heap.size 26 #[.int .i64 N, .slice A n c] ∧
    Blk ((w.alloc (.cells #[.int .i64 N, .slice A n c] 26)).alloc (.cells #[.int .i64 0, .int .i64 0, .int .i64 0, .int .i64 0, .int .i64 0] 23)) (w.heap.size + 1) 23 #[.int .i64 0, .int .i64 0, .int .i64 0, .int .i64 0, .int .i64 0] ∧
    Below w.heap.size w ((w.alloc (.cells #[.int .i64 N, .slice A n c] 26)).alloc (.cells #[.int .i64 0, .int .i64 0, .int .i64 0, .int .i64 0, .int .i64 0] 23)) := by
  refine ⟨(Blk.new w _ _).alloc _, ?_, ((Below.refl _ _).alloc (Nat.le_refl _) _).alloc (by simp) _⟩
  simpa using Blk.new (w.alloc (.cells #[.int .i64 N, .slice A n c] 26)) 23 #[.int .i64 0, .int .i64 0, .int .i64 0, .int .i64 0, .int .i64 0]

set_option maxRecDepth 8000 in
set_option maxHeartbeats 4000000 in
theorem readC_any (N : Int) (A : Option Addr) (n c : Nat) (bs : List UInt8) (w : World) (hn : n = bs.length) (hm : n ≤ maxLen) (hA : Byt w.heap.size w A bs) (hT : WTab w) :
    Calls Tryd.prog 9 #[.agg #[.int .i64 N, .slice A n c]] w (ResC w (readC N bs)) := by
  have hck := fun (W : World) (h : Below w.heap.size w W) => check_any N A n c bs W hn hm (hA.on h)
  have hgt := fun (W : World) (h : Below w.heap.size w W) (k : Nat) => get_any N (atW k) (wid k) A n c bs W hn hm (hA.on h)
  obtain ⟨k1, k2, hB⟩ := boxes_read w N A n c
  have hg0 := hT.2.1
  have HTT := Lib.hid hT; clear hT
  by_cases hgd : goodB N bs = true
  · rw [chk_yes hgd] at hck
    by_cases hN : N = 24
    · subst hN
      have hgt' : ∀ W, Below w.heap.size w W → ∀ k, k < 5 → Calls Tryd.prog 34 #[.agg #[.int .i64 24, .slice A n c], .int .i64 (atW k), .int .i64 (wid k)] W fun e w' => e = .returned (.tuple #[.int .u64 (partF (listOf 24 bs) k : Nat), .int .i64 0]) ∧ Below W.heap.size W w' := by
        intro W h k hk
        have := hgt W h k
        rw [get_part hgd hk] at this
        exact this
      have hso := fun W => stateOf_any (fieldsOf (listOf 24 bs)) W
      have hch := fun W => checkC_any (fieldsOf (listOf 24 bs)) 8 W
      have hp := fun k (hk : k < 5) => partF_lt (listOf 24 bs) hk
      have hr : readC 24 bs = if mayC (fieldsOf (listOf 24 bs)) 8 = true then (0, fieldsOf (listOf 24 bs)) else (40, zeroC) := by unfold readC; rw [if_pos hgd, if_pos rfl]
      rw [hr]
      clear hr hgt hgd
      obtain ⟨F, hF⟩ : ∃ F, F = partF (listOf 24 bs) := ⟨_, rfl⟩
      have hf : fieldsOf (listOf 24 bs) = ⟨F 0, F 1, F 2, F 3, F 4⟩ := by rw [hF]; rfl
      rw [hf] at hso hch ⊢
      rw [← hF] at hgt' hp
      clear hf hF
      unfold CS.cells at hso hch
      dsimp only at hso hch
      have HCK := Lib.hid hck; have HGT := Lib.hid hgt'; have HSO := Lib.hid hso; have HCH := Lib.hid hch; have HP := Lib.hid hp
      clear hck hgt' hso hch hp hn hm hA
      obtain ⟨R, hR⟩ : ∃ R, R = (if mayC ⟨F 0, F 1, F 2, F 3, F 4⟩ 8 = true then (0, (⟨F 0, F 1, F 2, F 3, F 4⟩ : CS)) else (40, zeroC) : Int × CS) := ⟨_, rfl⟩
      rw [← hR]
      have HR := Lib.hid hR; clear hR
      go_enter Tryd.func9, Tryd.ntmps9
      go_wp2_with fail
      refine (HCK.out _ hB).mono ?_
      rintro e w1 ⟨rfl, hB1⟩
      dsimp only
      replace k1 := k1.on hB1
      replace k2 := k2.on hB1
      have b1 := hB.trans (hB1.mono hB.size)
      clear hB hB1
      obtain ⟨r0, r1, -, -⟩ := k1.two
      have k4 := Blk.new w1 52 #[.int .i64 0, .int .i64 0, .int .i64 0, .int .i64 0, .int .i64 0]
      have hal := Below.al w1 (.cells #[.int .i64 0, .int .i64 0, .int .i64 0, .int .i64 0, .int .i64 0] 52)
      have z2 := k2.lt
      have k14 := k1.on hal
      have k24 := k2.on hal
      have b4 := b1.trans (hal.mono b1.size)
      have hT4 := HTT.out.on b4
      go_wp2_with fail
      clear k1 k2 r0 r1 b1 hal
      generalize w1.alloc (.cells #[.int .i64 0, .int .i64 0, .int .i64 0, .int .i64 0, .int .i64 0] 52) = w4 at *
      generalize w1.heap.size = g4 at *
      go_loopw [5, 18] (fun a i wr => ∃ k : Nat, k ≤ 5 ∧ a = .int .i64 (atW k) ∧ i = .int .i64 k ∧ Blk wr g4 52 (heldC F k) ∧ Blk wr w.heap.size 26 #[.int .i64 24, .slice A n c] ∧ Blk wr (w.heap.size + 1) 23 #[.int .i64 0, .int .i64 0, .int .i64 0, .int .i64 0, .int .i64 0] ∧ WTab wr ∧ Below w.heap.size w wr)
        (fun _ i _ => 5 - (intOf i).toNat)
      case atStart => exact ⟨0, by omega, rfl, rfl, by rw [heldC_zero]; exact k4, k14, k24, hT4, b4⟩
      case round =>
        obtain ⟨k, hk, rfl, rfl, h4, h1, h2, hT, hB⟩ := hrel
        clear k4 k14 k24 hT4 b4
        by_cases hlt : k < 5
        · obtain ⟨v, hv⟩ : ∃ v, v = F k := ⟨_, rfl⟩
          have hv8 := HP.out k hlt
          rw [← hv] at hv8
          have hcW := hT.2.2 k hlt
          rw [wid_of hlt] at hcW
          have hk0 : (0 : Int) ≤ (k : Int) := by omega
          have hk1 : (k : Int) < 5 := by omega
          have hdr : Below wr.heap.size wr wr.drew := (Below.refl _ _).drew
          have bd := hB.trans (hdr.mono hB.size)
          have hg := HGT.out wr.drew bd k hlt
          rw [← hv] at hg
          have haw := atW_next hlt
          have hal := atW_le hlt
          have hiw : IntKind.i64.wrap (v : Int) = (v : Int) := IntWalk.i64_in _ (by omega)
          have hsw : IntKind.i64.wrap ((atW k : Int) + (wid k : Int)) = (atW (k + 1) : Int) := by rw [haw, IntWalk.i64_in _ (by omega)]; simp
          have HG := Lib.hid hg; have HVE := Lib.hid hv; clear hg hv haw
          generalize hwk : wid k = wk at *
          generalize hak : atW k = ak at *
          generalize hak' : atW (k + 1) = ak' at *
          obtain ⟨r0, r1, -, -⟩ := h1.two
          go_wp2_with fail
          go_region_with (go_at_call 34; refine HG.out.mono ?_; rintro e w5 ⟨rfl, hB5'⟩; have hB5 : Below wr.heap.size wr w5 := hdr.trans hB5'; dsimp only)
          all_goals
            have z4 := h4.lt
            have z2' := h2.lt
            replace h4 := h4.on hB5; replace h1 := h1.on hB5; replace h2 := h2.on hB5
            have hT5 := hT.on hB5
            have b5 := hB.trans (hB5.mono hB.size)
            have c4 := h4.cell k
            rw [heldC_at F hlt] at c4
            have f4 := h4.frozen k
            have hcW5 := hT5.2.2 k hlt
            rw [wid_of hlt, hwk] at hcW5
            have y4 := h4.lt
            have hgne : 0 ≠ g4 := by omega
            go_wp2
            refine ⟨⟨k + 1, by omega, by rw [hak'], by simp, ?_, h1.far (p := ⟨g4, k, none⟩) (by simp; omega) _, h2.far (p := ⟨g4, k, none⟩) (by simp; omega) _, hT5.below ((Below.refl w.heap.size w5).setCell (p := ⟨g4, k, none⟩) (by simp; omega) _) (.inr hg0), b5.setCell (p := ⟨g4, k, none⟩) (by simp; omega) _⟩, by simp [intOf]; omega⟩
            have := h4.set_ k (.int .i64 (F k))
            rw [heldC_next F hlt, ← HVE.out] at this
            exact this
        · obtain rfl : k = 5 := by omega
          rw [heldC_five] at h4
          obtain ⟨⟨c0, c1, c2, c3, c4⟩, -⟩ := h4.five
          clear HTT HCK HGT HP
          generalize (F 0 : Int) = f0 at *
          generalize (F 1 : Int) = f1 at *
          generalize (F 2 : Int) = f2 at *
          generalize (F 3 : Int) = f3 at *
          generalize (F 4 : Int) = f4 at *
          go_wp2_with fail
          refine (HSO.out _).mono ?_
          rintro e w5 ⟨rfl, hB5⟩
          dsimp only
          clear h4 h1 c0 c1 c2 c3 c4
          replace h2 := h2.on hB5
          have b5 := hB.trans (hB5.mono hB.size)
          have k9 := Blk.new w5 23 #[.int .i64 f0, .int .i64 f1, .int .i64 f2, .int .i64 f3, .int .i64 f4]
          have hal := Below.al w5 (.cells #[.int .i64 f0, .int .i64 f1, .int .i64 f2, .int .i64 f3, .int .i64 f4] 23)
          have z2' := h2.lt
          replace h2 := h2.on hal
          replace b5 := b5.trans (hal.mono b5.size)
          clear hal hB5
          go_wp2_with fail
          generalize w5.alloc (.cells #[.int .i64 f0, .int .i64 f1, .int .i64 f2, .int .i64 f3, .int .i64 f4] 23) = w6 at *
          generalize w5.heap.size = g9 at *
          by_cases hmay : mayC ⟨f0, f1, f2, f3, f4⟩ 8 = true
          · have hc0 : checkC ⟨f0, f1, f2, f3, f4⟩ 8 = 0 := by unfold checkC; rw [if_neg (by omega), if_pos hmay]
            rw [hc0] at HCH
            rw [if_pos hmay] at HR
            refine (HCH.out _).mono ?_
            rintro e w7 ⟨rfl, hB7⟩
            dsimp only
            replace h2 := h2.on hB7
            replace k9 := k9.on hB7
            have b7 := b5.trans (hB7.mono b5.size)
            obtain ⟨⟨c0, c1, c2, c3, c4⟩, -⟩ := k9.five
            obtain ⟨⟨d0, d1, d2, d3, d4⟩, g0, g1, g2, g3, g4⟩ := h2.five
            have z7 := h2.lt
            go_wp2
            exact bodyPost_ret (v := .tuple #[.agg #[.int .i64 f0, .int .i64 f1, .int .i64 f2, .int .i64 f3, .int .i64 f4], .int .i64 0]) (by simp [results, Tryd.results9, go_sem, d0, d1, d2, d3, d4]) rfl ⟨by rw [HR.out]; rfl, Below.put5 b7 (by omega) _ _ _ _ _⟩
          · have hc0 : checkC ⟨f0, f1, f2, f3, f4⟩ 8 = 40 := by unfold checkC; rw [if_neg (by omega), if_neg hmay]
            rw [hc0] at HCH
            rw [if_neg hmay] at HR
            refine (HCH.out _).mono ?_
            rintro e w7 ⟨rfl, hB7⟩
            dsimp only
            replace h2 := h2.on hB7
            have b7 := b5.trans (hB7.mono b5.size)
            obtain ⟨⟨d0, d1, d2, d3, d4⟩, g0, g1, g2, g3, g4⟩ := h2.five
            have z7 := h2.lt
            go_wp2
            exact bodyPost_ret (v := .tuple #[.agg #[.int .i64 0, .int .i64 0, .int .i64 0, .int .i64 0, .int .i64 0], .int .i64 40]) (by simp [results, Tryd.results9, go_sem, d0, d1, d2, d3, d4]) rfl ⟨by rw [HR.out]; rfl, Below.put5 b7 (by omega) _ _ _ _ _⟩
    · have hr : readC N bs = (40, zeroC) := by unfold readC; rw [if_pos hgd, if_neg hN]
      rw [hr]
      have dN : (N == 24) = false := by simpa using hN
      have HCK := Lib.hid hck
      clear hck hgt hn hm hA hr hgd HTT
      go_enter Tryd.func9, Tryd.ntmps9
      go_wp2_with fail
      refine (HCK.out _ hB).mono ?_
      rintro e w1 ⟨rfl, hB1⟩
      dsimp only
      replace k1 := k1.on hB1
      replace k2 := k2.on hB1
      have b1 := hB.trans (hB1.mono hB.size)
      obtain ⟨r0, r1, -, -⟩ := k1.two
      obtain ⟨⟨d0, d1, d2, d3, d4⟩, g0, g1, g2, g3, g4⟩ := k2.five
      have z2 := k2.lt
      clear hB hB1
      go_wp2
      exact bodyPost_ret (v := .tuple #[.agg #[.int .i64 0, .int .i64 0, .int .i64 0, .int .i64 0, .int .i64 0], .int .i64 40]) (by simp [results, Tryd.results9, go_sem, d0, d1, d2, d3, d4]) rfl ⟨rfl, Below.put5 b1 (by omega) _ _ _ _ _⟩
  · have hr : readC N bs = (10, zeroC) := by unfold readC; rw [if_neg hgd]
    rw [hr]
    have hgf : goodB N bs = false := by simpa using hgd
    rw [chk_no hgf] at hck
    have HCK := Lib.hid hck
    clear hck hgt hn hm hA hr hgd hgf HTT
    go_enter Tryd.func9, Tryd.ntmps9
    go_wp2_with fail
    refine (HCK.out _ hB).mono ?_
    rintro e w1 ⟨rfl, hB1⟩
    dsimp only
    replace k2 := k2.on hB1
    have b1 := hB.trans (hB1.mono hB.size)
    obtain ⟨⟨d0, d1, d2, d3, d4⟩, g0, g1, g2, g3, g4⟩ := k2.five
    have z2 := k2.lt
    clear hB hB1
    go_wp2
    exact bodyPost_ret (v := .tuple #[.agg #[.int .i64 0, .int .i64 0, .int .i64 0, .int .i64 0, .int .i64 0], .int .i64 10]) (by simp [results, Tryd.results9, go_sem, d0, d1, d2, d3, d4]) rfl ⟨rfl, Below.put5 b1 (by omega) _ _ _ _ _⟩
end Go.Proofs.YteigekhfamapmaaDoor
