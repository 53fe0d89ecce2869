/-
  The document's Parse of package cstate. No condition but that the bytes can be read.
-/
import Derived.Test.YteigekhfamapmaaDoorBA
import Derived.Deep.RegionHeld3
namespace Go.Proofs.YteigekhfamapmaaDoor
open Go.RowKit

set_option maxRecDepth 8000 in
set_option maxHeartbeats 1000000 in
theorem rfield_any (k : Nat) (hk : k < 5) (A : Option Addr) (n c : Nat) (bs : List UInt8) (w : World) (hn : n = bs.length) (hm : n ≤ maxLen) (hA : Byt w.heap.size w A bs) (hg : goodB 24 bs = true) :
    Calls Tryd.prog 37 #[.agg #[.int .i64 24, .slice A n c], .int .i64 (atW k), .int .i64 (wid k)] w fun e w' => e = .returned (.int .i64 (partF (listOf 24 bs) k)) ∧ Below w.heap.size w w' := by
  have hal := Below.al w (.cells #[.int .i64 24, .slice A n c] 26)
  have hgt := rget_any 24 (atW k) (wid k) A n c bs _ hn hm (hA.on hal)
  rw [get_part hg hk] at hgt
  have hp := partF_lt (listOf 24 bs) hk
  generalize partF (listOf 24 bs) k = v at *
  have hiw : IntKind.i64.wrap (v : Int) = (v : Int) := IntWalk.i64_in _ (by omega)
  unfold Num at hgt
  have HG := Lib.hid hgt; clear hgt hA hn
  generalize atW k = ak at *
  generalize wid k = wk at *
  go_enter Tryd.func37, Tryd.ntmps37
  go_wp2_with fail
  refine HG.out.mono ?_
  rintro e w1 ⟨rfl, hB1⟩
  dsimp only
  go_wp2
  go_ret
  exact ⟨rfl, hal.trans (hB1.mono hal.size)⟩

theorem keepB {w0 w : World} {N : Int} {A : Option Addr} {n c : Nat} (h : Blk w w0.heap.size 26 #[.int .i64 N, .slice A n c]) : w.cell? ⟨w0.heap.size, 0, none⟩ = some (.int .i64 N) ∧ w.cell? ⟨w0.heap.size, 1, none⟩ = some (.slice A n c) := by
  obtain ⟨a, b, -, -⟩ := h.two
  exact ⟨a, b⟩
theorem keepA {w0 w : World} {N : Int} {A : Option Addr} {n c : Nat} (h : Blk w w0.heap.size 26 #[.int .i64 N, .slice A n c]) {o : Obj} : (w.alloc o).cell? ⟨w0.heap.size, 0, none⟩ = some (.int .i64 N) ∧ (w.alloc o).cell? ⟨w0.heap.size, 1, none⟩ = some (.slice A n c) := by
  obtain ⟨a, b, -, -⟩ := (h.alloc o).two
  exact ⟨a, b⟩

set_option maxRecDepth 8000 in
set_option maxHeartbeats 4000000 in
theorem rreadC_any (N : Int) (A : Option Addr) (n c : Nat) (bs : List UInt8) (w : World) (hn : n = bs.length) (hm : n ≤ maxLen) (hA : Byt w.heap.size w A bs) :
    Calls Tryd.prog 10 #[.agg #[.int .i64 N, .slice A n c]] w (ResC w (readC N bs)) := by
  have hck := fun (W : World) (h : Below w.heap.size w W) => rcheck_any N A n c bs W hn hm (hA.on h)
  obtain ⟨k1, k2, hB⟩ := boxes_read w N A n c
  by_cases hgd : goodB N bs = true
  · rw [chk_yes hgd] at hck
    by_cases hN : N = 24
    · subst hN
      have hf := fun (k : Nat) (hk : k < 5) (W : World) (h : Below w.heap.size w W) => rfield_any k hk A n c bs W hn hm (hA.on h) hgd
      have hch := fun W => rcheckC_any (fieldsOf (listOf 24 bs)) 8 W
      have hr : readC 24 bs = if mayC (fieldsOf (listOf 24 bs)) 8 = true then (0, fieldsOf (listOf 24 bs)) else (40, zeroC) := by unfold readC; rw [if_pos hgd, if_pos rfl]
      rw [hr]
      clear hr hgd
      obtain ⟨F, hF⟩ : ∃ F, F = partF (listOf 24 bs) := ⟨_, rfl⟩
      have hff : fieldsOf (listOf 24 bs) = ⟨F 0, F 1, F 2, F 3, F 4⟩ := by rw [hF]; rfl
      rw [hff] at hch ⊢
      rw [← hF] at hf
      clear hff hF
      unfold CS.cells at hch
      dsimp only at hch
      have f0 : ∀ W, Below w.heap.size w W → Calls Tryd.prog 37 #[.agg #[.int .i64 24, .slice A n c], .int .i64 0, .int .i64 8] W fun e w' => e = .returned (.int .i64 (F 0 : Int)) ∧ Below W.heap.size W w' := hf 0 (by decide)
      have f1 : ∀ W, Below w.heap.size w W → Calls Tryd.prog 37 #[.agg #[.int .i64 24, .slice A n c], .int .i64 8, .int .i64 3] W fun e w' => e = .returned (.int .i64 (F 1 : Int)) ∧ Below W.heap.size W w' := hf 1 (by decide)
      have f2 : ∀ W, Below w.heap.size w W → Calls Tryd.prog 37 #[.agg #[.int .i64 24, .slice A n c], .int .i64 11, .int .i64 2] W fun e w' => e = .returned (.int .i64 (F 2 : Int)) ∧ Below W.heap.size W w' := hf 2 (by decide)
      have f3 : ∀ W, Below w.heap.size w W → Calls Tryd.prog 37 #[.agg #[.int .i64 24, .slice A n c], .int .i64 13, .int .i64 3] W fun e w' => e = .returned (.int .i64 (F 3 : Int)) ∧ Below W.heap.size W w' := hf 3 (by decide)
      have f4 : ∀ W, Below w.heap.size w W → Calls Tryd.prog 37 #[.agg #[.int .i64 24, .slice A n c], .int .i64 16, .int .i64 8] W fun e w' => e = .returned (.int .i64 (F 4 : Int)) ∧ Below W.heap.size W w' := hf 4 (by decide)
      have F0 := Lib.hid f0; have F1 := Lib.hid f1; have F2 := Lib.hid f2; have F3 := Lib.hid f3; have F4 := Lib.hid f4
      have HCK := Lib.hid hck; have HCH := Lib.hid hch
      clear hck hch hf f0 f1 f2 f3 f4 hn hm hA
      obtain ⟨R, hR⟩ : ∃ R, R = (if mayC ⟨F 0, F 1, F 2, F 3, F 4⟩ 8 = true then (0, (⟨F 0, F 1, F 2, F 3, F 4⟩ : CS)) else (40, zeroC) : Int × CS) := ⟨_, rfl⟩
      rw [← hR]
      have HR := Lib.hid hR; clear hR
      go_enter Tryd.func10, Tryd.ntmps10
      go_wp2_with fail
      refine (HCK.out _ hB).mono ?_
      rintro e w1 ⟨rfl, hB1⟩
      dsimp only
      replace k1 := k1.on hB1
      replace k2 := k2.on hB1
      have b1 := hB.trans (hB1.mono hB.size)
      clear hB hB1
      obtain ⟨r0, r1, -, -⟩ := k1.two
      have hdr : Below w1.heap.size w1 w1.drew := (Below.refl _ _).drew
      have halA := (Below.al w1 (.cells #[.int .i64 0, .int .i64 0, .int .i64 0, .int .i64 0, .int .i64 0] 23)).drew
      have bA := b1.trans (halA.mono b1.size)
      have kA1 := k1.on halA
      have kA2 := k2.on halA
      have gA0 := k1.lt
      have gA1 := Nat.ne_of_lt gA0
      have gA2 := Nat.ne_of_lt k2.lt
      have kaA : Blk (w1.alloc (.cells #[.int .i64 0, .int .i64 0, .int .i64 0, .int .i64 0, .int .i64 0] 23)).drew w1.heap.size 23 #[.int .i64 0, .int .i64 0, .int .i64 0, .int .i64 0, .int .i64 0] := (Blk.new w1 23 #[.int .i64 0, .int .i64 0, .int .i64 0, .int .i64 0, .int .i64 0]).drew
      clear halA
      have kc := k1.on hdr
      replace k2 := k2.on hdr
      have bc := b1.trans (hdr.mono b1.size)
      clear hdr b1 k1
      go_wp2_with fail
      go_region_held3 (fun w' => w'.cell? ⟨w.heap.size, 0, none⟩ = some (.int .i64 24) ∧ w'.cell? ⟨w.heap.size, 1, none⟩ = some (.slice A n c))
        (first | with_reducible exact keepB kc | with_reducible exact keepB kA1 | with_reducible exact keepA kc | with_reducible exact keepB (kc.far5 gne _ _ _ _ _) | with_reducible exact keepB ((kc.alloc _).far5 (Nat.ne_of_lt kc.lt) _ _ _ _ _))
        (first
      | (go_at_call 37; with_reducible refine (F0.out _ bA).mono ?_; rintro e v0 ⟨rfl, hC⟩; have glt := gA0; have gne := gA1; have g2ne := gA2; have ka := kaA.on hC; replace kc := kA1.on hC; replace k2 := kA2.on hC; replace bc := bA.trans (hC.mono bA.size); clear hC; obtain ⟨⟨a0, a1, a2, a3, a4⟩, e0, e1, e2, e3, e4⟩ := ka.five)
      | (go_at_call 37; with_reducible refine (F0.out _ bc).mono ?_; rintro e v0 ⟨rfl, hC⟩; (try replace ka := ka.on hC); replace kc := kc.on hC; replace k2 := k2.on hC; replace bc := bc.trans (hC.mono bc.size); clear hC; (try obtain ⟨⟨a0, a1, a2, a3, a4⟩, e0, e1, e2, e3, e4⟩ := ka.five))
      | (go_at_call 37; with_reducible refine (F0.out _ (bc.alloc bc.size _)).mono ?_; rintro e v0 ⟨rfl, hC⟩; have glt := kc.lt; have gne := Nat.ne_of_lt glt; have g2ne := Nat.ne_of_lt k2.lt; have ka := (Blk.new _ 23 #[.int .i64 0, .int .i64 0, .int .i64 0, .int .i64 0, .int .i64 0]).on hC; replace kc := (kc.alloc _).on hC; replace k2 := (k2.alloc _).on hC; replace bc := (bc.alloc bc.size _).trans (hC.mono (bc.alloc bc.size _).size); clear hC; obtain ⟨⟨a0, a1, a2, a3, a4⟩, e0, e1, e2, e3, e4⟩ := ka.five)
      | (go_at_call 37; with_reducible refine (F1.out _ bc).mono ?_; rintro e v1 ⟨rfl, hC⟩; (try replace ka := ka.on hC); replace kc := kc.on hC; replace k2 := k2.on hC; replace bc := bc.trans (hC.mono bc.size); clear hC; (try obtain ⟨⟨a0, a1, a2, a3, a4⟩, e0, e1, e2, e3, e4⟩ := ka.five))
      | (go_at_call 37; with_reducible refine (F1.out _ (bc.alloc bc.size _)).mono ?_; rintro e v1 ⟨rfl, hC⟩; have glt := kc.lt; have gne := Nat.ne_of_lt glt; have g2ne := Nat.ne_of_lt k2.lt; have ka := (Blk.new _ 23 #[.int .i64 0, .int .i64 0, .int .i64 0, .int .i64 0, .int .i64 0]).on hC; replace kc := (kc.alloc _).on hC; replace k2 := (k2.alloc _).on hC; replace bc := (bc.alloc bc.size _).trans (hC.mono (bc.alloc bc.size _).size); clear hC; obtain ⟨⟨a0, a1, a2, a3, a4⟩, e0, e1, e2, e3, e4⟩ := ka.five)
      | (go_at_call 37; with_reducible refine (F2.out _ bc).mono ?_; rintro e v2 ⟨rfl, hC⟩; (try replace ka := ka.on hC); replace kc := kc.on hC; replace k2 := k2.on hC; replace bc := bc.trans (hC.mono bc.size); clear hC; (try obtain ⟨⟨a0, a1, a2, a3, a4⟩, e0, e1, e2, e3, e4⟩ := ka.five))
      | (go_at_call 37; with_reducible refine (F2.out _ (bc.alloc bc.size _)).mono ?_; rintro e v2 ⟨rfl, hC⟩; have glt := kc.lt; have gne := Nat.ne_of_lt glt; have g2ne := Nat.ne_of_lt k2.lt; have ka := (Blk.new _ 23 #[.int .i64 0, .int .i64 0, .int .i64 0, .int .i64 0, .int .i64 0]).on hC; replace kc := (kc.alloc _).on hC; replace k2 := (k2.alloc _).on hC; replace bc := (bc.alloc bc.size _).trans (hC.mono (bc.alloc bc.size _).size); clear hC; obtain ⟨⟨a0, a1, a2, a3, a4⟩, e0, e1, e2, e3, e4⟩ := ka.five)
      | (go_at_call 37; with_reducible refine (F3.out _ bc).mono ?_; rintro e v3 ⟨rfl, hC⟩; (try replace ka := ka.on hC); replace kc := kc.on hC; replace k2 := k2.on hC; replace bc := bc.trans (hC.mono bc.size); clear hC; (try obtain ⟨⟨a0, a1, a2, a3, a4⟩, e0, e1, e2, e3, e4⟩ := ka.five))
      | (go_at_call 37; with_reducible refine (F3.out _ (bc.alloc bc.size _)).mono ?_; rintro e v3 ⟨rfl, hC⟩; have glt := kc.lt; have gne := Nat.ne_of_lt glt; have g2ne := Nat.ne_of_lt k2.lt; have ka := (Blk.new _ 23 #[.int .i64 0, .int .i64 0, .int .i64 0, .int .i64 0, .int .i64 0]).on hC; replace kc := (kc.alloc _).on hC; replace k2 := (k2.alloc _).on hC; replace bc := (bc.alloc bc.size _).trans (hC.mono (bc.alloc bc.size _).size); clear hC; obtain ⟨⟨a0, a1, a2, a3, a4⟩, e0, e1, e2, e3, e4⟩ := ka.five)
      | (go_at_call 37; with_reducible refine (F4.out _ bc).mono ?_; rintro e v4 ⟨rfl, hC⟩; (try replace ka := ka.on hC); replace kc := kc.on hC; replace k2 := k2.on hC; replace bc := bc.trans (hC.mono bc.size); clear hC; (try obtain ⟨⟨a0, a1, a2, a3, a4⟩, e0, e1, e2, e3, e4⟩ := ka.five))
      | (go_at_call 37; with_reducible refine (F4.out _ (bc.alloc bc.size _)).mono ?_; rintro e v4 ⟨rfl, hC⟩; have glt := kc.lt; have gne := Nat.ne_of_lt glt; have g2ne := Nat.ne_of_lt k2.lt; have ka := (Blk.new _ 23 #[.int .i64 0, .int .i64 0, .int .i64 0, .int .i64 0, .int .i64 0]).on hC; replace kc := (kc.alloc _).on hC; replace k2 := (k2.alloc _).on hC; replace bc := (bc.alloc bc.size _).trans (hC.mono (bc.alloc bc.size _).size); clear hC; obtain ⟨⟨a0, a1, a2, a3, a4⟩, e0, e1, e2, e3, e4⟩ := ka.five))
      all_goals
        first
          | (have kb := ka.put5 (.int .i64 (F 0)) (.int .i64 (F 1)) (.int .i64 (F 2)) (.int .i64 (F 3)) (.int .i64 (F 4)); have k2b := k2.far5 g2ne (.int .i64 (F 0)) (.int .i64 (F 1)) (.int .i64 (F 2)) (.int .i64 (F 3)) (.int .i64 (F 4)); have bb := Below.put5 bc (Nat.le_of_lt glt) (.int .i64 (F 0)) (.int .i64 (F 1)) (.int .i64 (F 2)) (.int .i64 (F 3)) (.int .i64 (F 4)); clear ka a0 a1 a2 a3 a4 e0 e1 e2 e3 e4)
          | (have kb := Blk.new v4 23 #[.int .i64 (F 0), .int .i64 (F 1), .int .i64 (F 2), .int .i64 (F 3), .int .i64 (F 4)]; have k2b := k2.alloc (.cells #[.int .i64 (F 0), .int .i64 (F 1), .int .i64 (F 2), .int .i64 (F 3), .int .i64 (F 4)] 23); have bb := bc.alloc bc.size (.cells #[.int .i64 (F 0), .int .i64 (F 1), .int .i64 (F 2), .int .i64 (F 3), .int .i64 (F 4)] 23))
        clear F0 F1 F2 F3 F4 kc k2 bc bA kA1 kA2 gA0 gA1 gA2 kaA HCK r0 r1
        obtain ⟨⟨c0, c1, c2, c3, c4⟩, -⟩ := kb.five
        go_wp2_with fail
        by_cases hmay : mayC ⟨F 0, F 1, F 2, F 3, F 4⟩ 8 = true
        · have hc0 : checkC ⟨F 0, F 1, F 2, F 3, F 4⟩ 8 = 0 := by unfold checkC; rw [if_neg (by omega), if_pos hmay]
          rw [hc0] at HCH
          rw [if_pos hmay] at HR
          refine (HCH.out _).mono ?_
          rintro e w7 ⟨rfl, hB7⟩
          dsimp only
          replace k2b := k2b.on hB7
          replace kb := kb.on hB7
          have b7 := bb.trans (hB7.mono bb.size)
          clear c0 c1 c2 c3 c4 hB7 bb hmay
          obtain ⟨⟨c0, c1, c2, c3, c4⟩, -⟩ := kb.five
          obtain ⟨⟨d0, d1, d2, d3, d4⟩, g0, g1, g2, g3, g4⟩ := k2b.five
          have z7 := k2b.lt
          go_wp2
          exact bodyPost_ret (v := .tuple #[.agg #[.int .i64 (F 0), .int .i64 (F 1), .int .i64 (F 2), .int .i64 (F 3), .int .i64 (F 4)], .int .i64 0]) (by simp [results, Tryd.results10, go_sem, d0, d1, d2, d3, d4]) rfl ⟨by rw [HR.out]; rfl, Below.put5 b7 (by omega) _ _ _ _ _⟩
        · have hc0 : checkC ⟨F 0, F 1, F 2, F 3, F 4⟩ 8 = 40 := by unfold checkC; rw [if_neg (by omega), if_neg hmay]
          rw [hc0] at HCH
          rw [if_neg hmay] at HR
          refine (HCH.out _).mono ?_
          rintro e w7 ⟨rfl, hB7⟩
          dsimp only
          replace k2b := k2b.on hB7
          have b7 := bb.trans (hB7.mono bb.size)
          clear c0 c1 c2 c3 c4 hB7 bb hmay kb
          obtain ⟨⟨d0, d1, d2, d3, d4⟩, g0, g1, g2, g3, g4⟩ := k2b.five
          have z7 := k2b.lt
          go_wp2
          exact bodyPost_ret (v := .tuple #[.agg #[.int .i64 0, .int .i64 0, .int .i64 0, .int .i64 0, .int .i64 0], .int .i64 40]) (by simp [results, Tryd.results10, go_sem, d0, d1, d2, d3, d4]) rfl ⟨by rw [HR.out]; rfl, Below.put5 b7 (by omega) _ _ _ _ _⟩
    · have hr : readC N bs = (40, zeroC) := by unfold readC; rw [if_pos hgd, if_neg hN]
      rw [hr]
      have dN : (N == 24) = false := by simpa using hN
      have HCK := Lib.hid hck
      clear hck hn hm hA hr hgd
      go_enter Tryd.func10, Tryd.ntmps10
      go_wp2_with fail
      refine (HCK.out _ hB).mono ?_
      rintro e w1 ⟨rfl, hB1⟩
      dsimp only
      replace k1 := k1.on hB1
      replace k2 := k2.on hB1
      have b1 := hB.trans (hB1.mono hB.size)
      obtain ⟨r0, r1, -, -⟩ := k1.two
      obtain ⟨⟨d0, d1, d2, d3, d4⟩, g0, g1, g2, g3, g4⟩ := k2.five
      have z2 := k2.lt
      clear hB hB1
      go_wp2
      exact bodyPost_ret (v := .tuple #[.agg #[.int .i64 0, .int .i64 0, .int .i64 0, .int .i64 0, .int .i64 0], .int .i64 40]) (by simp [results, Tryd.results10, go_sem, d0, d1, d2, d3, d4]) rfl ⟨rfl, Below.put5 b1 (by omega) _ _ _ _ _⟩
  · have hr : readC N bs = (10, zeroC) := by unfold readC; rw [if_neg hgd]
    rw [hr]
    have hgf : goodB N bs = false := by simpa using hgd
    rw [chk_no hgf] at hck
    have HCK := Lib.hid hck
    clear hck hn hm hA hr hgd hgf
    go_enter Tryd.func10, Tryd.ntmps10
    go_wp2_with fail
    refine (HCK.out _ hB).mono ?_
    rintro e w1 ⟨rfl, hB1⟩
    dsimp only
    replace k2 := k2.on hB1
    have b1 := hB.trans (hB1.mono hB.size)
    obtain ⟨⟨d0, d1, d2, d3, d4⟩, g0, g1, g2, g3, g4⟩ := k2.five
    have z2 := k2.lt
    clear hB hB1
    go_wp2
    exact bodyPost_ret (v := .tuple #[.agg #[.int .i64 0, .int .i64 0, .int .i64 0, .int .i64 0, .int .i64 0], .int .i64 10]) (by simp [results, Tryd.results10, go_sem, d0, d1, d2, d3, d4]) rfl ⟨rfl, Below.put5 b1 (by omega) _ _ _ _ _⟩
end Go.Proofs.YteigekhfamapmaaDoor
