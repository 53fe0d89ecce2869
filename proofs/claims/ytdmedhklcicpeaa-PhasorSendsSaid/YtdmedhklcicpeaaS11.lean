/-
  PhasorSends returns true and leaves all memory that was there as it was, for all bits, strengths and numbers. Condition: bytes that can be read.
-/
import Derived.Test.YtdmedhklcicpeaaS10
import Derived.Test.YtdmedhklcicpeaaW3
namespace Go.Proofs.Ytdmedhklcicpeaa
open Go.RowKit

set_option maxRecDepth 4000 in
set_option maxHeartbeats 400000 in
theorem air2_any (n : Int) (w : World) : Calls Try.prog 14 #[.int .i64 n] w fun e w' => e = .returned (.int .i64 (airS n)) ∧ w = w' := by
  unfold airS
  by_cases h0 : n < 0
  · rw [if_pos (.inl h0)]
    have hd : decide (n < 0) = true := by simpa using h0
    go_enter Try.func14, Try.ntmps14
    go_wp2
    go_ret
    exact ⟨rfl, rfl⟩
  · have hd : decide (n < 0) = false := by simpa using h0
    by_cases h1 : 4095 < n
    · rw [if_pos (.inr h1)]
      have hd1 : decide (4095 < n) = true := by simpa using h1
      go_enter Try.func14, Try.ntmps14
      go_wp2
      go_ret
      exact ⟨rfl, rfl⟩
    · rw [if_neg (fun h => h.elim h0 h1)]
      have hd1 : decide (4095 < n) = false := by simpa using h1
      obtain ⟨m, rfl⟩ := Int.eq_ofNat_of_zero_le (show 0 ≤ n by omega)
      have hd2 : decide (4095 < m) = false := by simp; omega
      have hpa := fun w1 => payLen_any m w1 (by omega)
      obtain ⟨p, hp⟩ : ∃ p, p = (m + 1) / 2 := ⟨_, rfl⟩
      rw [← hp] at hpa
      have hr : (14 : Int) + ((m : Int) + 1) / 2 = 14 + (p : Int) := by omega
      rw [hr]
      have HPA := Lib.hid hpa
      clear hpa hr
      have hw : IntKind.i64.wrap (14 + (p : Int)) = 14 + (p : Int) := IntWalk.i64_in _ (by omega)
      clear hp
      go_enter Try.func14, Try.ntmps14
      go_wp2_with fail
      refine (HPA.out _).mono ?_
      rintro e w1 ⟨rfl, rfl⟩
      go_wp2
      go_ret
      exact ⟨rfl, rfl⟩

theorem pre_small : ∀ s ∈ pre, s.1.natAbs < 2 ^ 53 ∧ s.2.natAbs < 2 ^ 53 := by decide

set_option maxRecDepth 4000 in
set_option maxHeartbeats 1000000 in
theorem preambleS_any (w : World) : Calls Try.prog 16 #[] w fun e w' => ∃ g, e = .returned (.slice (some ⟨g, 0, none⟩) 8 8) ∧ Smps w'.heap.size w' (some ⟨g, 0, none⟩) pre ∧ Below w.heap.size w w' := by
  have HP := Lib.hid preamble_any
  go_enter Try.func16, Try.ntmps16
  go_wp2_with fail
  refine (HP.out _).mono ?_
  rintro e w1 ⟨rfl, hB1⟩
  have al : Below w1.heap.size w1 (w1.alloc (.cells preC 64)) := (Below.refl _ _).alloc (Nat.le_refl _) _
  have kx := Blk.new w1 64 preC
  have hcx : Cxs (w1.alloc (.cells preC 64)).heap.size (w1.alloc (.cells preC 64)) (some ⟨w1.heap.size, 0, none⟩) pre := fun _ =>
    ⟨w1.heap.size, 0, rfl, kx.lt, fun j hj => by
      obtain ⟨x, y, h1, h2⟩ := preC_row j hj
      exact ⟨x, y, by rw [Nat.zero_add, kx.cell]; exact h1, h2⟩⟩
  have hsm := samples_any (some ⟨w1.heap.size, 0, none⟩) 8 8 pre _ rfl (by decide) hcx pre_small
  have HSM := Lib.hid hsm
  have b2 := hB1.trans (al.mono hB1.size)
  clear hcx hsm kx
  unfold preC at *
  go_wp2_with fail
  refine HSM.out.mono ?_
  rintro e w2 ⟨g, rfl, _, hS, hB2⟩
  have HS := Lib.hid hS; clear hS
  go_wp2
  go_ret
  exact ⟨g, rfl, HS.out, b2.trans (hB2.mono b2.size)⟩

set_option maxRecDepth 8000 in
set_option maxHeartbeats 4000000 in
theorem sends_law (N amp m : Int) (A : Option Addr) (n c : Nat) (bs : List UInt8) (w : World) (hn : n = bs.length) (hm : n ≤ maxLen) (hA : Byt w.heap.size w A bs) :
    Calls Try.prog 3 #[.agg #[.int .i64 N, .slice A n c], .int .i64 amp, .int .i64 m] w fun e w' => e = .returned (.bool true) ∧ Below w.heap.size w w' := by
  have hBb : Below w.heap.size w (w.alloc (.cells #[.int .i64 N, .slice A n c] 24)) := (Below.refl _ _).alloc (Nat.le_refl _) _
  have hen := fun W (h : Below w.heap.size w W) => encode_any N amp A n c bs W hn hm (hA.on h)
  have hre := fun W (h : Below w.heap.size w W) => rencode_any N amp A n c bs W hn hm (hA.on h)
  have hl : (encodeS N bs amp).2.length ≤ maxLen := by
    unfold encodeS
    split
    · rename_i hg
      split
      · split
        · rename_i h5
          rw [encL_length, listOf_length]
          unfold maxLen; omega
        · decide
      · decide
    · decide
  generalize encodeS N bs amp = E at *
  obtain ⟨ee, el⟩ := E
  dsimp only at hl
  have kb := Blk.new w 24 #[.int .i64 N, .slice A n c]
  have HBG := Lib.hid begun_any; have HEN := Lib.hid hen; have HRE := Lib.hid hre; have HL := Lib.hid hl
  have HAI := Lib.hid (air2_any m); have HRA := Lib.hid (rair_any m)
  have HPS := Lib.hid preambleS_any; have HRP := Lib.hid rpreamble_any
  clear hen hre hA hn hm hl
  generalize airS m = am at *
  go_enter Try.func3, Try.ntmps3
  go_wp2_with fail
  refine (HEN.out _ hBb).mono ?_
  rintro e w1 ⟨A1, n1, c1, rfl, hn1, _, hS1, hB1, _⟩
  dsimp only at hn1 hS1
  subst hn1
  have b1 := hBb.trans (hB1.mono hBb.size)
  have kb1 := kb.on hB1
  obtain ⟨p1, p2, _⟩ := kb1.two
  have y1 := kb1.lt
  have HS1 := Lib.hid hS1; clear hS1
  dsimp only
  go_wp2_with fail
  refine (HRE.out _ b1).mono ?_
  rintro e w2 ⟨A2, n2, c2, rfl, hn2, _, hS2, hB2, _⟩
  dsimp only at hn2 hS2
  subst hn2
  have b2 := b1.trans (hB2.mono b1.size)
  have HS12 := Lib.hid (HS1.out.on hB2); have HS2 := Lib.hid hS2; clear hS2
  dsimp only
  go_wp2_with fail
  refine (HBG.out _).mono ?_
  rintro e w3 ⟨rfl, hB3⟩
  have b3 := b2.trans (hB3.mono b2.size)
  have HS13 := Lib.hid (HS12.out.on hB3); have HS23 := Lib.hid (HS2.out.on hB3)
  go_wp2_with fail
  refine (rsames_yes A1 A2 el.length c1 c2 el _ rfl HL.out HS13.out HS23.out).mono ?_
  rintro e w4 ⟨rfl, hB4⟩
  have b4 := b3.trans (hB4.mono b3.size)
  go_wp2_with fail
  refine (HAI.out _).mono ?_
  rintro e w5 ⟨rfl, rfl⟩
  go_wp2_with fail
  refine (HRA.out _).mono ?_
  rintro e w5 ⟨rfl, rfl⟩
  go_wp2_with fail
  refine (HPS.out _).mono ?_
  rintro e w5 ⟨g5, rfl, hS5, hB5⟩
  have b5 := b4.trans (hB5.mono b4.size)
  have HS5 := Lib.hid hS5; clear hS5
  go_wp2_with fail
  refine (HRP.out _).mono ?_
  rintro e w6 ⟨rfl, k6, hB6⟩
  have b6 := b5.trans (hB6.mono b5.size)
  have HS56 := Lib.hid (HS5.out.on hB6); have HS6 := Lib.hid (pre_smps k6)
  go_wp2_with fail
  refine (rsames_yes (some ⟨g5, 0, none⟩) (some ⟨w5.heap.size, 0, none⟩) 8 8 8 pre _ rfl (by decide) HS56.out HS6.out).mono ?_
  rintro e w7 ⟨rfl, hB7⟩
  have b7 := b6.trans (hB7.mono b6.size)
  go_wp2
  go_ret
  exact ⟨rfl, b7⟩
end Go.Proofs.Ytdmedhklcicpeaa
