/-
  The document's long, zero and data: whether a length is one of a Kind's, whether the bits are 0 that must be, and bytes of bits. Conditions: that the bits can be read, and those that each theorem names.
-/
import Derived.Test.YtcfbeelljhjnoaaDoorNG
import Derived.Test.YtcfbeelljhjnoaaDoorQB
namespace Go.Proofs.YtcfbeelljhjnoaaDoor
open Go.RowKit

theorem rlong_plain (k n : Nat) (hk : 1 ≤ k ∧ k ≤ 4) : longF k n = decide (0 < n ∧ ∃ d : Nat, d ≤ 8 ∧ sizeF k d = n) := by
  unfold longF
  rw [decide_eq_decide]
  constructor
  · intro h
    rcases h with ⟨rfl, rfl⟩ | ⟨rfl, h⟩ | ⟨rfl, rfl⟩ | ⟨rfl, h⟩
    · exact ⟨by omega, 0, by omega, by decide⟩
    · refine ⟨by omega, (n - 29) / 8, by omega, ?_⟩
      unfold sizeF
      repeat' split
      all_goals omega
    · exact ⟨by omega, 0, by omega, by decide⟩
    · refine ⟨by omega, (n - 79) / 8, by omega, ?_⟩
      unfold sizeF
      repeat' split
      all_goals omega
  · rintro ⟨h0, d, hd, hs⟩
    unfold sizeF at hs
    repeat' split at hs
    all_goals omega
set_option maxRecDepth 8000 in
set_option maxHeartbeats 2000000 in
theorem rlong_any (k n : Nat) (w : World) (hk : 1 ≤ k ∧ k ≤ 4) :
    Calls Tryd.prog 51 #[.int .i64 n, .int .i64 k] w fun e w' => e = .returned (.bool (longF k n)) ∧ Below w.heap.size w w' := by
  have hp := rlong_plain k n hk
  have hs := fun (d : Nat) (W : World) => rsize_any k d W
  have HS := Lib.hid hs; have HP := Lib.hid hp
  clear hs hp
  go_enter Tryd.func51, Tryd.ntmps51
  go_wp2
  go_loopw [5] (fun i wr => ∃ d : Nat, d ≤ 9 ∧ i = .int .i64 d ∧ (0 < n → ∀ e : Nat, e < d → sizeF k e ≠ n) ∧ Below w.heap.size w wr)
    (fun i _ => 9 - (intOf i).toNat)
  case atStart => exact ⟨0, by omega, rfl, fun _ e he => absurd he (by omega), Below.refl _ _⟩
  case round =>
    obtain ⟨d, hd, rfl, hno, hB⟩ := hrel
    by_cases hlt : d ≤ 8
    · have e8 : decide ((d : Int) ≤ 8) = true := by simp; omega
      have e8' : decide (d ≤ 8) = true := by simpa using hlt
      by_cases h0 : 0 < n
      · have e0 : decide ((0 : Int) < (n : Int)) = true := by simp; omega
        have e0' : decide (0 < n) = true := by simpa using h0
        have hno' := hno h0
        by_cases hz : sizeF k d = n
        · have hz' : (sizeF k d == (n : Int)) = true := by simpa using hz
          have hr : longF k n = true := by rw [HP.out]; exact decide_eq_true ⟨h0, d, hlt, hz⟩
          have HR := Lib.hid hr; have HN := Lib.hid hno'
          clear hr hno' hno hz
          go_wp2_with fail
          refine (HS.out d _).mono ?_
          rintro e w1 ⟨rfl, hC⟩
          dsimp only
          have hB1 := hB.trans (hC.mono hB.size)
          clear hC HN
          generalize sizeF k d = Z at *
          go_wp2
          go_ret
          exact ⟨by rw [HR.out]; rfl, hB1⟩
        · have hz' : (sizeF k d == (n : Int)) = false := by simpa using hz
          have hno2 : 0 < n → ∀ e : Nat, e < d + 1 → sizeF k e ≠ n := fun _ e he => by
            rcases Nat.lt_or_ge e d with h | h
            · exact hno' e h
            · obtain rfl : e = d := by omega
              exact hz
          have HN := Lib.hid hno2
          clear hno' hno hz hno2
          have hwd : IntKind.i64.wrap ((d : Int) + 1) = (d : Int) + 1 := IntWalk.i64_in _ (by omega)
          go_wp2_with fail
          refine (HS.out d _).mono ?_
          rintro e w1 ⟨rfl, hC⟩
          dsimp only
          have hB1 := hB.trans (hC.mono hB.size)
          clear hC
          generalize sizeF k d = Z at *
          go_wp2
          go_roundw
          case rel => exact ⟨d + 1, by omega, by go_num, HN.out, hB1⟩
          case measure => simp [intOf]; omega
      · have e0 : decide ((0 : Int) < (n : Int)) = false := by simp; omega
        have e0' : decide (0 < n) = false := by simpa using h0
        have hno2 : 0 < n → ∀ e : Nat, e < d + 1 → sizeF k e ≠ n := fun h => absurd h h0
        have HN := Lib.hid hno2
        clear hno hno2
        have hwd : IntKind.i64.wrap ((d : Int) + 1) = (d : Int) + 1 := IntWalk.i64_in _ (by omega)
        go_wp2
        go_roundw
        case rel => exact ⟨d + 1, by omega, by go_num, HN.out, hB⟩
        case measure => simp [intOf]; omega
    · obtain rfl : d = 9 := by omega
      have hr : longF k n = false := by
        rw [HP.out]
        refine decide_eq_false ?_
        rintro ⟨h0, e, he, hz⟩
        exact hno h0 e (by omega) hz
      have HR := Lib.hid hr
      clear hno hr
      go_wp2
      go_ret
      exact ⟨by rw [HR.out]; rfl, hB⟩
set_option maxRecDepth 8000 in
set_option maxHeartbeats 2000000 in
theorem rzero_1 {w : World} {L : List Bool} {A : Option Addr} {n : Nat} (h : Bv w L A n) (c : Nat) (hl : 16 ≤ L.length) :
    Calls Tryd.prog 52 #[.agg #[.int .i64 L.length, .slice A n c], .int .i64 1] w fun e w' => e = .returned (.bool (zeroL 1 L)) ∧ Below w.heap.size w w' := by
  obtain ⟨kb, bc⟩ := bx1 w #[.int .i64 L.length, .slice A n c] 28
  have hn := fun (W : World) (hb : Below w.heap.size w W) => rnumber_list (h.on hb) c (N := L.length) (ai := 13) (Wi := 3) (a := 13) (W := 3) rfl rfl rfl (by decide) (by omega)
  have hz : zeroL 1 L = ((numOf ((L.drop 13).take 3) : Int) == 0) := by rw [Bool.eq_iff_iff]; simp [zeroL]
  rw [hz]
  generalize numOf ((L.drop 13).take 3) = v at *
  have HN := Lib.hid hn; clear hn h hl hz
  go_enter Tryd.func52, Tryd.ntmps52
  go_wp2_with fail
  refine (HN.out _ bc).mono ?_
  rintro e w1 ⟨rfl, hC⟩
  dsimp only
  replace bc := bc.trans (hC.mono bc.size)
  clear hC kb
  go_wp2
  go_ret
  exact ⟨rfl, bc⟩
set_option maxRecDepth 8000 in
set_option maxHeartbeats 2000000 in
theorem rzero_2 (L : List Bool) (A : Option Addr) (n c : Nat) (w : World) :
    Calls Tryd.prog 52 #[.agg #[.int .i64 L.length, .slice A n c], .int .i64 2] w fun e w' => e = .returned (.bool true) ∧ Below w.heap.size w w' := by
  obtain ⟨kb, bc⟩ := bx1 w #[.int .i64 L.length, .slice A n c] 28
  go_enter Tryd.func52, Tryd.ntmps52
  go_wp2
  go_ret
  exact ⟨rfl, bc⟩
set_option maxRecDepth 8000 in
set_option maxHeartbeats 2000000 in
theorem rzero_3 {w : World} {L : List Bool} {A : Option Addr} {n : Nat} (h : Bv w L A n) (c : Nat) (hl : 16 ≤ L.length) :
    Calls Tryd.prog 52 #[.agg #[.int .i64 L.length, .slice A n c], .int .i64 3] w fun e w' => e = .returned (.bool (zeroL 3 L)) ∧ Below w.heap.size w w' := by
  obtain ⟨kb, bc⟩ := bx1 w #[.int .i64 L.length, .slice A n c] 28
  have hn := fun (W : World) (hb : Below w.heap.size w W) => rnumber_list (h.on hb) c (N := L.length) (ai := 5) (Wi := 1) (a := 5) (W := 1) rfl rfl rfl (by decide) (by omega)
  have hz : zeroL 3 L = ((numOf ((L.drop 5).take 1) : Int) == 0) := by rw [Bool.eq_iff_iff]; simp [zeroL]
  rw [hz]
  generalize numOf ((L.drop 5).take 1) = v at *
  have HN := Lib.hid hn; clear hn h hl hz
  go_enter Tryd.func52, Tryd.ntmps52
  go_wp2_with fail
  refine (HN.out _ bc).mono ?_
  rintro e w1 ⟨rfl, hC⟩
  dsimp only
  replace bc := bc.trans (hC.mono bc.size)
  clear hC kb
  go_wp2
  go_ret
  exact ⟨rfl, bc⟩
set_option maxRecDepth 8000 in
set_option maxHeartbeats 2000000 in
theorem rzero_4 {w : World} {L : List Bool} {A : Option Addr} {n : Nat} (h : Bv w L A n) (c : Nat) (hl : 16 ≤ L.length) :
    Calls Tryd.prog 52 #[.agg #[.int .i64 L.length, .slice A n c], .int .i64 4] w fun e w' => e = .returned (.bool (zeroL 4 L)) ∧ Below w.heap.size w w' := by
  obtain ⟨kb, bc⟩ := bx1 w #[.int .i64 L.length, .slice A n c] 28
  have hn := fun (W : World) (hb : Below w.heap.size w W) => rnumber_list (h.on hb) c (N := L.length) (ai := 5) (Wi := 2) (a := 5) (W := 2) rfl rfl rfl (by decide) (by omega)
  have hz : zeroL 4 L = ((numOf ((L.drop 5).take 2) : Int) == 0) := by rw [Bool.eq_iff_iff]; simp [zeroL]
  rw [hz]
  generalize numOf ((L.drop 5).take 2) = v at *
  have HN := Lib.hid hn; clear hn h hl hz
  go_enter Tryd.func52, Tryd.ntmps52
  go_wp2_with fail
  refine (HN.out _ bc).mono ?_
  rintro e w1 ⟨rfl, hC⟩
  dsimp only
  replace bc := bc.trans (hC.mono bc.size)
  clear hC kb
  go_wp2
  go_ret
  exact ⟨rfl, bc⟩
end Go.Proofs.YtcfbeelljhjnoaaDoor
