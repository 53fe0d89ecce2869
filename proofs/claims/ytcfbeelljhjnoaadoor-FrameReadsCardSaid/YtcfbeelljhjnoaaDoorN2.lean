/-
  Size of package frame answers as the document says. No condition.
-/
import Derived.Test.YtcfbeelljhjnoaaDoorN1
namespace Go.Proofs.YtcfbeelljhjnoaaDoor
open Go.RowKit

set_option maxRecDepth 8000 in
set_option maxHeartbeats 2000000 in
theorem size_1 (d : Int) (w : World) : Calls Tryd.prog 13 #[.int .i64 1, .int .i64 d] w fun e w' => e = .returned (.int .i64 (sizeF 1 d)) ∧ Below w.heap.size w w' := by
  have hp := fun W => partsOf_1 W
  have hh := fun W => head_1 W
  have HP := Lib.hid hp; have HH := Lib.hid hh; clear hp hh
  obtain ⟨Z, hZ⟩ : ∃ Z, Z = sizeF 1 d := ⟨_, rfl⟩
  rw [← hZ]
  unfold sizeF at hZ
  by_cases c0 : d < 0
  · have d0 : decide (d < 0) = true := by simpa using c0
    rw [if_neg (by omega)] at hZ
    subst hZ
    go_enter Tryd.func13, Tryd.ntmps13
    go_wp2_with fail
    refine (HP.out _).mono ?_
    rintro e w1 ⟨rfl, hB1⟩
    dsimp only
    have b1 := hB1.trans ((Below.al w1 (.cells #[.int .i64 11, .int .i64 3, .int .i64 0, .int .i64 24, .int .i64 0] 51)).mono hB1.size)
    clear HP HH
    go_wp2
    go_ret
    exact ⟨rfl, b1⟩
  · have d0 : decide (d < 0) = false := by simpa using c0
    by_cases c1 : 0 < d
    · have d1 : decide (0 < d) = true := by simpa using c1
      have hz : Z = 0 := by
        rw [hZ]
        by_cases h8 : 0 ≤ d ∧ d ≤ 8
        · rw [if_pos h8]; simp; try omega
        · rw [if_neg h8]
      subst hz
      clear hZ
      go_enter Tryd.func13, Tryd.ntmps13
      go_wp2_with fail
      refine (HP.out _).mono ?_
      rintro e w1 ⟨rfl, hB1⟩
      dsimp only
      have b1 := hB1.trans ((Below.al w1 (.cells #[.int .i64 11, .int .i64 3, .int .i64 0, .int .i64 24, .int .i64 0] 51)).mono hB1.size)
      clear HP HH
      go_wp2
      go_ret
      exact ⟨rfl, b1⟩
    · have d1 : decide (0 < d) = false := by simpa using c1
      rw [if_pos (by omega)] at hZ
      have hd : d = 0 := by omega
      subst hd
      have hz : Z = 40 := by rw [hZ]; rfl
      subst hz
      clear hZ
      go_enter Tryd.func13, Tryd.ntmps13
      go_wp2_with fail
      refine (HP.out _).mono ?_
      rintro e w1 ⟨rfl, hB1⟩
      dsimp only
      have k1 := Blk.new w1 51 #[.int .i64 11, .int .i64 3, .int .i64 0, .int .i64 24, .int .i64 0]
      have b1 := hB1.trans ((Below.al w1 (.cells #[.int .i64 11, .int .i64 3, .int .i64 0, .int .i64 24, .int .i64 0] 51)).mono hB1.size)
      clear hB1 HP
      go_wp2_with fail
      generalize w1.alloc (.cells #[.int .i64 11, .int .i64 3, .int .i64 0, .int .i64 24, .int .i64 0] 51) = w2 at *
      generalize w1.heap.size = g at *
      have hdr : Below w2.heap.size w2 w2.drew := (Below.refl _ _).drew
      replace k1 := k1.on hdr
      replace b1 := b1.trans (hdr.mono b1.size)
      clear hdr
      obtain ⟨⟨p0, p1, p2, p3, p4⟩, -⟩ := k1.five
      go_region_with (go_at_call 41; refine (HH.out _).mono ?_; rintro e w5 ⟨rfl, hB5⟩; dsimp only; replace k1 := k1.on hB5; replace b1 := b1.trans (hB5.mono b1.size); clear hB5; obtain ⟨⟨p0, p1, p2, p3, p4⟩, -⟩ := k1.five)
      all_goals
        clear HH
        go_wp2
        go_ret
        exact ⟨rfl, b1⟩
set_option maxRecDepth 8000 in
set_option maxHeartbeats 2000000 in
theorem size_2 (d : Int) (w : World) : Calls Tryd.prog 13 #[.int .i64 2, .int .i64 d] w fun e w' => e = .returned (.int .i64 (sizeF 2 d)) ∧ Below w.heap.size w w' := by
  have hp := fun W => partsOf_2 W
  have hh := fun W => head_2 W
  have HP := Lib.hid hp; have HH := Lib.hid hh; clear hp hh
  obtain ⟨Z, hZ⟩ : ∃ Z, Z = sizeF 2 d := ⟨_, rfl⟩
  rw [← hZ]
  unfold sizeF at hZ
  by_cases c0 : d < 0
  · have d0 : decide (d < 0) = true := by simpa using c0
    rw [if_neg (by omega)] at hZ
    subst hZ
    go_enter Tryd.func13, Tryd.ntmps13
    go_wp2_with fail
    refine (HP.out _).mono ?_
    rintro e w1 ⟨rfl, hB1⟩
    dsimp only
    have b1 := hB1.trans ((Below.al w1 (.cells #[.int .i64 3, .int .i64 0, .int .i64 0, .int .i64 0, .int .i64 8] 51)).mono hB1.size)
    clear HP HH
    go_wp2
    go_ret
    exact ⟨rfl, b1⟩
  · have d0 : decide (d < 0) = false := by simpa using c0
    by_cases c1 : 8 < d
    · have d1 : decide (8 < d) = true := by simpa using c1
      have hz : Z = 0 := by
        rw [hZ]
        by_cases h8 : 0 ≤ d ∧ d ≤ 8
        · rw [if_pos h8]; simp; try omega
        · rw [if_neg h8]
      subst hz
      clear hZ
      go_enter Tryd.func13, Tryd.ntmps13
      go_wp2_with fail
      refine (HP.out _).mono ?_
      rintro e w1 ⟨rfl, hB1⟩
      dsimp only
      have b1 := hB1.trans ((Below.al w1 (.cells #[.int .i64 3, .int .i64 0, .int .i64 0, .int .i64 0, .int .i64 8] 51)).mono hB1.size)
      clear HP HH
      go_wp2
      go_ret
      exact ⟨rfl, b1⟩
    · have d1 : decide (8 < d) = false := by simpa using c1
      rw [if_pos (by omega)] at hZ
      have w1' : IntKind.i64.wrap (d * 8) = d * 8 := IntWalk.i64_in _ (by omega)
      have w2' : IntKind.i64.wrap (d * 8 + 24) = d * 8 + 24 := IntWalk.i64_in _ (by omega)
      have w3' : IntKind.i64.wrap (5 + (d * 8 + 24)) = 5 + (d * 8 + 24) := IntWalk.i64_in _ (by omega)
      have hz : Z = 5 + (d * 8 + 24) := by rw [hZ]; simp; omega
      subst hz
      clear hZ
      go_enter Tryd.func13, Tryd.ntmps13
      go_wp2_with fail
      refine (HP.out _).mono ?_
      rintro e w1 ⟨rfl, hB1⟩
      dsimp only
      have k1 := Blk.new w1 51 #[.int .i64 3, .int .i64 0, .int .i64 0, .int .i64 0, .int .i64 8]
      have b1 := hB1.trans ((Below.al w1 (.cells #[.int .i64 3, .int .i64 0, .int .i64 0, .int .i64 0, .int .i64 8] 51)).mono hB1.size)
      clear hB1 HP
      go_wp2_with fail
      generalize w1.alloc (.cells #[.int .i64 3, .int .i64 0, .int .i64 0, .int .i64 0, .int .i64 8] 51) = w2 at *
      generalize w1.heap.size = g at *
      have hdr : Below w2.heap.size w2 w2.drew := (Below.refl _ _).drew
      replace k1 := k1.on hdr
      replace b1 := b1.trans (hdr.mono b1.size)
      clear hdr
      obtain ⟨⟨p0, p1, p2, p3, p4⟩, -⟩ := k1.five
      go_region_with (go_at_call 41; refine (HH.out _).mono ?_; rintro e w5 ⟨rfl, hB5⟩; dsimp only; replace k1 := k1.on hB5; replace b1 := b1.trans (hB5.mono b1.size); clear hB5; obtain ⟨⟨p0, p1, p2, p3, p4⟩, -⟩ := k1.five)
      all_goals
        clear HH
        go_wp2
        go_ret
        exact ⟨rfl, b1⟩
set_option maxRecDepth 8000 in
set_option maxHeartbeats 2000000 in
theorem size_3 (d : Int) (w : World) : Calls Tryd.prog 13 #[.int .i64 3, .int .i64 d] w fun e w' => e = .returned (.int .i64 (sizeF 3 d)) ∧ Below w.heap.size w w' := by
  have hp := fun W => partsOf_3 W
  have hh := fun W => head_3 W
  have HP := Lib.hid hp; have HH := Lib.hid hh; clear hp hh
  obtain ⟨Z, hZ⟩ : ∃ Z, Z = sizeF 3 d := ⟨_, rfl⟩
  rw [← hZ]
  unfold sizeF at hZ
  by_cases c0 : d < 0
  · have d0 : decide (d < 0) = true := by simpa using c0
    rw [if_neg (by omega)] at hZ
    subst hZ
    go_enter Tryd.func13, Tryd.ntmps13
    go_wp2_with fail
    refine (HP.out _).mono ?_
    rintro e w1 ⟨rfl, hB1⟩
    dsimp only
    have b1 := hB1.trans ((Below.al w1 (.cells #[.int .i64 3, .int .i64 1, .int .i64 24, .int .i64 24, .int .i64 0] 51)).mono hB1.size)
    clear HP HH
    go_wp2
    go_ret
    exact ⟨rfl, b1⟩
  · have d0 : decide (d < 0) = false := by simpa using c0
    by_cases c1 : 0 < d
    · have d1 : decide (0 < d) = true := by simpa using c1
      have hz : Z = 0 := by
        rw [hZ]
        by_cases h8 : 0 ≤ d ∧ d ≤ 8
        · rw [if_pos h8]; simp; try omega
        · rw [if_neg h8]
      subst hz
      clear hZ
      go_enter Tryd.func13, Tryd.ntmps13
      go_wp2_with fail
      refine (HP.out _).mono ?_
      rintro e w1 ⟨rfl, hB1⟩
      dsimp only
      have b1 := hB1.trans ((Below.al w1 (.cells #[.int .i64 3, .int .i64 1, .int .i64 24, .int .i64 24, .int .i64 0] 51)).mono hB1.size)
      clear HP HH
      go_wp2
      go_ret
      exact ⟨rfl, b1⟩
    · have d1 : decide (0 < d) = false := by simpa using c1
      rw [if_pos (by omega)] at hZ
      have hd : d = 0 := by omega
      subst hd
      have hz : Z = 54 := by rw [hZ]; rfl
      subst hz
      clear hZ
      go_enter Tryd.func13, Tryd.ntmps13
      go_wp2_with fail
      refine (HP.out _).mono ?_
      rintro e w1 ⟨rfl, hB1⟩
      dsimp only
      have k1 := Blk.new w1 51 #[.int .i64 3, .int .i64 1, .int .i64 24, .int .i64 24, .int .i64 0]
      have b1 := hB1.trans ((Below.al w1 (.cells #[.int .i64 3, .int .i64 1, .int .i64 24, .int .i64 24, .int .i64 0] 51)).mono hB1.size)
      clear hB1 HP
      go_wp2_with fail
      generalize w1.alloc (.cells #[.int .i64 3, .int .i64 1, .int .i64 24, .int .i64 24, .int .i64 0] 51) = w2 at *
      generalize w1.heap.size = g at *
      have hdr : Below w2.heap.size w2 w2.drew := (Below.refl _ _).drew
      replace k1 := k1.on hdr
      replace b1 := b1.trans (hdr.mono b1.size)
      clear hdr
      obtain ⟨⟨p0, p1, p2, p3, p4⟩, -⟩ := k1.five
      go_region_with (go_at_call 41; refine (HH.out _).mono ?_; rintro e w5 ⟨rfl, hB5⟩; dsimp only; replace k1 := k1.on hB5; replace b1 := b1.trans (hB5.mono b1.size); clear hB5; obtain ⟨⟨p0, p1, p2, p3, p4⟩, -⟩ := k1.five)
      all_goals
        clear HH
        go_wp2
        go_ret
        exact ⟨rfl, b1⟩
set_option maxRecDepth 8000 in
set_option maxHeartbeats 2000000 in
theorem size_4 (d : Int) (w : World) : Calls Tryd.prog 13 #[.int .i64 4, .int .i64 d] w fun e w' => e = .returned (.int .i64 (sizeF 4 d)) ∧ Below w.heap.size w w' := by
  have hp := fun W => partsOf_4 W
  have hh := fun W => head_4 W
  have HP := Lib.hid hp; have HH := Lib.hid hh; clear hp hh
  obtain ⟨Z, hZ⟩ : ∃ Z, Z = sizeF 4 d := ⟨_, rfl⟩
  rw [← hZ]
  unfold sizeF at hZ
  by_cases c0 : d < 0
  · have d0 : decide (d < 0) = true := by simpa using c0
    rw [if_neg (by omega)] at hZ
    subst hZ
    go_enter Tryd.func13, Tryd.ntmps13
    go_wp2_with fail
    refine (HP.out _).mono ?_
    rintro e w1 ⟨rfl, hB1⟩
    dsimp only
    have b1 := hB1.trans ((Below.al w1 (.cells #[.int .i64 3, .int .i64 2, .int .i64 24, .int .i64 24, .int .i64 8] 51)).mono hB1.size)
    clear HP HH
    go_wp2
    go_ret
    exact ⟨rfl, b1⟩
  · have d0 : decide (d < 0) = false := by simpa using c0
    by_cases c1 : 8 < d
    · have d1 : decide (8 < d) = true := by simpa using c1
      have hz : Z = 0 := by
        rw [hZ]
        by_cases h8 : 0 ≤ d ∧ d ≤ 8
        · rw [if_pos h8]; simp; try omega
        · rw [if_neg h8]
      subst hz
      clear hZ
      go_enter Tryd.func13, Tryd.ntmps13
      go_wp2_with fail
      refine (HP.out _).mono ?_
      rintro e w1 ⟨rfl, hB1⟩
      dsimp only
      have b1 := hB1.trans ((Below.al w1 (.cells #[.int .i64 3, .int .i64 2, .int .i64 24, .int .i64 24, .int .i64 8] 51)).mono hB1.size)
      clear HP HH
      go_wp2
      go_ret
      exact ⟨rfl, b1⟩
    · have d1 : decide (8 < d) = false := by simpa using c1
      rw [if_pos (by omega)] at hZ
      have w1' : IntKind.i64.wrap (d * 8) = d * 8 := IntWalk.i64_in _ (by omega)
      have w2' : IntKind.i64.wrap (d * 8 + 24) = d * 8 + 24 := IntWalk.i64_in _ (by omega)
      have w3' : IntKind.i64.wrap (55 + (d * 8 + 24)) = 55 + (d * 8 + 24) := IntWalk.i64_in _ (by omega)
      have hz : Z = 55 + (d * 8 + 24) := by rw [hZ]; simp; omega
      subst hz
      clear hZ
      go_enter Tryd.func13, Tryd.ntmps13
      go_wp2_with fail
      refine (HP.out _).mono ?_
      rintro e w1 ⟨rfl, hB1⟩
      dsimp only
      have k1 := Blk.new w1 51 #[.int .i64 3, .int .i64 2, .int .i64 24, .int .i64 24, .int .i64 8]
      have b1 := hB1.trans ((Below.al w1 (.cells #[.int .i64 3, .int .i64 2, .int .i64 24, .int .i64 24, .int .i64 8] 51)).mono hB1.size)
      clear hB1 HP
      go_wp2_with fail
      generalize w1.alloc (.cells #[.int .i64 3, .int .i64 2, .int .i64 24, .int .i64 24, .int .i64 8] 51) = w2 at *
      generalize w1.heap.size = g at *
      have hdr : Below w2.heap.size w2 w2.drew := (Below.refl _ _).drew
      replace k1 := k1.on hdr
      replace b1 := b1.trans (hdr.mono b1.size)
      clear hdr
      obtain ⟨⟨p0, p1, p2, p3, p4⟩, -⟩ := k1.five
      go_region_with (go_at_call 41; refine (HH.out _).mono ?_; rintro e w5 ⟨rfl, hB5⟩; dsimp only; replace k1 := k1.on hB5; replace b1 := b1.trans (hB5.mono b1.size); clear hB5; obtain ⟨⟨p0, p1, p2, p3, p4⟩, -⟩ := k1.five)
      all_goals
        clear HH
        go_wp2
        go_ret
        exact ⟨rfl, b1⟩
set_option maxRecDepth 8000 in
set_option maxHeartbeats 2000000 in
theorem size_no (k d : Int) (h1 : (k == 1) = false) (h2 : (k == 2) = false) (h3 : (k == 3) = false) (h4 : (k == 4) = false) (w : World) : Calls Tryd.prog 13 #[.int .i64 k, .int .i64 d] w fun e w' => e = .returned (.int .i64 0) ∧ Below w.heap.size w w' := by
  have hp := fun W => partsOf_no k h1 h2 h3 h4 W
  have HP := Lib.hid hp; clear hp
  go_enter Tryd.func13, Tryd.ntmps13
  go_wp2_with fail
  refine (HP.out _).mono ?_
  rintro e w1 ⟨rfl, hB1⟩
  dsimp only
  have b1 := hB1.trans ((Below.al w1 (.cells #[.int .i64 0, .int .i64 0, .int .i64 0, .int .i64 0, .int .i64 0] 51)).mono hB1.size)
  clear HP
  go_wp2
  go_ret
  exact ⟨rfl, b1⟩
theorem size_any (k d : Int) (w : World) : Calls Tryd.prog 13 #[.int .i64 k, .int .i64 d] w fun e w' => e = .returned (.int .i64 (sizeF k d)) ∧ Below w.heap.size w w' := by
  by_cases h1 : k = 1
  · subst h1; exact size_1 d w
  · by_cases h2 : k = 2
    · subst h2; exact size_2 d w
    · by_cases h3 : k = 3
      · subst h3; exact size_3 d w
      · by_cases h4 : k = 4
        · subst h4; exact size_4 d w
        · have hz : sizeF k d = 0 := by unfold sizeF; rw [if_neg h1, if_neg h2, if_neg h3, if_neg h4]; simp
          rw [hz]
          exact size_no k d (by simpa using h1) (by simpa using h2) (by simpa using h3) (by simpa using h4) w
end Go.Proofs.YtcfbeelljhjnoaaDoor
