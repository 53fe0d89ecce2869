/-
  How long frames and what is on the air are: phasor.Air, frame.Size and the document's. No condition. (Over a seat that lacks crc and cstate; with frames themselves: N1, N2.)
-/
import Derived.Test.YtlkmipcenlhacaaQE
import Derived.Test.YtlkmipcenlhacaaQB
namespace Go.Proofs.Ytlkmipcenlhacaa
open Go.RowKit

theorem Blk.five {w : World} {g : Nat} {t : TypeId} {a b c d e : Value} (h : Blk w g t #[a, b, c, d, e]) :
    (w.cell? ⟨g, 0, none⟩ = some a ∧ w.cell? ⟨g, 1, none⟩ = some b ∧ w.cell? ⟨g, 2, none⟩ = some c ∧ w.cell? ⟨g, 3, none⟩ = some d ∧ w.cell? ⟨g, 4, none⟩ = some e) ∧
    (w.frozen? ⟨g, 0, none⟩ = false ∧ w.frozen? ⟨g, 1, none⟩ = false ∧ w.frozen? ⟨g, 2, none⟩ = false ∧ w.frozen? ⟨g, 3, none⟩ = false ∧ w.frozen? ⟨g, 4, none⟩ = false) :=
  ⟨⟨by simpa using h.cell 0, by simpa using h.cell 1, by simpa using h.cell 2, by simpa using h.cell 3, by simpa using h.cell 4⟩, h.frozen 0, h.frozen 1, h.frozen 2, h.frozen 3, h.frozen 4⟩
abbrev cC (T P Mo Nx Me : Int) : Array Value := #[.int .i64 T, .int .i64 P, .int .i64 Mo, .int .i64 Nx, .int .i64 Me]
/-- Size, by the document. -/
def sizeF (k d : Int) : Int :=
  if 0 ≤ d ∧ d ≤ 8 then
    if k = 1 then (if d = 0 then 40 else 0) else if k = 2 then 29 + 8 * d else if k = 3 then (if d = 0 then 54 else 0) else if k = 4 then 79 + 8 * d else 0
  else 0
theorem al2 (w : World) (o p : Obj) : Below w.heap.size w ((w.alloc o).alloc p) := ((Below.refl _ _).alloc (Nat.le_refl _) _).alloc (by simp) _
set_option maxRecDepth 8000 in
set_option maxHeartbeats 1000000 in
theorem partsOf_1 (w : World) : Calls Try.prog 75 #[.int .i64 1] w fun e w' => e = .returned (.tuple #[.agg #[.int .i64 11, .int .i64 3, .int .i64 0, .int .i64 24, .int .i64 0], .bool true]) ∧ Below w.heap.size w w' := by
  go_enter Try.func75, Try.ntmps75
  go_wp2
  exact bodyPost_ret (v := .tuple #[.agg #[.int .i64 11, .int .i64 3, .int .i64 0, .int .i64 24, .int .i64 0], .bool true]) (by simp [results, Try.results75, go_sem]) rfl ⟨rfl, al2 _ _ _⟩
set_option maxRecDepth 8000 in
set_option maxHeartbeats 1000000 in
theorem head_1 (w : World) : Calls Try.prog 76 #[.agg #[.int .i64 11, .int .i64 3, .int .i64 0, .int .i64 24, .int .i64 0]] w fun e w' => e = .returned (.int .i64 16) ∧ Below w.heap.size w w' := by
  go_enter Try.func76, Try.ntmps76
  go_wp2
  go_ret
  exact ⟨rfl, Below.al _ _⟩
set_option maxRecDepth 8000 in
set_option maxHeartbeats 1000000 in
theorem partsOf_2 (w : World) : Calls Try.prog 75 #[.int .i64 2] w fun e w' => e = .returned (.tuple #[.agg #[.int .i64 3, .int .i64 0, .int .i64 0, .int .i64 0, .int .i64 8], .bool true]) ∧ Below w.heap.size w w' := by
  go_enter Try.func75, Try.ntmps75
  go_wp2
  exact bodyPost_ret (v := .tuple #[.agg #[.int .i64 3, .int .i64 0, .int .i64 0, .int .i64 0, .int .i64 8], .bool true]) (by simp [results, Try.results75, go_sem]) rfl ⟨rfl, al2 _ _ _⟩
set_option maxRecDepth 8000 in
set_option maxHeartbeats 1000000 in
theorem head_2 (w : World) : Calls Try.prog 76 #[.agg #[.int .i64 3, .int .i64 0, .int .i64 0, .int .i64 0, .int .i64 8]] w fun e w' => e = .returned (.int .i64 5) ∧ Below w.heap.size w w' := by
  go_enter Try.func76, Try.ntmps76
  go_wp2
  go_ret
  exact ⟨rfl, Below.al _ _⟩
set_option maxRecDepth 8000 in
set_option maxHeartbeats 1000000 in
theorem partsOf_3 (w : World) : Calls Try.prog 75 #[.int .i64 3] w fun e w' => e = .returned (.tuple #[.agg #[.int .i64 3, .int .i64 1, .int .i64 24, .int .i64 24, .int .i64 0], .bool true]) ∧ Below w.heap.size w w' := by
  go_enter Try.func75, Try.ntmps75
  go_wp2
  exact bodyPost_ret (v := .tuple #[.agg #[.int .i64 3, .int .i64 1, .int .i64 24, .int .i64 24, .int .i64 0], .bool true]) (by simp [results, Try.results75, go_sem]) rfl ⟨rfl, al2 _ _ _⟩
set_option maxRecDepth 8000 in
set_option maxHeartbeats 1000000 in
theorem head_3 (w : World) : Calls Try.prog 76 #[.agg #[.int .i64 3, .int .i64 1, .int .i64 24, .int .i64 24, .int .i64 0]] w fun e w' => e = .returned (.int .i64 30) ∧ Below w.heap.size w w' := by
  go_enter Try.func76, Try.ntmps76
  go_wp2
  go_ret
  exact ⟨rfl, Below.al _ _⟩
set_option maxRecDepth 8000 in
set_option maxHeartbeats 1000000 in
theorem partsOf_4 (w : World) : Calls Try.prog 75 #[.int .i64 4] w fun e w' => e = .returned (.tuple #[.agg #[.int .i64 3, .int .i64 2, .int .i64 24, .int .i64 24, .int .i64 8], .bool true]) ∧ Below w.heap.size w w' := by
  go_enter Try.func75, Try.ntmps75
  go_wp2
  exact bodyPost_ret (v := .tuple #[.agg #[.int .i64 3, .int .i64 2, .int .i64 24, .int .i64 24, .int .i64 8], .bool true]) (by simp [results, Try.results75, go_sem]) rfl ⟨rfl, al2 _ _ _⟩
set_option maxRecDepth 8000 in
set_option maxHeartbeats 1000000 in
theorem head_4 (w : World) : Calls Try.prog 76 #[.agg #[.int .i64 3, .int .i64 2, .int .i64 24, .int .i64 24, .int .i64 8]] w fun e w' => e = .returned (.int .i64 31) ∧ Below w.heap.size w w' := by
  go_enter Try.func76, Try.ntmps76
  go_wp2
  go_ret
  exact ⟨rfl, Below.al _ _⟩
set_option maxRecDepth 8000 in
set_option maxHeartbeats 1000000 in
theorem partsOf_no (k : Int) (h1 : (k == 1) = false) (h2 : (k == 2) = false) (h3 : (k == 3) = false) (h4 : (k == 4) = false) (w : World) : Calls Try.prog 75 #[.int .i64 k] w fun e w' => e = .returned (.tuple #[.agg #[.int .i64 0, .int .i64 0, .int .i64 0, .int .i64 0, .int .i64 0], .bool false]) ∧ Below w.heap.size w w' := by
  go_enter Try.func75, Try.ntmps75
  go_wp2
  exact bodyPost_ret (v := .tuple #[.agg #[.int .i64 0, .int .i64 0, .int .i64 0, .int .i64 0, .int .i64 0], .bool false]) (by simp [results, Try.results75, go_sem]) rfl ⟨rfl, al2 _ _ _⟩
set_option maxRecDepth 8000 in
set_option maxHeartbeats 1000000 in
theorem rsize_any (k d : Int) (w : World) : Calls Try.prog 43 #[.int .i64 k, .int .i64 d] w fun e w' => e = .returned (.int .i64 (sizeF k d)) ∧ Below w.heap.size w w' := by
  obtain ⟨Z, hZ⟩ : ∃ Z, Z = sizeF k d := ⟨_, rfl⟩
  rw [← hZ]
  by_cases c0 : d < 0
  · have d0 : decide (d < 0) = true := by simpa using c0
    have hz : Z = 0 := by rw [hZ]; unfold sizeF; rw [if_neg (by omega)]
    subst hz; clear hZ
    go_enter Try.func43, Try.ntmps43
    go_wp2
    go_ret
    exact ⟨rfl, Below.refl _ _⟩
  · have d0 : decide (d < 0) = false := by simpa using c0
    by_cases c1 : 8 < d
    · have d1 : decide (8 < d) = true := by simpa using c1
      have hz : Z = 0 := by rw [hZ]; unfold sizeF; rw [if_neg (by omega)]
      subst hz; clear hZ
      go_enter Try.func43, Try.ntmps43
      go_wp2
      go_ret
      exact ⟨rfl, Below.refl _ _⟩
    · have d1 : decide (8 < d) = false := by simpa using c1
      have w1 : IntKind.i64.wrap (8 * d) = 8 * d := IntWalk.i64_in _ (by omega)
      have w2 : IntKind.i64.wrap (29 + 8 * d) = 29 + 8 * d := IntWalk.i64_in _ (by omega)
      have w3 : IntKind.i64.wrap (79 + 8 * d) = 79 + 8 * d := IntWalk.i64_in _ (by omega)
      unfold sizeF at hZ
      rw [if_pos (by omega)] at hZ
      by_cases k1 : k = 1
      · subst k1
        rw [if_pos rfl] at hZ
        by_cases e0 : d = 0
        · subst e0
          rw [if_pos rfl] at hZ
          subst hZ
          go_enter Try.func43, Try.ntmps43
          go_wp2
          go_ret
          exact ⟨rfl, Below.refl _ _⟩
        · have e0' : (d == 0) = false := by simpa using e0
          rw [if_neg e0] at hZ
          subst hZ
          go_enter Try.func43, Try.ntmps43
          go_wp2
          go_ret
          exact ⟨rfl, Below.refl _ _⟩
      · have k1' : (k == 1) = false := by simpa using k1
        rw [if_neg k1] at hZ
        by_cases k2 : k = 2
        · subst k2
          rw [if_pos rfl] at hZ
          subst hZ
          go_enter Try.func43, Try.ntmps43
          go_wp2
          go_ret
          exact ⟨rfl, Below.refl _ _⟩
        · have k2' : (k == 2) = false := by simpa using k2
          rw [if_neg k2] at hZ
          by_cases k3 : k = 3
          · subst k3
            rw [if_pos rfl] at hZ
            by_cases e0 : d = 0
            · subst e0
              rw [if_pos rfl] at hZ
              subst hZ
              go_enter Try.func43, Try.ntmps43
              go_wp2
              go_ret
              exact ⟨rfl, Below.refl _ _⟩
            · have e0' : (d == 0) = false := by simpa using e0
              rw [if_neg e0] at hZ
              subst hZ
              go_enter Try.func43, Try.ntmps43
              go_wp2
              go_ret
              exact ⟨rfl, Below.refl _ _⟩
          · have k3' : (k == 3) = false := by simpa using k3
            rw [if_neg k3] at hZ
            by_cases k4 : k = 4
            · subst k4
              rw [if_pos rfl] at hZ
              subst hZ
              go_enter Try.func43, Try.ntmps43
              go_wp2
              go_ret
              exact ⟨rfl, Below.refl _ _⟩
            · have k4' : (k == 4) = false := by simpa using k4
              rw [if_neg k4] at hZ
              subst hZ
              go_enter Try.func43, Try.ntmps43
              go_wp2
              go_ret
              exact ⟨rfl, Below.refl _ _⟩
set_option maxRecDepth 8000 in
set_option maxHeartbeats 2000000 in
theorem size_1 (d : Int) (w : World) : Calls Try.prog 71 #[.int .i64 1, .int .i64 d] w fun e w' => e = .returned (.int .i64 (sizeF 1 d)) ∧ Below w.heap.size w w' := by
  have hp := fun W => partsOf_1 W
  have hh := fun W => head_1 W
  have HP := Lib.hid hp; have HH := Lib.hid hh; clear hp hh
  obtain ⟨Z, hZ⟩ : ∃ Z, Z = sizeF 1 d := ⟨_, rfl⟩
  rw [← hZ]
  unfold sizeF at hZ
  by_cases c0 : d < 0
  · have d0 : decide (d < 0) = true := by simpa using c0
    rw [if_neg (by omega)] at hZ
    subst hZ
    go_enter Try.func71, Try.ntmps71
    go_wp2_with fail
    refine (HP.out _).mono ?_
    rintro e w1 ⟨rfl, hB1⟩
    dsimp only
    have b1 := hB1.trans ((Below.al w1 (.cells #[.int .i64 11, .int .i64 3, .int .i64 0, .int .i64 24, .int .i64 0] 96)).mono hB1.size)
    clear HP HH
    go_wp2
    go_ret
    exact ⟨rfl, b1⟩
  · have d0 : decide (d < 0) = false := by simpa using c0
    by_cases c1 : 0 < d
    · have d1 : decide (0 < d) = true := by simpa using c1
      have hz : Z = 0 := by
        rw [hZ]
        by_cases h8 : 0 ≤ d ∧ d ≤ 8
        · rw [if_pos h8]; simp; try omega
        · rw [if_neg h8]
      subst hz
      clear hZ
      go_enter Try.func71, Try.ntmps71
      go_wp2_with fail
      refine (HP.out _).mono ?_
      rintro e w1 ⟨rfl, hB1⟩
      dsimp only
      have b1 := hB1.trans ((Below.al w1 (.cells #[.int .i64 11, .int .i64 3, .int .i64 0, .int .i64 24, .int .i64 0] 96)).mono hB1.size)
      clear HP HH
      go_wp2
      go_ret
      exact ⟨rfl, b1⟩
    · have d1 : decide (0 < d) = false := by simpa using c1
      rw [if_pos (by omega)] at hZ
      have hd : d = 0 := by omega
      subst hd
      have hz : Z = 40 := by rw [hZ]; rfl
      subst hz
      clear hZ
      go_enter Try.func71, Try.ntmps71
      go_wp2_with fail
      refine (HP.out _).mono ?_
      rintro e w1 ⟨rfl, hB1⟩
      dsimp only
      have k1 := Blk.new w1 96 #[.int .i64 11, .int .i64 3, .int .i64 0, .int .i64 24, .int .i64 0]
      have b1 := hB1.trans ((Below.al w1 (.cells #[.int .i64 11, .int .i64 3, .int .i64 0, .int .i64 24, .int .i64 0] 96)).mono hB1.size)
      clear hB1 HP
      go_wp2_with fail
      generalize w1.alloc (.cells #[.int .i64 11, .int .i64 3, .int .i64 0, .int .i64 24, .int .i64 0] 96) = w2 at *
      generalize w1.heap.size = g at *
      have hdr : Below w2.heap.size w2 w2.drew := (Below.refl _ _).drew
      replace k1 := k1.on hdr
      replace b1 := b1.trans (hdr.mono b1.size)
      clear hdr
      obtain ⟨⟨p0, p1, p2, p3, p4⟩, -⟩ := k1.five
      go_region_with (go_at_call 76; refine (HH.out _).mono ?_; rintro e w5 ⟨rfl, hB5⟩; dsimp only; replace k1 := k1.on hB5; replace b1 := b1.trans (hB5.mono b1.size); clear hB5; obtain ⟨⟨p0, p1, p2, p3, p4⟩, -⟩ := k1.five)
      all_goals
        clear HH
        go_wp2
        go_ret
        exact ⟨rfl, b1⟩
set_option maxRecDepth 8000 in
set_option maxHeartbeats 2000000 in
theorem size_2 (d : Int) (w : World) : Calls Try.prog 71 #[.int .i64 2, .int .i64 d] w fun e w' => e = .returned (.int .i64 (sizeF 2 d)) ∧ Below w.heap.size w w' := by
  have hp := fun W => partsOf_2 W
  have hh := fun W => head_2 W
  have HP := Lib.hid hp; have HH := Lib.hid hh; clear hp hh
  obtain ⟨Z, hZ⟩ : ∃ Z, Z = sizeF 2 d := ⟨_, rfl⟩
  rw [← hZ]
  unfold sizeF at hZ
  by_cases c0 : d < 0
  · have d0 : decide (d < 0) = true := by simpa using c0
    rw [if_neg (by omega)] at hZ
    subst hZ
    go_enter Try.func71, Try.ntmps71
    go_wp2_with fail
    refine (HP.out _).mono ?_
    rintro e w1 ⟨rfl, hB1⟩
    dsimp only
    have b1 := hB1.trans ((Below.al w1 (.cells #[.int .i64 3, .int .i64 0, .int .i64 0, .int .i64 0, .int .i64 8] 96)).mono hB1.size)
    clear HP HH
    go_wp2
    go_ret
    exact ⟨rfl, b1⟩
  · have d0 : decide (d < 0) = false := by simpa using c0
    by_cases c1 : 8 < d
    · have d1 : decide (8 < d) = true := by simpa using c1
      have hz : Z = 0 := by
        rw [hZ]
        by_cases h8 : 0 ≤ d ∧ d ≤ 8
        · rw [if_pos h8]; simp; try omega
        · rw [if_neg h8]
      subst hz
      clear hZ
      go_enter Try.func71, Try.ntmps71
      go_wp2_with fail
      refine (HP.out _).mono ?_
      rintro e w1 ⟨rfl, hB1⟩
      dsimp only
      have b1 := hB1.trans ((Below.al w1 (.cells #[.int .i64 3, .int .i64 0, .int .i64 0, .int .i64 0, .int .i64 8] 96)).mono hB1.size)
      clear HP HH
      go_wp2
      go_ret
      exact ⟨rfl, b1⟩
    · have d1 : decide (8 < d) = false := by simpa using c1
      rw [if_pos (by omega)] at hZ
      have w1' : IntKind.i64.wrap (d * 8) = d * 8 := IntWalk.i64_in _ (by omega)
      have w2' : IntKind.i64.wrap (d * 8 + 24) = d * 8 + 24 := IntWalk.i64_in _ (by omega)
      have w3' : IntKind.i64.wrap (5 + (d * 8 + 24)) = 5 + (d * 8 + 24) := IntWalk.i64_in _ (by omega)
      have hz : Z = 5 + (d * 8 + 24) := by rw [hZ]; simp; omega
      subst hz
      clear hZ
      go_enter Try.func71, Try.ntmps71
      go_wp2_with fail
      refine (HP.out _).mono ?_
      rintro e w1 ⟨rfl, hB1⟩
      dsimp only
      have k1 := Blk.new w1 96 #[.int .i64 3, .int .i64 0, .int .i64 0, .int .i64 0, .int .i64 8]
      have b1 := hB1.trans ((Below.al w1 (.cells #[.int .i64 3, .int .i64 0, .int .i64 0, .int .i64 0, .int .i64 8] 96)).mono hB1.size)
      clear hB1 HP
      go_wp2_with fail
      generalize w1.alloc (.cells #[.int .i64 3, .int .i64 0, .int .i64 0, .int .i64 0, .int .i64 8] 96) = w2 at *
      generalize w1.heap.size = g at *
      have hdr : Below w2.heap.size w2 w2.drew := (Below.refl _ _).drew
      replace k1 := k1.on hdr
      replace b1 := b1.trans (hdr.mono b1.size)
      clear hdr
      obtain ⟨⟨p0, p1, p2, p3, p4⟩, -⟩ := k1.five
      go_region_with (go_at_call 76; refine (HH.out _).mono ?_; rintro e w5 ⟨rfl, hB5⟩; dsimp only; replace k1 := k1.on hB5; replace b1 := b1.trans (hB5.mono b1.size); clear hB5; obtain ⟨⟨p0, p1, p2, p3, p4⟩, -⟩ := k1.five)
      all_goals
        clear HH
        go_wp2
        go_ret
        exact ⟨rfl, b1⟩
set_option maxRecDepth 8000 in
set_option maxHeartbeats 2000000 in
theorem size_3 (d : Int) (w : World) : Calls Try.prog 71 #[.int .i64 3, .int .i64 d] w fun e w' => e = .returned (.int .i64 (sizeF 3 d)) ∧ Below w.heap.size w w' := by
  have hp := fun W => partsOf_3 W
  have hh := fun W => head_3 W
  have HP := Lib.hid hp; have HH := Lib.hid hh; clear hp hh
  obtain ⟨Z, hZ⟩ : ∃ Z, Z = sizeF 3 d := ⟨_, rfl⟩
  rw [← hZ]
  unfold sizeF at hZ
  by_cases c0 : d < 0
  · have d0 : decide (d < 0) = true := by simpa using c0
    rw [if_neg (by omega)] at hZ
    subst hZ
    go_enter Try.func71, Try.ntmps71
    go_wp2_with fail
    refine (HP.out _).mono ?_
    rintro e w1 ⟨rfl, hB1⟩
    dsimp only
    have b1 := hB1.trans ((Below.al w1 (.cells #[.int .i64 3, .int .i64 1, .int .i64 24, .int .i64 24, .int .i64 0] 96)).mono hB1.size)
    clear HP HH
    go_wp2
    go_ret
    exact ⟨rfl, b1⟩
  · have d0 : decide (d < 0) = false := by simpa using c0
    by_cases c1 : 0 < d
    · have d1 : decide (0 < d) = true := by simpa using c1
      have hz : Z = 0 := by
        rw [hZ]
        by_cases h8 : 0 ≤ d ∧ d ≤ 8
        · rw [if_pos h8]; simp; try omega
        · rw [if_neg h8]
      subst hz
      clear hZ
      go_enter Try.func71, Try.ntmps71
      go_wp2_with fail
      refine (HP.out _).mono ?_
      rintro e w1 ⟨rfl, hB1⟩
      dsimp only
      have b1 := hB1.trans ((Below.al w1 (.cells #[.int .i64 3, .int .i64 1, .int .i64 24, .int .i64 24, .int .i64 0] 96)).mono hB1.size)
      clear HP HH
      go_wp2
      go_ret
      exact ⟨rfl, b1⟩
    · have d1 : decide (0 < d) = false := by simpa using c1
      rw [if_pos (by omega)] at hZ
      have hd : d = 0 := by omega
      subst hd
      have hz : Z = 54 := by rw [hZ]; rfl
      subst hz
      clear hZ
      go_enter Try.func71, Try.ntmps71
      go_wp2_with fail
      refine (HP.out _).mono ?_
      rintro e w1 ⟨rfl, hB1⟩
      dsimp only
      have k1 := Blk.new w1 96 #[.int .i64 3, .int .i64 1, .int .i64 24, .int .i64 24, .int .i64 0]
      have b1 := hB1.trans ((Below.al w1 (.cells #[.int .i64 3, .int .i64 1, .int .i64 24, .int .i64 24, .int .i64 0] 96)).mono hB1.size)
      clear hB1 HP
      go_wp2_with fail
      generalize w1.alloc (.cells #[.int .i64 3, .int .i64 1, .int .i64 24, .int .i64 24, .int .i64 0] 96) = w2 at *
      generalize w1.heap.size = g at *
      have hdr : Below w2.heap.size w2 w2.drew := (Below.refl _ _).drew
      replace k1 := k1.on hdr
      replace b1 := b1.trans (hdr.mono b1.size)
      clear hdr
      obtain ⟨⟨p0, p1, p2, p3, p4⟩, -⟩ := k1.five
      go_region_with (go_at_call 76; refine (HH.out _).mono ?_; rintro e w5 ⟨rfl, hB5⟩; dsimp only; replace k1 := k1.on hB5; replace b1 := b1.trans (hB5.mono b1.size); clear hB5; obtain ⟨⟨p0, p1, p2, p3, p4⟩, -⟩ := k1.five)
      all_goals
        clear HH
        go_wp2
        go_ret
        exact ⟨rfl, b1⟩
set_option maxRecDepth 8000 in
set_option maxHeartbeats 2000000 in
theorem size_4 (d : Int) (w : World) : Calls Try.prog 71 #[.int .i64 4, .int .i64 d] w fun e w' => e = .returned (.int .i64 (sizeF 4 d)) ∧ Below w.heap.size w w' := by
  have hp := fun W => partsOf_4 W
  have hh := fun W => head_4 W
  have HP := Lib.hid hp; have HH := Lib.hid hh; clear hp hh
  obtain ⟨Z, hZ⟩ : ∃ Z, Z = sizeF 4 d := ⟨_, rfl⟩
  rw [← hZ]
  unfold sizeF at hZ
  by_cases c0 : d < 0
  · have d0 : decide (d < 0) = true := by simpa using c0
    rw [if_neg (by omega)] at hZ
    subst hZ
    go_enter Try.func71, Try.ntmps71
    go_wp2_with fail
    refine (HP.out _).mono ?_
    rintro e w1 ⟨rfl, hB1⟩
    dsimp only
    have b1 := hB1.trans ((Below.al w1 (.cells #[.int .i64 3, .int .i64 2, .int .i64 24, .int .i64 24, .int .i64 8] 96)).mono hB1.size)
    clear HP HH
    go_wp2
    go_ret
    exact ⟨rfl, b1⟩
  · have d0 : decide (d < 0) = false := by simpa using c0
    by_cases c1 : 8 < d
    · have d1 : decide (8 < d) = true := by simpa using c1
      have hz : Z = 0 := by
        rw [hZ]
        by_cases h8 : 0 ≤ d ∧ d ≤ 8
        · rw [if_pos h8]; simp; try omega
        · rw [if_neg h8]
      subst hz
      clear hZ
      go_enter Try.func71, Try.ntmps71
      go_wp2_with fail
      refine (HP.out _).mono ?_
      rintro e w1 ⟨rfl, hB1⟩
      dsimp only
      have b1 := hB1.trans ((Below.al w1 (.cells #[.int .i64 3, .int .i64 2, .int .i64 24, .int .i64 24, .int .i64 8] 96)).mono hB1.size)
      clear HP HH
      go_wp2
      go_ret
      exact ⟨rfl, b1⟩
    · have d1 : decide (8 < d) = false := by simpa using c1
      rw [if_pos (by omega)] at hZ
      have w1' : IntKind.i64.wrap (d * 8) = d * 8 := IntWalk.i64_in _ (by omega)
      have w2' : IntKind.i64.wrap (d * 8 + 24) = d * 8 + 24 := IntWalk.i64_in _ (by omega)
      have w3' : IntKind.i64.wrap (55 + (d * 8 + 24)) = 55 + (d * 8 + 24) := IntWalk.i64_in _ (by omega)
      have hz : Z = 55 + (d * 8 + 24) := by rw [hZ]; simp; omega
      subst hz
      clear hZ
      go_enter Try.func71, Try.ntmps71
      go_wp2_with fail
      refine (HP.out _).mono ?_
      rintro e w1 ⟨rfl, hB1⟩
      dsimp only
      have k1 := Blk.new w1 96 #[.int .i64 3, .int .i64 2, .int .i64 24, .int .i64 24, .int .i64 8]
      have b1 := hB1.trans ((Below.al w1 (.cells #[.int .i64 3, .int .i64 2, .int .i64 24, .int .i64 24, .int .i64 8] 96)).mono hB1.size)
      clear hB1 HP
      go_wp2_with fail
      generalize w1.alloc (.cells #[.int .i64 3, .int .i64 2, .int .i64 24, .int .i64 24, .int .i64 8] 96) = w2 at *
      generalize w1.heap.size = g at *
      have hdr : Below w2.heap.size w2 w2.drew := (Below.refl _ _).drew
      replace k1 := k1.on hdr
      replace b1 := b1.trans (hdr.mono b1.size)
      clear hdr
      obtain ⟨⟨p0, p1, p2, p3, p4⟩, -⟩ := k1.five
      go_region_with (go_at_call 76; refine (HH.out _).mono ?_; rintro e w5 ⟨rfl, hB5⟩; dsimp only; replace k1 := k1.on hB5; replace b1 := b1.trans (hB5.mono b1.size); clear hB5; obtain ⟨⟨p0, p1, p2, p3, p4⟩, -⟩ := k1.five)
      all_goals
        clear HH
        go_wp2
        go_ret
        exact ⟨rfl, b1⟩
set_option maxRecDepth 8000 in
set_option maxHeartbeats 2000000 in
theorem size_no (k d : Int) (h1 : (k == 1) = false) (h2 : (k == 2) = false) (h3 : (k == 3) = false) (h4 : (k == 4) = false) (w : World) : Calls Try.prog 71 #[.int .i64 k, .int .i64 d] w fun e w' => e = .returned (.int .i64 0) ∧ Below w.heap.size w w' := by
  have hp := fun W => partsOf_no k h1 h2 h3 h4 W
  have HP := Lib.hid hp; clear hp
  go_enter Try.func71, Try.ntmps71
  go_wp2_with fail
  refine (HP.out _).mono ?_
  rintro e w1 ⟨rfl, hB1⟩
  dsimp only
  have b1 := hB1.trans ((Below.al w1 (.cells #[.int .i64 0, .int .i64 0, .int .i64 0, .int .i64 0, .int .i64 0] 96)).mono hB1.size)
  clear HP
  go_wp2
  go_ret
  exact ⟨rfl, b1⟩
theorem size_any (k d : Int) (w : World) : Calls Try.prog 71 #[.int .i64 k, .int .i64 d] w fun e w' => e = .returned (.int .i64 (sizeF k d)) ∧ Below w.heap.size w w' := by
  by_cases h1 : k = 1
  · subst h1; exact size_1 d w
  · by_cases h2 : k = 2
    · subst h2; exact size_2 d w
    · by_cases h3 : k = 3
      · subst h3; exact size_3 d w
      · by_cases h4 : k = 4
        · subst h4; exact size_4 d w
        · have hz : sizeF k d = 0 := by unfold sizeF; rw [if_neg h1, if_neg h2, if_neg h3, if_neg h4]; simp
          rw [hz]
          exact size_no k d (by simpa using h1) (by simpa using h2) (by simpa using h3) (by simpa using h4) w
set_option maxRecDepth 4000 in
set_option maxHeartbeats 400000 in
theorem payLen_any (n : Nat) (w : World) (h : n ≤ 65536) : Calls Try.prog 74 #[.int .i64 n] w fun e w' => e = .returned (.int .i64 ((n + 1) / 2 : Nat)) ∧ w = w' := by
  have h1 : IntKind.i64.wrap ((n : Int) + 2) = (n : Int) + 2 := IntWalk.i64_in _ (by omega)
  have h2 : IntKind.i64.wrap ((n : Int) + 2 - 1) = (n : Int) + 1 := by rw [IntWalk.i64_in _ (by omega)]; omega
  have h3 : IntKind.i64.wrap (((n : Int) + 1).tdiv 2) = ((n + 1) / 2 : Nat) := by
    rw [Int.tdiv_eq_ediv_of_nonneg (by omega), IntWalk.i64_in _ (by omega)]; omega
  go_enter Try.func74, Try.ntmps74
  go_wp2
  go_ret
  exact ⟨rfl, rfl⟩

set_option maxRecDepth 4000 in
set_option maxHeartbeats 400000 in
theorem air_any (n : Int) (w : World) : Calls Try.prog 70 #[.int .i64 n] w fun e w' => e = .returned (.int .i64 (airS n)) ∧ w = w' := by
  unfold airS
  by_cases h0 : n < 0
  · rw [if_pos (.inl h0)]
    have hd : decide (n < 0) = true := by simpa using h0
    go_enter Try.func70, Try.ntmps70
    go_wp2
    go_ret
    exact ⟨rfl, rfl⟩
  · have hd : decide (n < 0) = false := by simpa using h0
    by_cases h1 : 4095 < n
    · rw [if_pos (.inr h1)]
      have hd1 : decide (4095 < n) = true := by simpa using h1
      go_enter Try.func70, Try.ntmps70
      go_wp2
      go_ret
      exact ⟨rfl, rfl⟩
    · rw [if_neg (fun h => h.elim h0 h1)]
      have hd1 : decide (4095 < n) = false := by simpa using h1
      obtain ⟨m, rfl⟩ := Int.eq_ofNat_of_zero_le (show 0 ≤ n by omega)
      have hd2 : decide (4095 < m) = false := by simp; omega
      have hpa := fun w1 => payLen_any m w1 (by omega)
      obtain ⟨p, hp⟩ : ∃ p, p = (m + 1) / 2 := ⟨_, rfl⟩
      rw [← hp] at hpa
      have hr : (14 : Int) + ((m : Int) + 1) / 2 = 14 + (p : Int) := by omega
      rw [hr]
      have HPA := Lib.hid hpa
      clear hpa hr
      have hw : IntKind.i64.wrap (14 + (p : Int)) = 14 + (p : Int) := IntWalk.i64_in _ (by omega)
      clear hp
      go_enter Try.func70, Try.ntmps70
      go_wp2_with fail
      refine (HPA.out _).mono ?_
      rintro e w1 ⟨rfl, rfl⟩
      go_wp2
      go_ret
      exact ⟨rfl, rfl⟩

end Go.Proofs.Ytlkmipcenlhacaa
