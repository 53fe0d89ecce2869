/-
  Contracts of the small functions of package frame: what frames of a Kind have, whether an FrCold has nothing but its own, which frames are the same, and how long they are; and the document's. Conditions: those that each theorem names.
-/
import Derived.Test.YtcfbeelljhjnoaaDoorN0
namespace Go.Proofs.YtcfbeelljhjnoaaDoor
open Go.RowKit

/-- A frame's cells. -/
def FR.cells (f : FR) (A : Option Addr) (n c : Nat) : Array Value := #[.int .i64 f.K, .int .i64 f.R, .int .i64 f.C.T, .int .i64 f.C.P, .int .i64 f.C.Mo, .int .i64 f.C.Nx, .int .i64 f.C.Me, .int .i64 f.F, .slice A n c]
theorem al2 (w : World) (o p : Obj) : Below w.heap.size w ((w.alloc o).alloc p) := ((Below.refl _ _).alloc (Nat.le_refl _) _).alloc (by simp) _
theorem agg_ne {s0 s1 s2 s3 s4 t0 t1 t2 t3 t4 : Int} (hx : ¬ (s0 = t0 ∧ s1 = t1 ∧ s2 = t2 ∧ s3 = t3 ∧ s4 = t4)) (W : World) : (binOp .eql 23 (.agg #[.int .i64 s0, .int .i64 s1, .int .i64 s2, .int .i64 s3, .int .i64 s4]) (.agg #[.int .i64 t0, .int .i64 t1, .int .i64 t2, .int .i64 t3, .int .i64 t4])).run Tryd.prog W = .ok (.bool false) W := by
  by_cases h0 : s0 = t0
  · subst h0
    by_cases h1 : s1 = t1
    · subst h1
      by_cases h2 : s2 = t2
      · subst h2
        by_cases h3 : s3 = t3
        · subst h3
          have h4 : s4 ≠ t4 := fun h => hx ⟨rfl, rfl, rfl, rfl, h⟩
          simp [go_sem, h4]
        · simp [go_sem, h3]
      · simp [go_sem, h2]
    · simp [go_sem, h1]
  · simp [go_sem, h0]
theorem agg_no {s0 s1 s2 s3 s4 t0 t1 t2 t3 t4 : Int} (hx : ¬ (s0 = t0 ∧ s1 = t1 ∧ s2 = t2 ∧ s3 = t3 ∧ s4 = t4)) (W : World) : (binOp .neq 23 (.agg #[.int .i64 s0, .int .i64 s1, .int .i64 s2, .int .i64 s3, .int .i64 s4]) (.agg #[.int .i64 t0, .int .i64 t1, .int .i64 t2, .int .i64 t3, .int .i64 t4])).run Tryd.prog W = .ok (.bool true) W := by
  by_cases h0 : s0 = t0
  · subst h0
    by_cases h1 : s1 = t1
    · subst h1
      by_cases h2 : s2 = t2
      · subst h2
        by_cases h3 : s3 = t3
        · subst h3
          have h4 : s4 ≠ t4 := fun h => hx ⟨rfl, rfl, rfl, rfl, h⟩
          simp [go_sem, h4]
        · simp [go_sem, h3]
      · simp [go_sem, h2]
    · simp [go_sem, h1]
  · simp [go_sem, h0]
set_option maxRecDepth 8000 in
set_option maxHeartbeats 1000000 in
theorem partsOf_1 (w : World) : Calls Tryd.prog 26 #[.int .i64 1] w fun e w' => e = .returned (.tuple #[.agg #[.int .i64 11, .int .i64 3, .int .i64 0, .int .i64 24, .int .i64 0], .bool true]) ∧ Below w.heap.size w w' := by
  go_enter Tryd.func26, Tryd.ntmps26
  go_wp2
  exact bodyPost_ret (v := .tuple #[.agg #[.int .i64 11, .int .i64 3, .int .i64 0, .int .i64 24, .int .i64 0], .bool true]) (by simp [results, Tryd.results26, go_sem]) rfl ⟨rfl, al2 _ _ _⟩
set_option maxRecDepth 8000 in
set_option maxHeartbeats 1000000 in
theorem head_1 (w : World) : Calls Tryd.prog 41 #[.agg #[.int .i64 11, .int .i64 3, .int .i64 0, .int .i64 24, .int .i64 0]] w fun e w' => e = .returned (.int .i64 16) ∧ Below w.heap.size w w' := by
  go_enter Tryd.func41, Tryd.ntmps41
  go_wp2
  go_ret
  exact ⟨rfl, Below.al _ _⟩
set_option maxRecDepth 8000 in
set_option maxHeartbeats 1000000 in
theorem partsOf_2 (w : World) : Calls Tryd.prog 26 #[.int .i64 2] w fun e w' => e = .returned (.tuple #[.agg #[.int .i64 3, .int .i64 0, .int .i64 0, .int .i64 0, .int .i64 8], .bool true]) ∧ Below w.heap.size w w' := by
  go_enter Tryd.func26, Tryd.ntmps26
  go_wp2
  exact bodyPost_ret (v := .tuple #[.agg #[.int .i64 3, .int .i64 0, .int .i64 0, .int .i64 0, .int .i64 8], .bool true]) (by simp [results, Tryd.results26, go_sem]) rfl ⟨rfl, al2 _ _ _⟩
set_option maxRecDepth 8000 in
set_option maxHeartbeats 1000000 in
theorem head_2 (w : World) : Calls Tryd.prog 41 #[.agg #[.int .i64 3, .int .i64 0, .int .i64 0, .int .i64 0, .int .i64 8]] w fun e w' => e = .returned (.int .i64 5) ∧ Below w.heap.size w w' := by
  go_enter Tryd.func41, Tryd.ntmps41
  go_wp2
  go_ret
  exact ⟨rfl, Below.al _ _⟩
set_option maxRecDepth 8000 in
set_option maxHeartbeats 1000000 in
theorem partsOf_3 (w : World) : Calls Tryd.prog 26 #[.int .i64 3] w fun e w' => e = .returned (.tuple #[.agg #[.int .i64 3, .int .i64 1, .int .i64 24, .int .i64 24, .int .i64 0], .bool true]) ∧ Below w.heap.size w w' := by
  go_enter Tryd.func26, Tryd.ntmps26
  go_wp2
  exact bodyPost_ret (v := .tuple #[.agg #[.int .i64 3, .int .i64 1, .int .i64 24, .int .i64 24, .int .i64 0], .bool true]) (by simp [results, Tryd.results26, go_sem]) rfl ⟨rfl, al2 _ _ _⟩
set_option maxRecDepth 8000 in
set_option maxHeartbeats 1000000 in
theorem head_3 (w : World) : Calls Tryd.prog 41 #[.agg #[.int .i64 3, .int .i64 1, .int .i64 24, .int .i64 24, .int .i64 0]] w fun e w' => e = .returned (.int .i64 30) ∧ Below w.heap.size w w' := by
  go_enter Tryd.func41, Tryd.ntmps41
  go_wp2
  go_ret
  exact ⟨rfl, Below.al _ _⟩
set_option maxRecDepth 8000 in
set_option maxHeartbeats 1000000 in
theorem partsOf_4 (w : World) : Calls Tryd.prog 26 #[.int .i64 4] w fun e w' => e = .returned (.tuple #[.agg #[.int .i64 3, .int .i64 2, .int .i64 24, .int .i64 24, .int .i64 8], .bool true]) ∧ Below w.heap.size w w' := by
  go_enter Tryd.func26, Tryd.ntmps26
  go_wp2
  exact bodyPost_ret (v := .tuple #[.agg #[.int .i64 3, .int .i64 2, .int .i64 24, .int .i64 24, .int .i64 8], .bool true]) (by simp [results, Tryd.results26, go_sem]) rfl ⟨rfl, al2 _ _ _⟩
set_option maxRecDepth 8000 in
set_option maxHeartbeats 1000000 in
theorem head_4 (w : World) : Calls Tryd.prog 41 #[.agg #[.int .i64 3, .int .i64 2, .int .i64 24, .int .i64 24, .int .i64 8]] w fun e w' => e = .returned (.int .i64 31) ∧ Below w.heap.size w w' := by
  go_enter Tryd.func41, Tryd.ntmps41
  go_wp2
  go_ret
  exact ⟨rfl, Below.al _ _⟩
set_option maxRecDepth 8000 in
set_option maxHeartbeats 1000000 in
theorem partsOf_no (k : Int) (h1 : (k == 1) = false) (h2 : (k == 2) = false) (h3 : (k == 3) = false) (h4 : (k == 4) = false) (w : World) : Calls Tryd.prog 26 #[.int .i64 k] w fun e w' => e = .returned (.tuple #[.agg #[.int .i64 0, .int .i64 0, .int .i64 0, .int .i64 0, .int .i64 0], .bool false]) ∧ Below w.heap.size w w' := by
  go_enter Tryd.func26, Tryd.ntmps26
  go_wp2
  exact bodyPost_ret (v := .tuple #[.agg #[.int .i64 0, .int .i64 0, .int .i64 0, .int .i64 0, .int .i64 0], .bool false]) (by simp [results, Tryd.results26, go_sem]) rfl ⟨rfl, al2 _ _ _⟩
/-- Has a frame nothing but what an FrCold has? -/
def coldF (f : FR) : Bool := decide (f.R = 0 ∧ 0 ≤ f.F ∧ f.F < 8 ∧ f.C.P = 0 ∧ f.C.Mo = 0 ∧ f.C.Nx = 0 ∧ f.C.Me = 0)
set_option maxRecDepth 8000 in
set_option maxHeartbeats 1000000 in
theorem isCold_any (f : FR) (A : Option Addr) (n c : Nat) (w : World) : Calls Tryd.prog 40 #[.agg (f.cells A n c)] w fun e w' => e = .returned (.bool (coldF f)) ∧ Below w.heap.size w w' := by
  obtain ⟨K, R, ⟨T, P, Mo, Nx, Me⟩, F, ds⟩ := f
  unfold FR.cells
  dsimp only
  obtain ⟨b, hb⟩ : ∃ b, b = coldF ⟨K, R, ⟨T, P, Mo, Nx, Me⟩, F, ds⟩ := ⟨_, rfl⟩
  rw [← hb]
  unfold coldF at hb
  dsimp only at hb
  have hB := Below.al w (.cells #[.int .i64 K, .int .i64 R, .int .i64 T, .int .i64 P, .int .i64 Mo, .int .i64 Nx, .int .i64 Me, .int .i64 F, .slice A n c] 26)
  have HB := Lib.hid hB; clear hB
  by_cases c0 : R = 0
  · subst c0
    by_cases c1 : 0 ≤ F
    · have d1 : decide (0 ≤ F) = true := by simpa using c1
      have d1' : decide (F < 0) = false := by simpa using c1
      by_cases c2 : F < 8
      · have d2 : decide (F < 8) = true := by simpa using c2
        by_cases c3 : P = 0 ∧ Mo = 0 ∧ Nx = 0 ∧ Me = 0
        · obtain ⟨rfl, rfl, rfl, rfl⟩ := c3
          have hb' : b = true := by rw [hb]; simp [c1, c2]
          subst hb'
          clear hb
          go_enter Tryd.func40, Tryd.ntmps40
          go_wp2
          go_ret
          exact ⟨rfl, HB.out⟩
        · have hb' : b = false := by rw [hb]; simp only [decide_eq_false_iff_not]; omega
          subst hb'
          clear hb
          have hop := fun W => agg_ne (s0 := T) (t0 := T) (s1 := P) (t1 := 0) (s2 := Mo) (t2 := 0) (s3 := Nx) (t3 := 0) (s4 := Me) (t4 := 0) (fun h => c3 h.2) W
          clear c3
          go_enter Tryd.func40, Tryd.ntmps40
          go_wp2
          go_ret
          exact ⟨rfl, HB.out⟩
      · have d2 : decide (F < 8) = false := by simpa using c2
        have hb' : b = false := by rw [hb]; simp only [decide_eq_false_iff_not]; omega
        subst hb'
        clear hb
        go_enter Tryd.func40, Tryd.ntmps40
        go_wp2
        go_ret
        exact ⟨rfl, HB.out⟩
    · have d1 : decide (0 ≤ F) = false := by simpa using c1
      have d1' : decide (F < 0) = true := by simpa using c1
      have hb' : b = false := by rw [hb]; simp only [decide_eq_false_iff_not]; omega
      subst hb'
      clear hb
      go_enter Tryd.func40, Tryd.ntmps40
      go_wp2
      go_ret
      exact ⟨rfl, HB.out⟩
  · have d0 : (R == 0) = false := by simpa using c0
    have hb' : b = false := by rw [hb]; simp only [decide_eq_false_iff_not]; omega
    subst hb'
    clear hb
    go_enter Tryd.func40, Tryd.ntmps40
    go_wp2
    go_ret
    exact ⟨rfl, HB.out⟩
set_option maxRecDepth 8000 in
set_option maxHeartbeats 1000000 in
theorem rsize_any (k d : Int) (w : World) : Calls Tryd.prog 14 #[.int .i64 k, .int .i64 d] w fun e w' => e = .returned (.int .i64 (sizeF k d)) ∧ Below w.heap.size w w' := by
  obtain ⟨Z, hZ⟩ : ∃ Z, Z = sizeF k d := ⟨_, rfl⟩
  rw [← hZ]
  by_cases c0 : d < 0
  · have d0 : decide (d < 0) = true := by simpa using c0
    have hz : Z = 0 := by rw [hZ]; unfold sizeF; rw [if_neg (by omega)]
    subst hz; clear hZ
    go_enter Tryd.func14, Tryd.ntmps14
    go_wp2
    go_ret
    exact ⟨rfl, Below.refl _ _⟩
  · have d0 : decide (d < 0) = false := by simpa using c0
    by_cases c1 : 8 < d
    · have d1 : decide (8 < d) = true := by simpa using c1
      have hz : Z = 0 := by rw [hZ]; unfold sizeF; rw [if_neg (by omega)]
      subst hz; clear hZ
      go_enter Tryd.func14, Tryd.ntmps14
      go_wp2
      go_ret
      exact ⟨rfl, Below.refl _ _⟩
    · have d1 : decide (8 < d) = false := by simpa using c1
      have w1 : IntKind.i64.wrap (8 * d) = 8 * d := IntWalk.i64_in _ (by omega)
      have w2 : IntKind.i64.wrap (29 + 8 * d) = 29 + 8 * d := IntWalk.i64_in _ (by omega)
      have w3 : IntKind.i64.wrap (79 + 8 * d) = 79 + 8 * d := IntWalk.i64_in _ (by omega)
      unfold sizeF at hZ
      rw [if_pos (by omega)] at hZ
      by_cases k1 : k = 1
      · subst k1
        rw [if_pos rfl] at hZ
        by_cases e0 : d = 0
        · subst e0
          rw [if_pos rfl] at hZ
          subst hZ
          go_enter Tryd.func14, Tryd.ntmps14
          go_wp2
          go_ret
          exact ⟨rfl, Below.refl _ _⟩
        · have e0' : (d == 0) = false := by simpa using e0
          rw [if_neg e0] at hZ
          subst hZ
          go_enter Tryd.func14, Tryd.ntmps14
          go_wp2
          go_ret
          exact ⟨rfl, Below.refl _ _⟩
      · have k1' : (k == 1) = false := by simpa using k1
        rw [if_neg k1] at hZ
        by_cases k2 : k = 2
        · subst k2
          rw [if_pos rfl] at hZ
          subst hZ
          go_enter Tryd.func14, Tryd.ntmps14
          go_wp2
          go_ret
          exact ⟨rfl, Below.refl _ _⟩
        · have k2' : (k == 2) = false := by simpa using k2
          rw [if_neg k2] at hZ
          by_cases k3 : k = 3
          · subst k3
            rw [if_pos rfl] at hZ
            by_cases e0 : d = 0
            · subst e0
              rw [if_pos rfl] at hZ
              subst hZ
              go_enter Tryd.func14, Tryd.ntmps14
              go_wp2
              go_ret
              exact ⟨rfl, Below.refl _ _⟩
            · have e0' : (d == 0) = false := by simpa using e0
              rw [if_neg e0] at hZ
              subst hZ
              go_enter Tryd.func14, Tryd.ntmps14
              go_wp2
              go_ret
              exact ⟨rfl, Below.refl _ _⟩
          · have k3' : (k == 3) = false := by simpa using k3
            rw [if_neg k3] at hZ
            by_cases k4 : k = 4
            · subst k4
              rw [if_pos rfl] at hZ
              subst hZ
              go_enter Tryd.func14, Tryd.ntmps14
              go_wp2
              go_ret
              exact ⟨rfl, Below.refl _ _⟩
            · have k4' : (k == 4) = false := by simpa using k4
              rw [if_neg k4] at hZ
              subst hZ
              go_enter Tryd.func14, Tryd.ntmps14
              go_wp2
              go_ret
              exact ⟨rfl, Below.refl _ _⟩
end Go.Proofs.YtcfbeelljhjnoaaDoor
