/-
  The program's small functions of package phasor: which samples may be, a sample as a complex number and back, how strong it is, a number turned over. Conditions: those that each theorem names.
-/
import Derived.Test.YtdmedhklcicpeaaS3
import Derived.Test.YtdmedhklcicpeaaU3
import Derived.WalkLawsBesides
namespace Go.Proofs.Ytdmedhklcicpeaa
open Go.RowKit

@[go_sem] theorem run_store_complex (P : Program) (w : World) (a : Addr) (m : Mode) (k : FloatKind) (x y : Nat) : (store a (.complex k x y) m).run P w = stored P w a (.complex k x y) m := run_store P w a _ m rfl

set_option maxRecDepth 4000 in
set_option maxHeartbeats 400000 in
theorem isLevel_any (n : Int) (w : World) : Calls Try.prog 77 #[.int .i64 n] w fun e w' => e = .returned (.bool (decide (-262144 ≤ n) && decide (n ≤ 262144))) ∧ w = w' := by
  by_cases h0 : -262144 ≤ n
  · have hd : decide (-262144 ≤ n) = true := by simpa using h0
    rw [hd]
    go_enter Try.func77, Try.ntmps77
    go_wp2
    go_ret
    exact ⟨rfl, rfl⟩
  · have hd : decide (-262144 ≤ n) = false := by simpa using h0
    rw [hd]
    go_enter Try.func77, Try.ntmps77
    go_wp2
    go_ret
    exact ⟨rfl, rfl⟩

set_option maxRecDepth 4000 in
set_option maxHeartbeats 400000 in
theorem mayBe_any (x y : Int) (w : World) : Calls Try.prog 71 #[.agg #[.int .i64 x, .int .i64 y]] w fun e w' => e = .returned (.bool (mayS (x, y))) ∧ Below w.heap.size w w' := by
  have h1 := fun w1 => isLevel_any x w1
  have h2 := fun w1 => isLevel_any y w1
  unfold mayS
  dsimp only
  have H2 := Lib.hid h2; clear h2
  generalize (decide (-262144 ≤ y) && decide (y ≤ 262144)) = b2 at *
  generalize (decide (-262144 ≤ x) && decide (x ≤ 262144)) = b1 at *
  have H1 := Lib.hid h1; clear h1
  cases b1
  · go_enter Try.func71, Try.ntmps71
    go_wp2_with (go_at_call 77; refine (H1.out _).mono ?_; rintro e w1 ⟨rfl, rfl⟩)
    go_ret
    exact ⟨rfl, (Below.refl _ _).alloc (Nat.le_refl _) _⟩
  · go_enter Try.func71, Try.ntmps71
    go_wp2_with fail
    refine (H1.out _).mono ?_
    rintro e w1 ⟨rfl, rfl⟩
    go_wp2_with fail
    refine (H2.out _).mono ?_
    rintro e w1 ⟨rfl, rfl⟩
    go_wp2
    go_ret
    exact ⟨rfl, (Below.refl _ _).alloc (Nat.le_refl _) _⟩

set_option maxRecDepth 4000 in
set_option maxHeartbeats 400000 in
theorem number_any (x y : Int) (w : World) (hs : mayS (x, y) = true) : Calls Try.prog 47 #[.agg #[.int .i64 x, .int .i64 y]] w fun e w' => ∃ a b, e = .returned (.complex .f64 a b) ∧ IsF a x ∧ IsF b y ∧ Below w.heap.size w w' := by
  obtain ⟨⟨hx0, hx1⟩, hy0, hy1⟩ := (mayS_iff _).1 hs
  dsimp only at hx0 hx1 hy0 hy1
  have h1 := isF_int x (by omega)
  have h2 := isF_int y (by omega)
  clear hs
  go_enter Try.func47, Try.ntmps47
  go_wp2
  go_ret
  exact ⟨_, _, rfl, h1, h2, (Below.refl _ _).alloc (Nat.le_refl _) _⟩

set_option maxRecDepth 4000 in
set_option maxHeartbeats 400000 in
theorem turnedOver_any (a b : Nat) (w : World) : Calls Try.prog 50 #[.complex .f64 a b] w fun e w' => e = .returned (.complex .f64 a (Op.negFloat .f64 b)) ∧ w = w' := by
  have h1 : ∀ w1 : World, (Op.unary .neg (.float .f64 b)).run Try.prog w1 = .ok (.float .f64 (Op.negFloat .f64 b)) w1 := fun _ => rfl
  go_enter Try.func50, Try.ntmps50
  go_wp2_with (simp only [h1])
  go_ret
  exact ⟨rfl, rfl⟩

set_option maxRecDepth 4000 in
set_option maxHeartbeats 400000 in
theorem sample_any (a b : Nat) (x y : Int) (w : World) (ha : IsF a x) (hb : IsF b y) (hx : x.natAbs < 2 ^ 53) (hy : y.natAbs < 2 ^ 53) : Calls Try.prog 52 #[.complex .f64 a b] w fun e w' => e = .returned (.agg #[.int .i64 x, .int .i64 y]) ∧ Below w.heap.size w w' := by
  have h1 := fun w1 => run_convert_float_int (P := Try.prog) w1 68 3 .f64 .i64 a x (by rw [Try.underlying68]; rfl) Try.underlying3 (isF_toInt ha hx)
  have h2 := fun w1 => run_convert_float_int (P := Try.prog) w1 68 3 .f64 .i64 b y (by rw [Try.underlying68]; rfl) Try.underlying3 (isF_toInt hb hy)
  clear ha hb hx hy
  go_enter Try.func52, Try.ntmps52
  go_wp2_with (simp only [h1, h2])
  refine bodyPost_ret (v := .agg #[.int .i64 x, .int .i64 y]) (by simp [results, Try.results52, go_sem]) rfl ⟨rfl, (Below.refl _ _).alloc (Nat.le_refl _) _⟩

set_option maxRecDepth 4000 in
set_option maxHeartbeats 400000 in
theorem power_any (x y : Int) (w : World) (hx : x.natAbs ≤ 2 ^ 24) (hy : y.natAbs ≤ 2 ^ 24) : Calls Try.prog 51 #[.agg #[.int .i64 x, .int .i64 y]] w fun e w' => e = .returned (.int .i64 (x * x + y * y)) ∧ Below w.heap.size w w' := by
  have h1 := prod_small hx hx
  have h2 := prod_small hy hy
  have h0 : (2 : Nat) ^ 24 * 2 ^ 24 = 281474976710656 := by decide
  rw [h0] at h1 h2
  have e1 : IntKind.i64.wrap (x * x) = x * x := IntWalk.i64_in _ (by omega)
  have e2 : IntKind.i64.wrap (y * y) = y * y := IntWalk.i64_in _ (by omega)
  have e3 : IntKind.i64.wrap (x * x + y * y) = x * x + y * y := IntWalk.i64_in _ (by omega)
  clear h1 h2 h0 hx hy
  go_enter Try.func51, Try.ntmps51
  go_wp2
  go_ret
  exact ⟨rfl, (Below.refl _ _).alloc (Nat.le_refl _) _⟩
end Go.Proofs.Ytdmedhklcicpeaa
