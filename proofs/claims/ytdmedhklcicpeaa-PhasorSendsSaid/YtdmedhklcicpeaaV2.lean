/-
  The program's rows of complex numbers: the preamble, what a turn multiplies with, whether all samples may be, samples of numbers. Conditions: those that each theorem names.
-/
import Derived.Test.YtdmedhklcicpeaaV1
namespace Go.Proofs.Ytdmedhklcicpeaa
open Go.RowKit

/-- Cells of samples, cells of complex numbers with whole parts. -/
def SRow (cs : Array Value) (l : List Sp) : Prop := ∀ j, j < l.length → cs[j * 2]? = some (.int .i64 (l[j]?.getD (0, 0)).1) ∧ cs[j * 2 + 1]? = some (.int .i64 (l[j]?.getD (0, 0)).2)
def CRow (cs : Array Value) (l : List Sp) : Prop := ∀ j, j < l.length → ∃ a b, cs[j]? = some (.complex .f64 a b) ∧ IsF a (l[j]?.getD (0, 0)).1 ∧ IsF b (l[j]?.getD (0, 0)).2
/-- The slice at A holds the complex numbers l. -/
def Cxs (n₀ : Nat) (W : World) (A : Option Addr) (l : List Sp) : Prop :=
  l ≠ [] → ∃ b off, A = some ⟨b, off, none⟩ ∧ b < n₀ ∧ ∀ j, j < l.length → ∃ x y, W.cell? ⟨b, off + j, none⟩ = some (.complex .f64 x y) ∧ IsF x (l[j]?.getD (0, 0)).1 ∧ IsF y (l[j]?.getD (0, 0)).2
theorem Cxs.below {n₀ : Nat} {W W' : World} {A : Option Addr} {l : List Sp} (h : Cxs n₀ W A l) (hb : Below n₀ W W') : Cxs n₀ W' A l := fun hn => by
  obtain ⟨b, off, e, hlt, hc⟩ := h hn
  refine ⟨b, off, e, hlt, fun j hj => ?_⟩
  obtain ⟨x, y, h1, h2⟩ := hc j hj
  exact ⟨x, y, (hb.cell (p := ⟨b, off + j, none⟩) hlt).trans h1, h2⟩
theorem Cxs.mono {n₀ n₁ : Nat} {W : World} {A : Option Addr} {l : List Sp} (h : Cxs n₀ W A l) (hn : n₀ ≤ n₁) : Cxs n₁ W A l := fun hb => by
  obtain ⟨b, off, e, hlt, hc⟩ := h hb
  exact ⟨b, off, e, Nat.lt_of_lt_of_le hlt hn, hc⟩
theorem Cxs.on {w w' : World} {A : Option Addr} {l : List Sp} (h : Cxs w.heap.size w A l) (hb : Below w.heap.size w w') : Cxs w'.heap.size w' A l := (h.below hb).mono hb.size
theorem Cxs.at_ {n₀ : Nat} {W : World} {A : Option Addr} {l : List Sp} (h : Cxs n₀ W A l) {k : Nat} (hk : k < l.length) :
    ∃ b off, A = some ⟨b, off, none⟩ ∧ b < n₀ ∧ ∃ x y, W.cell? ⟨b, off + k, none⟩ = some (.complex .f64 x y) ∧ IsF x (l[k]?.getD (0, 0)).1 ∧ IsF y (l[k]?.getD (0, 0)).2 := by
  obtain ⟨b, off, e, hlt, hc⟩ := h (by rintro rfl; simp at hk)
  exact ⟨b, off, e, hlt, hc k hk⟩
theorem cxs_of_blk {w : World} {g : Nat} {cs : Array Value} {l : List Sp} (hb : Blk w g 63 cs) (h : CRow cs l) : Cxs w.heap.size w (some ⟨g, 0, none⟩) l := fun _ =>
  ⟨g, 0, rfl, hb.lt, fun j hj => by
    obtain ⟨x, y, h1, h2⟩ := h j hj
    exact ⟨x, y, by rw [Nat.zero_add, hb.cell]; exact h1, h2⟩⟩
theorem smps_of_blk {w : World} {g : Nat} {cs : Array Value} {l : List Sp} (hb : Blk w g 38 cs) (h : SRow cs l) : Smps w.heap.size w (some ⟨g, 0, none⟩) l := fun _ =>
  ⟨g, 0, rfl, hb.lt, fun j hj => by
    obtain ⟨h1, h2⟩ := h j hj
    exact ⟨by rw [Nat.zero_add, hb.cell]; exact h1, by rw [Nat.zero_add, hb.cell]; exact h2⟩⟩
theorem take_get (l : List Sp) (k j : Nat) (h : j < k) : (l.take k)[j]?.getD (0, 0) = l[j]?.getD (0, 0) := by
  rw [List.getElem?_take_of_lt h]
theorem SRow.more {cs : Array Value} {l : List Sp} {k : Nat} (h : SRow cs (l.take k)) (hk : k < l.length) (hs : l.length * 2 ≤ cs.size) {x y : Int} (he : l[k]?.getD (0, 0) = (x, y)) :
    SRow ((cs.setIfInBounds (k * 2) (.int .i64 x)).setIfInBounds (k * 2 + 1) (.int .i64 y)) (l.take (k + 1)) := by
  intro j hj
  rw [List.length_take] at hj
  rw [take_get _ _ _ (by omega)]
  by_cases hjk : j = k
  · subst hjk
    rw [he]
    constructor
    · rw [Array.getElem?_setIfInBounds_ne (by omega), Array.getElem?_setIfInBounds_self_of_lt (by omega)]
    · rw [Array.getElem?_setIfInBounds_self_of_lt (by simp; omega)]
  · obtain ⟨h1, h2⟩ := h j (by rw [List.length_take]; omega)
    rw [take_get _ _ _ (by omega)] at h1 h2
    constructor
    · rw [Array.getElem?_setIfInBounds_ne (by omega), Array.getElem?_setIfInBounds_ne (by omega)]; exact h1
    · rw [Array.getElem?_setIfInBounds_ne (by omega), Array.getElem?_setIfInBounds_ne (by omega)]; exact h2
theorem CRow.more {cs : Array Value} {l : List Sp} {k : Nat} (h : CRow cs (l.take k)) (hk : k < l.length) (hs : l.length ≤ cs.size) {x y : Int} (he : l[k]?.getD (0, 0) = (x, y)) {a b : Nat} (ha : IsF a x) (hb : IsF b y) :
    CRow (cs.setIfInBounds k (.complex .f64 a b)) (l.take (k + 1)) := by
  intro j hj
  rw [List.length_take] at hj
  rw [take_get _ _ _ (by omega)]
  by_cases hjk : j = k
  · subst hjk
    rw [he]
    exact ⟨a, b, by rw [Array.getElem?_setIfInBounds_self_of_lt (by omega)], ha, hb⟩
  · obtain ⟨x', y', h1, h2⟩ := h j (by rw [List.length_take]; omega)
    rw [take_get _ _ _ (by omega)] at h2
    exact ⟨x', y', by rw [Array.getElem?_setIfInBounds_ne (by omega)]; exact h1, h2⟩

/-- The preamble's complex numbers. -/
def preC : Array Value := #[.complex .f64 4607182418800017408 4607182418800017408, .complex .f64 4607182418800017408 4607182418800017408, .complex .f64 13830554455654793216 13830554455654793216, .complex .f64 4607182418800017408 13830554455654793216, .complex .f64 13830554455654793216 4607182418800017408, .complex .f64 4607182418800017408 4607182418800017408, .complex .f64 13830554455654793216 4607182418800017408, .complex .f64 4607182418800017408 13830554455654793216]
theorem preC_row : CRow preC pre := by
  intro j hj
  have hj' : j < 8 := hj
  match j, hj' with
  | 0, _ => exact ⟨_, _, rfl, isF_one, isF_one⟩
  | 1, _ => exact ⟨_, _, rfl, isF_one, isF_one⟩
  | 2, _ => exact ⟨_, _, rfl, isF_minus, isF_minus⟩
  | 3, _ => exact ⟨_, _, rfl, isF_one, isF_minus⟩
  | 4, _ => exact ⟨_, _, rfl, isF_minus, isF_one⟩
  | 5, _ => exact ⟨_, _, rfl, isF_one, isF_one⟩
  | 6, _ => exact ⟨_, _, rfl, isF_minus, isF_one⟩
  | 7, _ => exact ⟨_, _, rfl, isF_one, isF_minus⟩

set_option maxRecDepth 4000 in
set_option maxHeartbeats 400000 in
theorem preamble_any (w : World) : Calls Try.prog 36 #[] w fun e w' => e = .returned (.agg preC) ∧ Below w.heap.size w w' := by
  go_enter Try.func36, Try.ntmps36
  go_wp2
  refine bodyPost_ret (v := .agg preC) (by simp [results, Try.results36, go_sem, preC]) rfl ⟨rfl, (Below.refl _ _).alloc (Nat.le_refl _) _⟩

theorem ti_step (k : Int) : turn1 (1, 0) (k + 1) = (-(turn1 (1, 0) k).2, (turn1 (1, 0) k).1) := by
  have hc : k % 4 = 0 ∨ k % 4 = 1 ∨ k % 4 = 2 ∨ k % 4 = 3 := by omega
  unfold turn1
  rcases hc with h | h | h | h
  · rw [h, show (k + 1) % 4 = 1 by omega]; rfl
  · rw [h, show (k + 1) % 4 = 2 by omega]; rfl
  · rw [h, show (k + 1) % 4 = 3 by omega]; rfl
  · rw [h, show (k + 1) % 4 = 0 by omega]; rfl
theorem turn1_mod (s : Sp) (q : Int) : turn1 s (q % 4) = turn1 s q := by
  unfold turn1; rw [Int.emod_emod_of_dvd _ (by decide)]
theorem ti_small (k : Int) : (turn1 (1, 0) k).1.natAbs ≤ 2 ^ 24 ∧ (turn1 (1, 0) k).2.natAbs ≤ 2 ^ 24 := by
  unfold turn1
  split
  · decide
  · split
    · decide
    · split <;> decide

set_option maxRecDepth 4000 in
set_option maxHeartbeats 400000 in
theorem turnBy_any (q : Int) (w : World) : Calls Try.prog 46 #[.int .i64 q] w fun e w' => ∃ a b, e = .returned (.complex .f64 a b) ∧ IsF a (turn1 (1, 0) q).1 ∧ IsF b (turn1 (1, 0) q).2 ∧ w = w' := by
  obtain ⟨t, ht⟩ : ∃ t, q.tmod 4 = t := ⟨_, rfl⟩
  have htl : -4 < t ∧ t < 4 := by
    rw [← ht]
    have h1 := Int.tmod_lt_of_pos q (show (0 : Int) < 4 by decide)
    have h2 := Int.lt_tmod_of_pos q (show (0 : Int) < 4 by decide)
    omega
  have hr : (t + 4) % 4 = q % 4 := by
    rw [← ht]
    have := Int.tmod_add_mul_tdiv q 4
    omega
  obtain ⟨m, hm⟩ : ∃ m : Nat, q % 4 = (m : Int) := ⟨(q % 4).toNat, by omega⟩
  have hm4 : m < 4 := by omega
  have hr2 : (t + 4).tmod 4 = (m : Int) := by rw [Int.tmod_eq_emod_of_nonneg (by omega), ← hm]; exact hr
  have hR : turn1 (1, 0) q = turn1 (1, 0) (m : Int) := by rw [← hm, turn1_mod]
  rw [hR]
  rw [hm] at hr
  obtain ⟨ht0, ht1⟩ := htl
  clear hR hm
  go_enter Try.func46, Try.ntmps46
  go_wp2
  go_loopw [3, 8] (fun b i wr => ∃ k x y : Nat, k ≤ m ∧ i = .int .i64 k ∧ b = .complex .f64 x y ∧ IsF x (turn1 (1, 0) (k : Int)).1 ∧ IsF y (turn1 (1, 0) (k : Int)).2 ∧ w = wr)
    (fun _ i _ => m - (intOf i).toNat)
  case atStart => exact ⟨0, _, _, by omega, rfl, rfl, isF_one, isF_zero, rfl⟩
  case round =>
    obtain ⟨k, x, y, hk, rfl, rfl, hx, hy, rfl⟩ := hrel
    by_cases hlt : k < m
    · have hs := ti_small (k : Int)
      obtain ⟨re, im, hmul, hre, him⟩ := isC_mul hx hy isF_zero isF_one hs.1 hs.2 (by decide) (by decide)
      have e := ti_step (k : Int)
      have e1 : (turn1 (1, 0) (k : Int)).1 * 0 - (turn1 (1, 0) (k : Int)).2 * 1 = (turn1 (1, 0) ((k : Int) + 1)).1 := by rw [e]; simp
      have e2 : (turn1 (1, 0) (k : Int)).1 * 1 + (turn1 (1, 0) (k : Int)).2 * 0 = (turn1 (1, 0) ((k : Int) + 1)).2 := by rw [e]; simp
      rw [e1] at hre
      rw [e2] at him
      have hop := fun t w1 => run_complex_mul (P := Try.prog) w1 t x y 0 4607182418800017408 re im hmul
      have HRE := Lib.hid hre; have HIM := Lib.hid him
      clear hre him hmul e e1 e2 hs hx hy
      go_wp2_with (simp only [hop])
      go_roundw
      case rel => exact ⟨k + 1, re, im, by omega, by go_num, rfl, HRE.out, HIM.out, trivial⟩
      case measure => simp [intOf]; omega
    · obtain rfl : k = m := by omega
      have HX := Lib.hid hx; have HY := Lib.hid hy; clear hx hy
      go_wp2
      go_ret
      exact ⟨x, y, rfl, HX.out, HY.out, rfl⟩
end Go.Proofs.Ytdmedhklcicpeaa
