/-
  What the statements of package phasor begin with: two bits as a sample, and turned once; which rows are few. Conditions: those that each theorem names.
-/
import Derived.Test.YtdmedhklcicpeaaW2
import Derived.Test.YtdmedhklcicpeaaG3
namespace Go.Proofs.Ytdmedhklcicpeaa
open Go.RowKit

theorem begun_enc {bs : List UInt8} (h : IsBits [false, true] bs) : encodeS 2 bs 5 = (0, encL [false, true] 5) := by
  have h1 := isBits_good h (by decide)
  have h2 := isBits_listOf h
  unfold encodeS
  change (if goodB ((([false, true] : List Bool).length : Nat) : Int) bs = true then _ else _) = _
  rw [if_pos h1, if_pos (by decide), if_pos (by decide)]
  change (0, encL (listOf ((([false, true] : List Bool).length : Nat) : Int) bs) 5) = _
  rw [h2]
theorem begun_last : (encL [false, true] 5)[14]?.getD (0, 0) = (-5, 5) := by decide
theorem begun_len : (encL [false, true] 5).length = 15 := by decide
theorem begun_may : (encL [false, true] 5).all mayS = true := by decide
theorem begun_tlast : ((encL [false, true] 5).map (turn1 · 1))[14]?.getD (0, 0) = (-5, -5) := by decide

set_option maxRecDepth 8000 in
set_option maxHeartbeats 2000000 in
theorem begun_any (w : World) : Calls Try.prog 12 #[] w fun e w' => e = .returned (.bool true) ∧ Below w.heap.size w w' := by
  have hpa := rparse_any ⟨#[48, 49]⟩ w (by decide)
  rw [show parseS (⟨#[48, 49]⟩ : ByteArray).data.toList = (0, [false, true]) from by decide] at hpa
  have HPA := Lib.hid hpa; clear hpa
  go_enter Try.func12, Try.ntmps12
  go_wp2_with fail
  refine HPA.out.mono ?_
  rintro e w1 ⟨A1, n1, c1, bs1, rfl, hn1, his1, hl1, hA1, hB1, _⟩
  dsimp only at *
  have hsm := bytes_small his1 hl1
  have hbn : Below w1.heap.size w1 (w1.alloc (.cells #[.int .i64 2, .slice A1 n1 c1] 24)) := (Below.refl _ _).alloc (Nat.le_refl _) _
  have hen := encode_any 2 5 A1 n1 c1 bs1 _ hn1 (by rw [hn1]; exact hsm) (hA1.on hbn)
  rw [begun_enc his1] at hen
  have HEN := Lib.hid hen; clear hen hn1 his1 hl1 hsm hA1
  have hBw1 := hB1.trans (hbn.mono hB1.size)
  go_wp2_with fail
  refine HEN.out.mono ?_
  rintro e w2 ⟨A2, n2, c2, rfl, hn2, _, hA2, hB2, _⟩
  dsimp only at *
  have hBw2 := hBw1.trans (hB2.mono hBw1.size)
  rw [begun_len] at hn2
  subst hn2
  have htn := turn_s A2 15 c2 (encL [false, true] 5) 1 w2 begun_len.symm (by decide) hA2
  unfold turnS at htn
  rw [if_pos begun_may] at htn
  have HTN := Lib.hid htn; clear htn
  go_wp2_with fail
  refine HTN.out.mono ?_
  rintro e w3 ⟨A3, n3, c3, rfl, hn3, _, hA3, hB3, _⟩
  have hBw3 := hBw2.trans (hB3.mono hBw2.size)
  rw [show ((0 : Int), (encL [false, true] 5).map (turn1 · 1)).2.length = 15 from by decide] at hn3
  subst hn3
  obtain ⟨b2, o2, rfl, hb2, hc20, hc21⟩ := (hA2.on hB3).at_ (k := 14) (by decide)
  obtain ⟨b3, o3, rfl, hb3, hc30, hc31⟩ := hA3.at_ (k := 14) (by decide)
  rw [begun_last] at hc20 hc21
  dsimp only at hc30 hc31
  rw [begun_tlast] at hc30 hc31
  dsimp only at *
  clear hA2 hA3
  go_wp2
  go_ret
  exact ⟨rfl, hBw3⟩

/-- A slice as it is handed on. -/
abbrev SV := Option Addr × Nat × Nat
/-- The slice at X holds the slices xs. -/
def SVs (n₀ : Nat) (W : World) (X : Option Addr) (xs : List SV) : Prop :=
  xs ≠ [] → ∃ b off, X = some ⟨b, off, none⟩ ∧ b < n₀ ∧ ∀ j, j < xs.length → W.cell? ⟨b, off + j, none⟩ = some (.slice (xs[j]?.getD (none, 0, 0)).1 (xs[j]?.getD (none, 0, 0)).2.1 (xs[j]?.getD (none, 0, 0)).2.2)
theorem SVs.below {n₀ : Nat} {W W' : World} {A : Option Addr} {l : List SV} (h : SVs n₀ W A l) (hb : Below n₀ W W') : SVs n₀ W' A l := fun hn => by
  obtain ⟨b, off, e, hlt, hc⟩ := h hn
  exact ⟨b, off, e, hlt, fun j hj => (hb.cell (p := ⟨b, off + j, none⟩) hlt).trans (hc j hj)⟩
theorem SVs.mono {n₀ n₁ : Nat} {W : World} {A : Option Addr} {l : List SV} (h : SVs n₀ W A l) (hn : n₀ ≤ n₁) : SVs n₁ W A l := fun hb => by
  obtain ⟨b, off, e, hlt, hc⟩ := h hb
  exact ⟨b, off, e, Nat.lt_of_lt_of_le hlt hn, hc⟩
theorem SVs.on {w w' : World} {A : Option Addr} {l : List SV} (h : SVs w.heap.size w A l) (hb : Below w.heap.size w w') : SVs w'.heap.size w' A l := (h.below hb).mono hb.size
theorem SVs.at_ {n₀ : Nat} {W : World} {A : Option Addr} {l : List SV} (h : SVs n₀ W A l) {k : Nat} (hk : k < l.length) :
    ∃ b off, A = some ⟨b, off, none⟩ ∧ b < n₀ ∧ W.cell? ⟨b, off + k, none⟩ = some (.slice (l[k]?.getD (none, 0, 0)).1 (l[k]?.getD (none, 0, 0)).2.1 (l[k]?.getD (none, 0, 0)).2.2) := by
  obtain ⟨b, off, e, hlt, hc⟩ := h (by rintro rfl; simp at hk)
  exact ⟨b, off, e, hlt, hc k hk⟩
theorem one_svs {w : World} {g : Nat} {x : SV} {t : TypeId} (h : Blk w g t #[.slice x.1 x.2.1 x.2.2]) : SVs w.heap.size w (some ⟨g, 0, none⟩) [x] := fun _ =>
  ⟨g, 0, rfl, h.lt, fun j hj => by
    have : j = 0 := by simpa using hj
    subst this
    exact h.cell 0⟩
/-- Are they few? -/
def fewS (xs : List SV) : Bool := decide (xs.length ≤ 50) && xs.all fun x => decide (x.2.1 ≤ 5000)

set_option maxRecDepth 4000 in
set_option maxHeartbeats 1000000 in
theorem few_any (X : Option Addr) (n c : Nat) (xs : List SV) (w : World) (hn : n = xs.length) (hc : n ≤ c) (hm : n ≤ maxLen) (hX : SVs w.heap.size w X xs) (hxm : ∀ x ∈ xs, x.2.1 ≤ maxLen) :
    Calls Try.prog 18 #[.slice X n c] w fun e w' => e = .returned (.bool (fewS xs)) ∧ w = w' := by
  unfold maxLen at hm hxm
  obtain ⟨R, hR⟩ : ∃ R, R = fewS xs := ⟨_, rfl⟩
  rw [← hR]
  have HN := Lib.hid hn; have HX := Lib.hid hX; have HXM := Lib.hid hxm; have HR := Lib.hid hR
  clear hn hX hxm hR
  obtain ⟨m, hmn⟩ : ∃ m : Nat, (if (50 : Int) < (n : Int) then (50 : Int) else (n : Int)) = (m : Int) := ⟨if 50 < n then 50 else n, by split <;> split <;> omega⟩
  have hm2 : m ≤ n ∧ m ≤ 50 ∧ (m < n → m = 50) := by
    split at hmn <;> omega
  obtain ⟨hm3, hm4, hm5⟩ := hm2
  go_enter Try.func18, Try.ntmps18
  go_wp2
  go_loopw [11] (fun i wr => ∃ k : Nat, k ≤ m ∧ i = .int .i64 k ∧ (∀ x ∈ xs.take k, x.2.1 ≤ 5000) ∧ w = wr)
    (fun i _ => m - (intOf i).toNat)
  case atStart => exact ⟨0, by omega, rfl, fun x hx => by simp at hx, rfl⟩
  case round =>
    obtain ⟨k, hk, rfl, hall, rfl⟩ := hrel
    have HALL := Lib.hid hall; clear hall
    by_cases hlt : k < m
    · have hkl : k < xs.length := by have := HN.out; omega
      obtain ⟨b, off, rfl, hbl, hc0⟩ := HX.out.at_ hkl
      have hxk : xs[k]?.getD (none, 0, 0) = xs[k] := by rw [List.getElem?_eq_getElem hkl]; rfl
      rw [hxk] at hc0
      have hmx := HXM.out _ (List.getElem_mem hkl)
      have hmem := List.getElem_mem hkl
      have htk : xs.take (k + 1) = xs.take k ++ [xs[k]] := by rw [List.take_add_one, List.getElem?_eq_getElem hkl]; rfl
      generalize xs[k] = x at *
      obtain ⟨xa, xn, xc⟩ := x
      dsimp only at *
      have HTK := Lib.hid htk; have HMEM := Lib.hid hmem
      clear htk hmem hxk hkl
      by_cases h5 : 5000 < xn
      · have hd0 : decide ((5000 : Int) < (xn : Int)) = true := by simp; omega
        have hd1 : decide (5000 < xn) = true := by simpa using h5
        go_wp2
        go_ret
        have hr : fewS xs = false := by
          unfold fewS
          rw [Bool.and_eq_false_iff]
          right
          rw [List.all_eq_false]
          exact ⟨_, HMEM.out, by simp; omega⟩
        rw [HR.out, hr]
        exact ⟨rfl, rfl⟩
      · have hd0 : decide ((5000 : Int) < (xn : Int)) = false := by simp; omega
        have hd1 : decide (5000 < xn) = false := by simpa using h5
        go_wp2
        go_roundw
        case rel =>
          refine ⟨k + 1, by omega, by go_num, fun x hx => ?_, trivial⟩
          rw [HTK.out] at hx
          rcases List.mem_append.1 hx with hx | hx
          · exact HALL.out x hx
          · simp at hx; subst hx; simp; omega
        case measure => simp [intOf]; omega
    · obtain rfl : k = m := by omega
      have hd0 : decide ((n : Int) ≤ 50) = R := by
        rw [HR.out]
        unfold fewS
        by_cases hn5 : n ≤ 50
        · have hkn : k = n := by omega
          have htk : xs.take k = xs := List.take_of_length_le (by have := HN.out; omega)
          have hall := HALL.out
          rw [htk] at hall
          have h1 : decide (xs.length ≤ 50) = true := by have := HN.out; simp; omega
          have h2 : (xs.all fun x => decide (x.2.1 ≤ 5000)) = true := by
            rw [List.all_eq_true]; intro x hx; simpa using hall x hx
          rw [h1, h2]
          simp; omega
        · have h1 : decide (xs.length ≤ 50) = false := by have := HN.out; simp; omega
          rw [h1]
          simp; omega
      have hd1 : decide (n ≤ 50) = R := by
        rw [← hd0, decide_eq_decide]; omega
      have HD0 := Lib.hid hd0; have HD1 := Lib.hid hd1
      clear hd0 hd1
      go_wp2
      go_ret
      first
      | exact ⟨by rw [HD0.out]; rfl, rfl⟩
      | exact ⟨by rw [HD1.out]; rfl, rfl⟩
end Go.Proofs.Ytdmedhklcicpeaa
