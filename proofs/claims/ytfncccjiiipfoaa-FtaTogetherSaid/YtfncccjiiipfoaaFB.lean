/-
  Numbers in slices: the least and the greatest (the document's, slices.Min and slices.Max), slices.Clone, what the statements go through. Conditions: those that each theorem names.
-/
import Derived.Test.YtfncccjiiipfoaaFA
import Derived.Test.YtfncccjiiipfoaaH3
import Derived.Lib.SliceRun
namespace Go.Proofs.Ytfncccjiiipfoaa
open Go.RowKit

theorem Ints.take {n₀ : Nat} {W : World} {A : Option Addr} {l : List Int} (h : Ints n₀ W A l) (k : Nat) : Ints n₀ W A (l.take k) := fun hn => by
  obtain ⟨b, off, e, hlt, hc⟩ := h (by rintro rfl; simp at hn)
  refine ⟨b, off, e, hlt, fun j hj => ?_⟩
  rw [List.length_take] at hj
  have := hc j (by omega)
  rw [List.getElem?_take_of_lt (by omega)]
  exact this
theorem Ints.nAt {n₀ : Nat} {W : World} {A : Option Addr} {zs : List Int} (h : Ints n₀ W A zs) {k : Nat} (hk : k < zs.length) :
    ∃ b off, A = some ⟨b, off, none⟩ ∧ b < n₀ ∧ W.cell? ⟨b, off + k, none⟩ = some (.int .i64 (nth zs k)) := h.at_ hk
theorem ints_own {w : World} {base : Nat} {v : Value} {k : Nat} {l : List Int} (h : w.ownsRow base 2 1 v k (l.map (Value.int .i64))) : ∃ A c, v = .slice A l.length c ∧ l.length ≤ c ∧ (A = none → l.length = 0 ∧ c = 0) ∧ Ints w.heap.size w A l := by
  have hk : l.length = k := by have := h.1; rw [List.length_map] at this; omega
  rcases h.2 with ⟨rfl, h0⟩ | ⟨g, cap, cur, rfl, _, hh, hc, _⟩
  · exact ⟨none, 0, by rw [hk, h0], by omega, fun _ => ⟨by omega, rfl⟩, fun hne => absurd (List.eq_nil_of_length_eq_zero (hk.trans h0)) hne⟩
  · refine ⟨some ⟨g, 0, none⟩, cap, by rw [hk], by omega, (fun e => by cases e), fun _ => ⟨g, 0, rfl, (Array.getElem?_eq_some_iff.1 hh).1, fun j hj => ?_⟩⟩
    have e1 := h.cells (g := g) rfl j (.int .i64 (l[j]?.getD 0)) (by rw [List.getElem?_map, List.getElem?_eq_getElem hj]; rfl)
    rw [addr_add] at e1
    exact e1
theorem ints_cells {n₀ : Nat} {w : World} {a : Addr} {l : List Int} (h : Ints n₀ w (some a) l) (j : Nat) (u : Value) (hj : (l.map (Value.int .i64))[j]? = some u) : w.cell? (a.add j) = some u := by
  have hjl : j < l.length := by
    rcases Nat.lt_or_ge j l.length with h | h
    · exact h
    · rw [List.getElem?_eq_none (by simpa using h)] at hj; cases hj
  obtain ⟨b, off, e, _, hc⟩ := h (by rintro rfl; simp at hjl)
  injection e with e
  subst e
  rw [addr_add, hc j hjl, ← hj, List.getElem?_map, List.getElem?_eq_getElem hjl]; rfl
theorem ints_one (l : List Int) : ∀ x ∈ l.map (Value.int .i64), x.oneCell' = true := by
  intro x hx; obtain ⟨y, _, rfl⟩ := List.mem_map.1 hx; rfl
theorem Try.infoJ : (Try.prog.info? 2).map (fun i => (i.zero, i.size, i.bytes)) = some (some (.int .i64 0), 1, 8) := by kernel_rfl

set_option maxRecDepth 4000 in
set_option maxHeartbeats 1000000 in
theorem fewJ_any (A : Option Addr) (n c m : Nat) (w : World) (hc : n ≤ c) (hm : n ≤ maxLen) (hmin : m = min n 60) (hA : A = none → n = 0 ∧ c = 0) :
    Calls Try.prog 9 #[.slice A n c] w fun e w' => e = .returned (.slice A m c) ∧ w = w' := by
  unfold maxLen at hm
  have hmn : (if (60 : Int) < (n : Int) then (60 : Int) else (n : Int)) = (m : Int) := by split <;> omega
  have hm1 : m ≤ n := by omega
  have hm2 : m ≤ c := by omega
  clear hmin
  cases A with
  | none =>
    obtain ⟨rfl, rfl⟩ := hA rfl
    obtain rfl : m = 0 := by omega
    go_enter Try.func9, Try.ntmps9
    go_wp2
    go_ret
    exact ⟨rfl, rfl⟩
  | some a =>
    clear hA
    go_enter Try.func9, Try.ntmps9
    go_wp2
    go_ret
    exact ⟨rfl, rfl⟩

theorem run_noInts (w : World) : (Instr.buildSlice 22 0 #[]).run Try.prog w = .ok (.slice (some ⟨w.heap.size, 0, none⟩) 0 0) (w.alloc (.cells #[] 2)) := by
  obtain ⟨i0, hi, _⟩ := info_parts Try.infoJ
  simp [Instr.buildSlice, run_underlying Try.underlying22, sizeOf, typeInfo, hi, newRow, Instr.fill]
  rw [show Array.range 0 = #[] from by simp [Array.range], Array.map_empty]

set_option maxRecDepth 4000 in
set_option maxHeartbeats 1000000 in
/-- slices.Clone: the same numbers, in memory of its own. -/
theorem jclone_any (A : Option Addr) (n c : Nat) (l : List Int) (w : World) (hn : n = l.length) (hm : n ≤ 65536) (hA : Ints w.heap.size w A l) (hc : A = none → n = 0 ∧ c = 0) :
    Calls Try.prog 10 #[.slice A n c] w fun e w' => ∃ v, e = .returned v ∧ w'.ownsRow w.heap.size 2 1 v n (l.map (Value.int .i64)) ∧ Below w.heap.size w w' := by
  have HN := Lib.hid hn; clear hn
  have HA := Lib.hid hA; clear hA
  obtain ⟨i0, hi, hz0, hz1, hz2⟩ := info_parts Try.infoJ
  have hnil := fun a n c w => Lib.run_eql_slice_nil (P := Try.prog) w 22 2 a n c 0 0 Try.underlying22
  cases A with
  | none =>
    obtain ⟨rfl, rfl⟩ := hc rfl
    clear hc
    go_enter Try.func10, Try.ntmps10
    go_wp2
    go_ret
    have : l = [] := List.eq_nil_of_length_eq_zero HN.out.symm
    subst this
    exact ⟨_, rfl, World.ownsRow_nil _ _ _ _, Below.refl _ _⟩
  | some a =>
    clear hc
    have hbs := run_noInts
    have hcs : (l.map (Value.int .i64)).length = n * 1 := by rw [List.length_map, HN.out]; omega
    have HCS := Lib.hid hcs; clear hcs
    go_enter Try.func10, Try.ntmps10
    go_wp2_with (at_builtin; refine wpList_append_own _ rfl _ _ 22 rfl w.heap.size 2 i0 (.int .i64 0) 1 8 Try.underlying22 hi hz0 hz1 hz2 rfl (by decide) _ 0 [] rfl (World.ownsRow_lit w #[] 0 (Nat.le_refl _) (by decide) rfl) a n c (l.map (Value.int .i64)) rfl HCS.out (fun j u hj => ints_cells (HA.out.below ((Below.refl _ _).alloc (Nat.le_refl _) _)) j u hj) (ints_one l) (by unfold maxLen; omega) (by omega) (by simp) ?_; intro v' w1 hown hgrow _)
    rw [List.nil_append, Nat.zero_add] at hown
    have hg2 : (w.alloc (.cells #[] 2)).grownBy w1 (some w.heap.size) := hgrow
    clear hnil hbs hgrow
    go_ret
    exact ⟨v', rfl, hown, ((Below.refl _ _).alloc (Nat.le_refl _) _).grown hg2 (by simp) (fun k e => by injection e with e; omega)⟩

theorem fold_snoc (f : Int → Int → Int) (l : List Int) (k : Nat) (a : Int) (h : k < l.length) : (l.take (k + 1)).foldl f a = f ((l.take k).foldl f a) (nth l k) := by
  rw [take_nth l k h, List.foldl_append]; rfl
theorem min_if (a b : Int) : (if b < a then b else a) = min a b := by
  rw [Int.min_def]; split <;> split <;> omega
theorem max_if (a b : Int) : (if a < b then b else a) = max a b := by
  rw [Int.max_def]; split <;> split <;> omega
set_option maxHeartbeats 1000000 in
theorem rleast_any (A : Option Addr) (n c : Nat) (l : List Int) (w : World) (hn : n = l.length) (hm : n ≤ maxLen) (h0 : 0 < n) (hA : Ints w.heap.size w A l) :
    Calls Try.prog 24 #[.slice A n c] w fun e w' => e = .returned (.int .i64 (nth (sortI l) 0)) ∧ w' = w := by
  unfold maxLen at hm
  have hR : l.foldl min (nth l 0) = (nth (sortI l) 0) := least_is l (by omega)
  generalize (nth (sortI l) 0) = R at hR ⊢
  obtain ⟨b, off, rfl, hbl, hc0⟩ := hA.nAt (k := 0) (by omega)
  rw [Nat.add_zero] at hc0
  have HN := Lib.hid hn; have HA := Lib.hid hA; have HR := Lib.hid hR; clear hn hA hR
  generalize hs : nth l 0 = s at *
  have HS := Lib.hid hs; clear hs
  go_enter Try.func24, Try.ntmps24
  go_wp2
  go_loopw [3, 4] (fun m i wr => ∃ k : Nat, k ≤ n ∧ m = .int .i64 ((l.take k).foldl min s) ∧ i = .int .i64 k ∧ wr = w) (fun _ i _ => n - (intOf i).toNat)
  case atStart => exact ⟨0, by omega, rfl, rfl, rfl⟩
  case round =>
    obtain ⟨k, hk, rfl, rfl, rfl⟩ := hrel
    by_cases hlt : k < n
    · have hkl : k < l.length := by have := HN.out; omega
      have hsn := fold_snoc min l k s hkl
      obtain ⟨b', off', e', hbl', hc1⟩ := HA.out.nAt hkl
      injection e' with e'; injection e' with e1 e2 _; subst e1; subst e2
      generalize (l.take k).foldl min s = u at *
      generalize nth l k = v at *
      have hif := min_if u v
      have HSN := Lib.hid hsn; have HIF := Lib.hid hif; clear hsn hif hc0 hkl
      go_wp2
      go_roundw
      case rel => exact ⟨k + 1, by omega, by rw [HSN.out, ← HIF.out], by go_num, by trivial⟩
      case measure => simp [intOf]; omega
    · have : l.take k = l := List.take_of_length_le (by have := HN.out; omega)
      rw [this, HR.out]
      clear hc0
      go_wp2
      go_ret
      exact ⟨rfl, rfl⟩
set_option maxHeartbeats 1000000 in
theorem rmost_any (A : Option Addr) (n c : Nat) (l : List Int) (w : World) (hn : n = l.length) (hm : n ≤ maxLen) (h0 : 0 < n) (hA : Ints w.heap.size w A l) :
    Calls Try.prog 25 #[.slice A n c] w fun e w' => e = .returned (.int .i64 (nth (sortI l) (l.length - 1))) ∧ w' = w := by
  unfold maxLen at hm
  have hR : l.foldl max (nth l 0) = (nth (sortI l) (l.length - 1)) := most_is l (by omega)
  generalize (nth (sortI l) (l.length - 1)) = R at hR ⊢
  obtain ⟨b, off, rfl, hbl, hc0⟩ := hA.nAt (k := 0) (by omega)
  rw [Nat.add_zero] at hc0
  have HN := Lib.hid hn; have HA := Lib.hid hA; have HR := Lib.hid hR; clear hn hA hR
  generalize hs : nth l 0 = s at *
  have HS := Lib.hid hs; clear hs
  go_enter Try.func25, Try.ntmps25
  go_wp2
  go_loopw [3, 4] (fun m i wr => ∃ k : Nat, k ≤ n ∧ m = .int .i64 ((l.take k).foldl max s) ∧ i = .int .i64 k ∧ wr = w) (fun _ i _ => n - (intOf i).toNat)
  case atStart => exact ⟨0, by omega, rfl, rfl, rfl⟩
  case round =>
    obtain ⟨k, hk, rfl, rfl, rfl⟩ := hrel
    by_cases hlt : k < n
    · have hkl : k < l.length := by have := HN.out; omega
      have hsn := fold_snoc max l k s hkl
      obtain ⟨b', off', e', hbl', hc1⟩ := HA.out.nAt hkl
      injection e' with e'; injection e' with e1 e2 _; subst e1; subst e2
      generalize (l.take k).foldl max s = u at *
      generalize nth l k = v at *
      have hif := max_if u v
      have HSN := Lib.hid hsn; have HIF := Lib.hid hif; clear hsn hif hc0 hkl
      go_wp2
      go_roundw
      case rel => exact ⟨k + 1, by omega, by rw [HSN.out, ← HIF.out], by go_num, by trivial⟩
      case measure => simp [intOf]; omega
    · have : l.take k = l := List.take_of_length_le (by have := HN.out; omega)
      rw [this, HR.out]
      clear hc0
      go_wp2
      go_ret
      exact ⟨rfl, rfl⟩
set_option maxHeartbeats 1000000 in
theorem jmin_any (A : Option Addr) (n c : Nat) (l : List Int) (w : World) (hn : n = l.length) (hm : n ≤ maxLen) (h0 : 0 < n) (hA : Ints w.heap.size w A l) :
    Calls Try.prog 28 #[.slice A n c] w fun e w' => e = .returned (.int .i64 (nth (sortI l) 0)) ∧ w' = w := by
  unfold maxLen at hm
  have hR : l.foldl min (nth l 0) = (nth (sortI l) 0) := least_is l (by omega)
  generalize (nth (sortI l) 0) = R at hR ⊢
  obtain ⟨b, off, rfl, hbl, hc0⟩ := hA.nAt (k := 0) (by omega)
  rw [Nat.add_zero] at hc0
  have HN := Lib.hid hn; have HA := Lib.hid hA; have HR := Lib.hid hR; clear hn hA hR
  generalize hs : nth l 0 = s at *
  have HS := Lib.hid hs; clear hs
  go_enter Try.func28, Try.ntmps28
  go_wp2
  go_loopw [3, 4] (fun m i wr => ∃ k : Nat, k ≤ n ∧ m = .int .i64 ((l.take k).foldl min s) ∧ i = .int .i64 k ∧ wr = w) (fun _ i _ => n - (intOf i).toNat)
  case atStart => exact ⟨1, by omega, by rw [fold_snoc min l 0 s (by have := HN.out; omega), ← HS.out]; show _ = Value.int .i64 (min (nth l 0) (nth l 0)); simp, rfl, rfl⟩
  case round =>
    obtain ⟨k, hk, rfl, rfl, rfl⟩ := hrel
    by_cases hlt : k < n
    · have hkl : k < l.length := by have := HN.out; omega
      have hsn := fold_snoc min l k s hkl
      obtain ⟨b', off', e', hbl', hc1⟩ := HA.out.nAt hkl
      injection e' with e'; injection e' with e1 e2 _; subst e1; subst e2
      generalize (l.take k).foldl min s = u at *
      generalize nth l k = v at *
      have hif := min_if u v
      have HSN := Lib.hid hsn; have HIF := Lib.hid hif; clear hsn hif hc0 hkl
      go_wp2
      go_roundw
      case rel => exact ⟨k + 1, by omega, by rw [HSN.out, ← HIF.out], by go_num, by trivial⟩
      case measure => simp [intOf]; omega
    · have : l.take k = l := List.take_of_length_le (by have := HN.out; omega)
      rw [this, HR.out]
      clear hc0
      go_wp2
      go_ret
      exact ⟨rfl, rfl⟩
set_option maxHeartbeats 1000000 in
theorem jmax_any (A : Option Addr) (n c : Nat) (l : List Int) (w : World) (hn : n = l.length) (hm : n ≤ maxLen) (h0 : 0 < n) (hA : Ints w.heap.size w A l) :
    Calls Try.prog 27 #[.slice A n c] w fun e w' => e = .returned (.int .i64 (nth (sortI l) (l.length - 1))) ∧ w' = w := by
  unfold maxLen at hm
  have hR : l.foldl max (nth l 0) = (nth (sortI l) (l.length - 1)) := most_is l (by omega)
  generalize (nth (sortI l) (l.length - 1)) = R at hR ⊢
  obtain ⟨b, off, rfl, hbl, hc0⟩ := hA.nAt (k := 0) (by omega)
  rw [Nat.add_zero] at hc0
  have HN := Lib.hid hn; have HA := Lib.hid hA; have HR := Lib.hid hR; clear hn hA hR
  generalize hs : nth l 0 = s at *
  have HS := Lib.hid hs; clear hs
  go_enter Try.func27, Try.ntmps27
  go_wp2
  go_loopw [3, 4] (fun m i wr => ∃ k : Nat, k ≤ n ∧ m = .int .i64 ((l.take k).foldl max s) ∧ i = .int .i64 k ∧ wr = w) (fun _ i _ => n - (intOf i).toNat)
  case atStart => exact ⟨1, by omega, by rw [fold_snoc max l 0 s (by have := HN.out; omega), ← HS.out]; show _ = Value.int .i64 (max (nth l 0) (nth l 0)); simp, rfl, rfl⟩
  case round =>
    obtain ⟨k, hk, rfl, rfl, rfl⟩ := hrel
    by_cases hlt : k < n
    · have hkl : k < l.length := by have := HN.out; omega
      have hsn := fold_snoc max l k s hkl
      obtain ⟨b', off', e', hbl', hc1⟩ := HA.out.nAt hkl
      injection e' with e'; injection e' with e1 e2 _; subst e1; subst e2
      generalize (l.take k).foldl max s = u at *
      generalize nth l k = v at *
      have hif := max_if u v
      have HSN := Lib.hid hsn; have HIF := Lib.hid hif; clear hsn hif hc0 hkl
      go_wp2
      go_roundw
      case rel => exact ⟨k + 1, by omega, by rw [HSN.out, ← HIF.out], by go_num, by trivial⟩
      case measure => simp [intOf]; omega
    · have : l.take k = l := List.take_of_length_le (by have := HN.out; omega)
      rw [this, HR.out]
      clear hc0
      go_wp2
      go_ret
      exact ⟨rfl, rfl⟩
end Go.Proofs.Ytfncccjiiipfoaa
