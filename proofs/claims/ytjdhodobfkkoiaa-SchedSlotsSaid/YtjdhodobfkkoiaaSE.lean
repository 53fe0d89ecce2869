/-
  Spans in slices: what the statements' few answers, slices.Clone and slices.Equal over spans. Conditions: those that each theorem names.
-/
import Derived.Test.YtjdhodobfkkoiaaSP
import Derived.Lib.SliceRun
namespace Go.Proofs.Ytjdhodobfkkoiaa
open Go.RowKit

theorem Try.infoSp : (Try.prog.info? 23).map (fun i => (i.zero, i.size, i.bytes)) = some (some (.agg #[.int .i64 0, .int .i64 0]), 2, 16) := by kernel_rfl
theorem spans_of_own {w : World} {base : Nat} {v : Value} {k : Nat} {l : List Sp} (h : w.ownsRow base 23 2 v k (cellsS l)) : ∃ A c, v = .slice A l.length c ∧ l.length ≤ c ∧ (A = none → l.length = 0 ∧ c = 0) ∧ Smps w.heap.size w A l := by
  have hk : l.length = k := by have := h.1; rw [cellsS_length] at this; omega
  rcases h.2 with ⟨rfl, h0⟩ | ⟨g, cap, cur, rfl, _, hh, hc, _⟩
  · exact ⟨none, 0, by rw [hk, h0], by omega, fun _ => ⟨by omega, rfl⟩, fun hne => absurd (List.eq_nil_of_length_eq_zero (hk.trans h0)) hne⟩
  · refine ⟨some ⟨g, 0, none⟩, cap, by rw [hk], by omega, (fun e => by cases e), fun _ => ⟨g, 0, rfl, (Array.getElem?_eq_some_iff.1 hh).1, fun j hj => ?_⟩⟩
    obtain ⟨h1, h2⟩ := cellsS_get l j hj
    have e1 := h.cells (g := g) rfl _ _ h1
    have e2 := h.cells (g := g) rfl _ _ h2
    rw [addr_add] at e1 e2
    exact ⟨e1, e2⟩
theorem span_cells {n₀ : Nat} {w : World} {a : Addr} {l : List Sp} (h : Smps n₀ w (some a) l) (j : Nat) (u : Value) (hj : (cellsS l)[j]? = some u) : w.cell? (a.add j) = some u := by
  have hlen := cellsS_length l
  have hjl : j < l.length * 2 := by
    rcases Nat.lt_or_ge j (l.length * 2) with h | h
    · exact h
    · rw [List.getElem?_eq_none (by omega)] at hj; cases hj
  obtain ⟨b, off, e, _, hc⟩ := h (by rintro rfl; simp at hjl)
  injection e with e
  subst e
  obtain ⟨h1, h2⟩ := hc (j / 2) (by omega)
  obtain ⟨g1, g2⟩ := cellsS_get l (j / 2) (by omega)
  rw [addr_add]
  rcases Nat.mod_two_eq_zero_or_one j with hm | hm
  · have e2 : j / 2 * 2 = j := by omega
    rw [e2] at h1 g1
    rw [h1, ← g1, hj]
  · have e2 : j / 2 * 2 + 1 = j := by omega
    rw [show off + j / 2 * 2 + 1 = off + (j / 2 * 2 + 1) by omega, e2] at h2
    rw [e2] at g2
    rw [h2, ← g2, hj]
theorem Smps.take {n₀ : Nat} {W : World} {A : Option Addr} {l : List Sp} (h : Smps n₀ W A l) (k : Nat) : Smps n₀ W A (l.take k) := fun hn => by
  obtain ⟨b, off, e, hlt, hc⟩ := h (by rintro rfl; simp at hn)
  refine ⟨b, off, e, hlt, fun j hj => ?_⟩
  rw [List.length_take] at hj
  have := hc j (by omega)
  rw [List.getElem?_take_of_lt (by omega)]
  exact this

set_option maxRecDepth 4000 in
set_option maxHeartbeats 1000000 in
theorem sfew_any (A : Option Addr) (n c m : Nat) (w : World) (hc : n ≤ c) (hm : n ≤ maxLen) (hmin : m = min n 60) (hA : A = none → n = 0 ∧ c = 0) :
    Calls Try.prog 18 #[.slice A n c] w fun e w' => e = .returned (.slice A m c) ∧ w = w' := by
  unfold maxLen at hm
  have hmn : (if (60 : Int) < (n : Int) then (60 : Int) else (n : Int)) = (m : Int) := by split <;> omega
  have hm1 : m ≤ n := by omega
  have hm2 : m ≤ c := by omega
  clear hmin
  cases A with
  | none =>
    obtain ⟨rfl, rfl⟩ := hA rfl
    obtain rfl : m = 0 := by omega
    go_enter Try.func18, Try.ntmps18
    go_wp2
    go_ret
    exact ⟨rfl, rfl⟩
  | some a =>
    clear hA
    go_enter Try.func18, Try.ntmps18
    go_wp2
    go_ret
    exact ⟨rfl, rfl⟩

set_option maxHeartbeats 1000000 in
/-- slices.Equal, of two rows of spans that are the same. -/
theorem sequal_yes (A B : Option Addr) (n c c' : Nat) (l : List Sp) (w : World) (hn : n = l.length) (hm : n ≤ maxLen) (hA : Smps w.heap.size w A l) (hB : Smps w.heap.size w B l) :
    Calls Try.prog 22 #[.slice A n c, .slice B n c'] w fun e w' => e = .returned (.bool true) ∧ Below w.heap.size w w' := by
  unfold maxLen at hm
  have HN := Lib.hid hn; have HA := Lib.hid hA; have HB := Lib.hid hB; clear hn hA hB
  go_enter Try.func22, Try.ntmps22
  go_wp2
  go_loopw [13] (fun i wr => ∃ k : Nat, k ≤ n ∧ i = .int .i64 k ∧ Below w.heap.size w wr)
    (fun i _ => n - (intOf i).toNat)
  case atStart => exact ⟨0, by omega, rfl, Below.refl _ _⟩
  case round =>
    obtain ⟨k, hk, rfl, hBr⟩ := hrel
    by_cases hlt : k < n
    · have hkl : k < l.length := by have := HN.out; omega
      obtain ⟨b, off, rfl, hbl, hc0, hc1⟩ := (HA.out.below hBr).at_ hkl
      obtain ⟨b', off', rfl, hbl', hc0', hc1'⟩ := (HB.out.below hBr).at_ hkl
      have hbs : b < wr.heap.size := Nat.lt_of_lt_of_le hbl hBr.size
      have hbs' : b' < wr.heap.size := Nat.lt_of_lt_of_le hbl' hBr.size
      generalize l[k]?.getD (0, 0) = s at *
      obtain ⟨x, y⟩ := s
      dsimp only at hc0 hc1 hc0' hc1'
      clear hkl
      go_wp2
      go_quiet (fail)
      go_wp2
      go_roundw
      case rel => exact ⟨k + 1, by omega, by go_num, below_drewN hBr _⟩
      case measure => simp [intOf]; omega
    · go_wp2
      go_ret
      exact ⟨rfl, hBr⟩

theorem run_noSpans (w : World) : (Instr.buildSlice 31 0 #[]).run Try.prog w = .ok (.slice (some ⟨w.heap.size, 0, none⟩) 0 0) (w.alloc (.cells #[] 23)) := by
  obtain ⟨i0, hi, _⟩ := info_parts Try.infoSp
  simp [Instr.buildSlice, run_underlying Try.underlying31, sizeOf, typeInfo, hi, newRow, Instr.fill]
  rw [show Array.range 0 = #[] from by simp [Array.range], Array.map_empty]

set_option maxRecDepth 4000 in
set_option maxHeartbeats 1000000 in
/-- slices.Clone: the same spans, in memory of its own. -/
theorem sclone_any (A : Option Addr) (n c : Nat) (l : List Sp) (w : World) (hn : n = l.length) (hm : n ≤ 65536) (hA : Smps w.heap.size w A l) (hc : A = none → n = 0 ∧ c = 0) :
    Calls Try.prog 19 #[.slice A n c] w fun e w' => ∃ v, e = .returned v ∧ w'.ownsRow w.heap.size 23 2 v n (cellsS l) ∧ Below w.heap.size w w' := by
  have HN := Lib.hid hn; clear hn
  have HA := Lib.hid hA; clear hA
  obtain ⟨i0, hi, hz0, hz1, hz2⟩ := info_parts Try.infoSp
  have hnil := fun a n c w => Lib.run_eql_slice_nil (P := Try.prog) w 31 23 a n c 0 0 Try.underlying31
  cases A with
  | none =>
    obtain ⟨rfl, rfl⟩ := hc rfl
    clear hc
    go_enter Try.func19, Try.ntmps19
    go_wp2
    go_ret
    have : l = [] := List.eq_nil_of_length_eq_zero HN.out.symm
    subst this
    exact ⟨_, rfl, World.ownsRow_nil _ _ _ _, Below.refl _ _⟩
  | some a =>
    clear hc
    have hbs := run_noSpans
    have hcs : (cellsS l).length = n * 2 := by rw [cellsS_length, HN.out]
    have HCS := Lib.hid hcs; clear hcs
    go_enter Try.func19, Try.ntmps19
    go_wp2_with (at_builtin; refine wpList_append_own _ rfl _ _ 31 rfl w.heap.size 23 i0 (.agg #[.int .i64 0, .int .i64 0]) 2 16 Try.underlying31 hi hz0 hz1 hz2 rfl (by decide) _ 0 [] rfl (World.ownsRow_lit w #[] 0 (Nat.le_refl _) (by decide) rfl) a n c (cellsS l) rfl HCS.out (fun j u hj => span_cells (HA.out.below ((Below.refl _ _).alloc (Nat.le_refl _) _)) j u hj) (cellsS_one l) (by unfold maxLen; omega) (by omega) (by simp) ?_; intro v' w1 hown hgrow _)
    rw [List.nil_append, Nat.zero_add] at hown
    have hg2 : (w.alloc (.cells #[] 23)).grownBy w1 (some w.heap.size) := hgrow
    clear hnil hbs hgrow
    go_ret
    exact ⟨v', rfl, hown, ((Below.refl _ _).alloc (Nat.le_refl _) _).grown hg2 (by simp) (fun k e => by injection e with e; omega)⟩
end Go.Proofs.Ytjdhodobfkkoiaa
