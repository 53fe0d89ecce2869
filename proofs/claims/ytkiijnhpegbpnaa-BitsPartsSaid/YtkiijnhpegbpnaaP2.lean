/-
  slices.Clone and slices.Equal over bytes, as the law of parts calls them. No condition but that the bytes can be read, and, of what is cloned, that it has at most 2^47 bytes.
-/
import Derived.Test.YtkiijnhpegbpnaaP1
import Derived.Lib.SliceRun
namespace Go.Proofs.Ytkiijnhpegbpnaa
open Go.RowKit


set_option maxHeartbeats 1000000 in
/-- slices.Equal, of bytes that are the same. -/
theorem esame_yes (A A' : Option Addr) (c c' n : Nat) (bs : List UInt8) (w : World) (hn : n = bs.length) (hm : n ≤ maxLen) (hA : Byt w.heap.size w A bs) (hA' : Byt w.heap.size w A' bs) :
    Calls Try.prog 31 #[.slice A n c, .slice A' n c'] w fun e w' => e = .returned (.bool true) ∧ Below w.heap.size w w' := by
  unfold maxLen at hm
  have HN := Lib.hid hn; clear hn
  go_enter Try.func31, Try.ntmps31
  go_wp2
  go_loopw [13] (fun i wr => ∃ (k q : Nat), k ≤ n ∧ i = .int .i64 k ∧ wr = w.drewN q)
    (fun i _ => n - (intOf i).toNat)
  case atStart => exact ⟨0, 0, by omega, rfl, rfl⟩
  case round =>
    obtain ⟨k, q, hk, rfl, rfl⟩ := hrel
    by_cases hlt : k < n
    · obtain ⟨b, off, rfl, _, hcell⟩ := hA.at_ (k := k) (by have := HN.out; omega)
      obtain ⟨b', off', rfl, _, hcell'⟩ := hA'.at_ (k := k) (by have := HN.out; omega)
      have hki : (k : Int) < (n : Int) := by omega
      generalize bs[k]?.getD 0 = x at *
      go_wp2
      go_quiet (fail)
      go_wp2
      go_roundw
      case rel => exact ⟨k + 1, _, by omega, by go_num, rfl⟩
      case measure => simp [intOf]; omega
    · go_wp2
      go_ret
      exact ⟨rfl, below_drewN (Below.refl _ _) _⟩

theorem run_noBytes (w : World) : (Instr.buildSlice 22 0 #[]).run Try.prog w = .ok (.slice (some ⟨w.heap.size, 0, none⟩) 0 0) (w.alloc (.cells #[] 5)) := by
  obtain ⟨i0, hi, hz0, hz1, hz2⟩ := info_parts Try.info5
  simp [Instr.buildSlice, run_underlying Try.underlying22, sizeOf, typeInfo, hi, newRow, Instr.fill]
  rw [show Array.range 0 = #[] from by simp [Array.range], Array.map_empty]

theorem byt_cells {n₀ : Nat} {w : World} {a : Addr} {bs : List UInt8} (h : Byt n₀ w (some a) bs) (j : Nat) (u : Value) (hj : (bs.map fun x => Value.int .u8 (x.toNat : Int))[j]? = some u) : w.cell? (a.add j) = some u ∧ a.block < n₀ := by
  have hjl : j < bs.length := by
    rcases Nat.lt_or_ge j bs.length with h | h
    · exact h
    · rw [List.getElem?_eq_none (by simpa using h)] at hj; cases hj
  obtain ⟨b, off, e, hlt, hc⟩ := h.at_ hjl
  injection e with e
  subst e
  refine ⟨?_, hlt⟩
  rw [addr_add, hc, ← hj]
  simp [hjl]

set_option maxHeartbeats 1000000 in
/-- slices.Clone: the same bytes. -/
theorem clone_any (A : Option Addr) (n c : Nat) (bs : List UInt8) (w : World) (hn : n = bs.length) (hm : n ≤ 140737488351232) (hA : Byt w.heap.size w A bs) (hc : A = none → n = 0 ∧ c = 0) :
    Calls Try.prog 24 #[.slice A n c] w fun e w' => ∃ A' c', e = .returned (.slice A' n c') ∧ Byt w'.heap.size w' A' bs ∧ Below w.heap.size w w' := by
  have HN := Lib.hid hn; clear hn
  have HA := Lib.hid hA; clear hA
  obtain ⟨i0, hi, hz0, hz1, hz2⟩ := info_parts Try.info5
  have hnil := fun a n c w => Lib.run_eql_slice_nil (P := Try.prog) w 22 5 a n c 0 0 Try.underlying22
  cases A with
  | none =>
    obtain ⟨rfl, rfl⟩ := hc rfl
    clear hc
    go_enter Try.func24, Try.ntmps24
    go_wp2
    go_ret
    exact ⟨none, 0, rfl, fun h => absurd (List.eq_nil_of_length_eq_zero HN.out.symm) h, Below.refl _ _⟩
  | some a =>
    clear hc
    have hbs := run_noBytes
    go_enter Try.func24, Try.ntmps24
    go_wp2_with (at_builtin; refine wpList_append_own _ rfl _ _ 22 rfl w.heap.size 5 i0 (.int .u8 0) 1 1 Try.underlying22 hi hz0 hz1 hz2 rfl (by decide) _ 0 [] rfl (World.ownsRow_lit w #[] 0 (Nat.le_refl _) (by decide) rfl) a n c (bs.map fun x => Value.int .u8 (x.toNat : Int)) rfl (by have := HN.out; simp; omega) (fun j u hj => (byt_cells (HA.out.below ((Below.refl _ _).alloc (Nat.le_refl _) _)) j u hj).1) (by simp [Value.oneCell']) (by unfold maxLen; omega) (by omega) (by simp) ?_; intro v' w1 hown hgrow _)
    rw [List.nil_append] at hown
    obtain ⟨A', c', rfl, hA'⟩ := byt_of_own hown
    have hg2 : (w.alloc (.cells #[] 5)).grownBy w1 (some w.heap.size) := hgrow
    clear hnil hbs hgrow
    go_ret
    exact ⟨A', c', by rw [HN.out]; rfl, hA', ((Below.refl _ _).alloc (Nat.le_refl _) _).grown hg2 (by simp) (fun k e => by injection e with e; omega)⟩
end Go.Proofs.Ytkiijnhpegbpnaa
