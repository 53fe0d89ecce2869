/-
  PhasorChanges returns true and leaves all memory that was there as it was, for all samples, quarters and rows. Condition: samples that can be read.
-/
import Derived.Test.YtdmedhklcicpeaaZ3
import Derived.Test.YtdmedhklcicpeaaZ4
import Derived.Lib.SliceRun
namespace Go.Proofs.Ytdmedhklcicpeaa
open Go.RowKit

theorem run_noSamples (w : World) : (Instr.buildSlice 25 0 #[]).run Try.prog w = .ok (.slice (some ⟨w.heap.size, 0, none⟩) 0 0) (w.alloc (.cells #[] 38)) := by
  obtain ⟨i0, hi, _⟩ := info_parts Try.infoS
  simp [Instr.buildSlice, run_underlying Try.underlying25, sizeOf, typeInfo, hi, newRow, Instr.fill]
  rw [show Array.range 0 = #[] from by simp [Array.range], Array.map_empty]

set_option maxRecDepth 4000 in
set_option maxHeartbeats 1000000 in
/-- slices.Clone: the same samples. -/
theorem clone_s (A : Option Addr) (n c : Nat) (l : List Sp) (w : World) (hn : n = l.length) (hm : n ≤ 65536) (hA : Smps w.heap.size w A l) (hc : A = none → n = 0 ∧ c = 0) :
    Calls Try.prog 19 #[.slice A n c] w fun e w' => ∃ A' c', e = .returned (.slice A' n c') ∧ Smps w'.heap.size w' A' l ∧ Below w.heap.size w w' := by
  have HN := Lib.hid hn; clear hn
  have HA := Lib.hid hA; clear hA
  obtain ⟨i0, hi, hz0, hz1, hz2⟩ := info_parts Try.infoS
  have hnil := fun a n c w => Lib.run_eql_slice_nil (P := Try.prog) w 25 38 a n c 0 0 Try.underlying25
  cases A with
  | none =>
    obtain ⟨rfl, rfl⟩ := hc rfl
    clear hc
    go_enter Try.func19, Try.ntmps19
    go_wp2
    go_ret
    exact ⟨none, 0, rfl, fun h => absurd (List.eq_nil_of_length_eq_zero HN.out.symm) h, Below.refl _ _⟩
  | some a =>
    clear hc
    have hbs := run_noSamples
    have hcs : (cellsS l).length = n * 2 := by rw [cellsS_length, HN.out]
    have HCS := Lib.hid hcs; clear hcs
    go_enter Try.func19, Try.ntmps19
    go_wp2_with (at_builtin; refine wpList_append_own _ rfl _ _ 25 rfl w.heap.size 38 i0 (.agg #[.int .i64 0, .int .i64 0]) 2 16 Try.underlying25 hi hz0 hz1 hz2 rfl (by decide) _ 0 [] rfl (World.ownsRow_lit w #[] 0 (Nat.le_refl _) (by decide) rfl) a n c (cellsS l) rfl HCS.out (fun j u hj => smps_cells (HA.out.below ((Below.refl _ _).alloc (Nat.le_refl _) _)) j u hj) (cellsS_one l) (by unfold maxLen; omega) (by omega) (by simp) ?_; intro v' w1 hown hgrow _)
    rw [List.nil_append] at hown
    obtain ⟨A', c', hv, hA'⟩ := smps_of_own hown
    subst hv
    have hg2 : (w.alloc (.cells #[] 38)).grownBy w1 (some w.heap.size) := hgrow
    clear hnil hbs hgrow
    go_ret
    exact ⟨A', c', by rw [HN.out]; rfl, hA', ((Below.refl _ _).alloc (Nat.le_refl _) _).grown hg2 (by simp) (fun k e => by injection e with e; omega)⟩

set_option maxRecDepth 8000 in
set_option maxHeartbeats 4000000 in
theorem changes_law (A X : Option Addr) (n c xn xc : Nat) (l : List Sp) (q : Int) (rs : List RW) (w : World) (hn : n = l.length) (hm : n ≤ maxLen) (hA : Smps w.heap.size w A l) (hc : A = none → n = 0 ∧ c = 0)
    (hxn : xn = rs.length) (hxm : xn ≤ maxLen) (hxc : xn ≤ xc) (hX : Rws w X rs) (hrm : ∀ r ∈ rs, r.n ≤ maxLen) :
    Calls Try.prog 4 #[.slice A n c, .int .i64 q, .slice X xn xc] w fun e w' => e = .returned (.bool true) ∧ Below w.heap.size w w' := by
  have HBG := Lib.hid begun_any
  have HFW := Lib.hid (fun w1 => few_s A n c w1 hm)
  have hfx := fun w1 (h : Below w.heap.size w w1) => few_any X xn xc (rs.map fun r => (r.A, r.n, r.c)) w1 (by rw [List.length_map]; exact hxn) hxc hxm (hX.on h).svs (fun x hx => by
    obtain ⟨r, hr, rfl⟩ := List.mem_map.1 hx
    exact hrm r hr)
  have HN := Lib.hid hn; have HA := Lib.hid hA; have HX := Lib.hid hX; have HXN := Lib.hid hxn
  have hfe : fewS (rs.map fun r => (r.A, r.n, r.c)) = true → xn ≤ 50 ∧ ∀ r ∈ rs, r.n ≤ 5000 := fun h => by
    unfold fewS at h
    rw [Bool.and_eq_true, decide_eq_true_eq, List.length_map, List.all_eq_true] at h
    refine ⟨by omega, fun r hr => ?_⟩
    have := h.2 _ (List.mem_map_of_mem (f := fun r : RW => (r.A, r.n, r.c)) hr)
    simpa using this
  have HFE := Lib.hid hfe
  generalize fewS (rs.map fun r => (r.A, r.n, r.c)) = fx at *
  have HFX := Lib.hid hfx
  clear hfx hn hA hm hX hxn hrm hfe
  go_enter Try.func4, Try.ntmps4
  go_wp2_with fail
  refine (HBG.out _).mono ?_
  rintro e w1 ⟨rfl, b1⟩
  go_wp2_with fail
  refine (HFW.out _).mono ?_
  rintro e w2 ⟨rfl, rfl⟩
  have b2 := b1.alloc b1.size (.cells #[.slice A n c] 25)
  by_cases h5 : n ≤ 5000
  · have hd : decide (n ≤ 5000) = true := by simpa using h5
    rw [hd]
    go_wp2_with fail
    refine (HFX.out _ b2).mono ?_
    rintro e w3 ⟨rfl, rfl⟩
    cases fx with
    | true =>
      obtain ⟨h50, h5r⟩ := HFE.out rfl
      have hcl := fun w1 (h : Below w.heap.size w w1) => clone_s A n c l w1 HN.out (by omega) (HA.out.on h) hc
      have h1 := fun w1 (h : Below w.heap.size w w1) => turn_s A n c l q w1 HN.out (by omega) (HA.out.on h)
      have h2 := fun w1 (h : Below w.heap.size w w1) => rturn_any A n c l q w1 HN.out (by omega) (HA.out.on h)
      have h3 := fun w1 (h : Below w.heap.size w w1) => add_any X xn xc rs w1 HXN.out h50 (HX.out.on h) (fun r hr => Nat.le_trans (h5r r hr) (by decide))
      have h4 := fun w1 (h : Below w.heap.size w w1) => radd_any X xn xc rs w1 HXN.out h50 (HX.out.on h) (fun r hr => Nat.le_trans (h5r r hr) (by decide))
      have hl1 : (turnS l q).2.length ≤ 65536 := by
        unfold turnS
        split
        · rw [List.length_map, ← HN.out]; omega
        · decide
      have hl2 : (addS (rs.map (·.l))).2.length ≤ 65536 := by
        unfold addS
        split
        · split
          · rw [List.length_map, List.length_range]
            exact longest_le _ _ (fun r hr => by
              obtain ⟨x, hx, rfl⟩ := List.mem_map.1 hr
              rw [← (HX.out.ok x hx).1]; exact Nat.le_trans (h5r x hx) (by decide))
          · decide
        · decide
      generalize turnS l q = R at *
      generalize addS (rs.map (·.l)) = S at *
      obtain ⟨re, rl⟩ := R
      obtain ⟨se, sl⟩ := S
      dsimp only at hl1 hl2
      have HCL := Lib.hid hcl; have H1 := Lib.hid h1; have H2 := Lib.hid h2; have H3 := Lib.hid h3; have H4 := Lib.hid h4
      have HL1 := Lib.hid hl1; have HL2 := Lib.hid hl2
      clear hcl h1 h2 h3 h4 h5r hc hl1 hl2
      go_wp2_with fail
      refine (HCL.out _ b2).mono ?_
      rintro e w3 ⟨CA, cc, rfl, hCS, hB3⟩
      have b3 := b2.trans (hB3.mono b2.size)
      have HCS := Lib.hid hCS; clear hCS
      go_wp2_with fail
      refine (H1.out _ b3).mono ?_
      rintro e w4 ⟨A1, n1, c1, rfl, hn1, _, hS1, hB4, _⟩
      dsimp only at hn1 hS1
      subst hn1
      have b4 := b3.trans (hB4.mono b3.size)
      have HCS4 := Lib.hid (HCS.out.on hB4); have HS1 := Lib.hid hS1; clear hS1
      dsimp only
      go_wp2_with fail
      refine (H2.out _ b4).mono ?_
      rintro e w5 ⟨A2, n2, c2, rfl, hn2, _, hS2, hB5, _⟩
      dsimp only at hn2 hS2
      subst hn2
      have b5 := b4.trans (hB5.mono b4.size)
      have HCS5 := Lib.hid (HCS4.out.on hB5); have HS15 := Lib.hid (HS1.out.on hB5); have HS2 := Lib.hid hS2; clear hS2
      dsimp only
      go_wp2_with fail
      refine (rsames_yes A1 A2 rl.length c1 c2 rl _ rfl (by have := HL1.out; unfold maxLen; omega) HS15.out HS2.out).mono ?_
      rintro e w6 ⟨rfl, hB6⟩
      have b6 := b5.trans (hB6.mono b5.size)
      have HCS6 := Lib.hid (HCS5.out.on hB6)
      go_wp2_with fail
      refine (H3.out _ b6).mono ?_
      rintro e w7 ⟨A3, n3, c3, rfl, hn3, _, hS3, hB7, _⟩
      dsimp only at hn3 hS3
      subst hn3
      have b7 := b6.trans (hB7.mono b6.size)
      have HCS7 := Lib.hid (HCS6.out.on hB7); have HS3 := Lib.hid hS3; clear hS3
      dsimp only
      go_wp2_with fail
      refine (H4.out _ b7).mono ?_
      rintro e w8 ⟨A4, n4, c4, rfl, hn4, _, hS4, hB8, _⟩
      dsimp only at hn4 hS4
      subst hn4
      have b8 := b7.trans (hB8.mono b7.size)
      have HCS8 := Lib.hid (HCS7.out.on hB8); have HS38 := Lib.hid (HS3.out.on hB8); have HS4 := Lib.hid hS4; clear hS4
      dsimp only
      go_wp2_with fail
      refine (rsames_yes A3 A4 sl.length c3 c4 sl _ rfl (by have := HL2.out; unfold maxLen; omega) HS38.out HS4.out).mono ?_
      rintro e w9 ⟨rfl, hB9⟩
      have b9 := b8.trans (hB9.mono b8.size)
      have HCS9 := Lib.hid (HCS8.out.on hB9)
      go_wp2_with fail
      refine (rsames_yes A CA n c cc l _ HN.out (by unfold maxLen; omega) (HA.out.on b9) HCS9.out).mono ?_
      rintro e w10 ⟨rfl, hB10⟩
      have b10 := b9.trans (hB10.mono b9.size)
      go_wp2
      go_ret
      exact ⟨rfl, b10⟩
    | false =>
      go_wp2_with fail
      refine (HBG.out _).mono ?_
      rintro e w3 ⟨rfl, hB3⟩
      go_wp2
      go_ret
      exact ⟨rfl, b2.trans (hB3.mono b2.size)⟩
  · have hd : decide (n ≤ 5000) = false := by simpa using h5
    rw [hd]
    go_wp2_with fail
    refine (HBG.out _).mono ?_
    rintro e w3 ⟨rfl, hB3⟩
    go_wp2
    go_ret
    exact ⟨rfl, b2.trans (hB3.mono b2.size)⟩
end Go.Proofs.Ytdmedhklcicpeaa
