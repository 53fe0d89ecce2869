/-
  The program's Match. Conditions: rows that can be read, of up to 65,536 samples.
-/
import Derived.Test.YtdmedhklcicpeaaW3
import Derived.Test.YtdmedhklcicpeaaS5
namespace Go.Proofs.Ytdmedhklcicpeaa
open Go.RowKit

theorem run_index_pre (k : Nat) (hk : k < 8) (a b : Nat) (h : preC[k]? = some (.complex .f64 a b)) (w : World) : (Instr.index 64 (.agg preC) (.int .i64 (k : Int))).run Try.prog w = .ok (.complex .f64 a b) w := by
  obtain ⟨i0, hi, _, hz1, _⟩ := info_parts Try.infoC
  simp [Instr.index, asIntOf, run_underlying Try.underlying64, sizeOf, typeInfo, hi, hz1, part, h, isAgg, run_underlying Try.underlying63]
  intro h8; omega

set_option maxRecDepth 100000 in
set_option maxHeartbeats 4000000 in
theorem match_any (A : Option Addr) (n c : Nat) (l : List Sp) (at_ : Int) (w : World) (hn : n = l.length) (hm : n ≤ 65536) (hcap : n ≤ c) (hA : Smps w.heap.size w A l) :
    Calls Try.prog 24 #[.slice A n c, .int .i64 at_] w fun e w' => e = .returned (.tuple #[.agg #[.int .i64 (matchS l at_).1.1, .int .i64 (matchS l at_).1.2], .int .i64 (matchS l at_).2.1, .bool (matchS l at_).2.2]) ∧ Below w.heap.size w w' := by
  unfold matchS
  by_cases h0 : at_ < 0
  · rw [if_pos (.inl h0)]
    have hd : decide (at_ < 0) = true := by simpa using h0
    clear hA hn
    go_enter Try.func24, Try.ntmps24
    go_wp2
    exact bodyPost_ret (v := .tuple #[.agg #[.int .i64 0, .int .i64 0], .int .i64 0, .bool false]) (by simp [results, Try.results24, go_sem]) rfl ⟨rfl, (Below.refl _ _).alloc (Nat.le_refl _) _⟩
  · have hd : decide (at_ < 0) = false := by simpa using h0
    obtain ⟨a, rfl⟩ := Int.eq_ofNat_of_zero_le (show 0 ≤ at_ by omega)
    by_cases h1 : (n : Int) - 8 < a
    · rw [if_pos (.inr (.inl (by rw [← hn]; exact h1)))]
      have hd1 : decide ((n : Int) - 8 < (a : Int)) = true := by simpa using h1
      clear hA hn
      go_enter Try.func24, Try.ntmps24
      go_wp2
      exact bodyPost_ret (v := .tuple #[.agg #[.int .i64 0, .int .i64 0], .int .i64 0, .bool false]) (by simp [results, Try.results24, go_sem]) rfl ⟨rfl, (Below.refl _ _).alloc (Nat.le_refl _) _⟩
    · have hd1 : decide ((n : Int) - 8 < (a : Int)) = false := by simpa using h1
      have ha8 : a + 8 ≤ n := by omega
      have hwl : ((l.drop a).take 8).length = 8 := by simp; omega
      have hne : ((l.drop a).take 8) ≠ [] := by intro h; rw [h] at hwl; simp at hwl
      obtain ⟨b, off, rfl, hbl, hcl⟩ := hA (by rintro rfl; simp at hn; omega)
      have hW : Smps w.heap.size w (some ⟨b, off + a * 2, none⟩) ((l.drop a).take 8) := fun _ => ⟨b, off + a * 2, rfl, hbl, fun j hj => by
        have hj8 : j < 8 := by omega
        have := hcl (a + j) (by omega)
        rw [List.getElem?_take_of_lt hj8, List.getElem?_drop, show off + a * 2 + j * 2 = off + (a + j) * 2 by omega]
        exact this⟩
      have hms := fun (w1 : World) (h : Below w.heap.size w w1) (cc : Nat) => allMayBe_any (some ⟨b, off + a * 2, none⟩) 8 cc ((l.drop a).take 8) w1 hwl.symm (by decide) ((hW.below h).mono h.size)
      rw [Int.toNat_natCast]
      have hcor : ¬ ((a : Int) < 0 ∨ (l.length : Int) - 8 < (a : Int)) := by omega
      generalize hWd : (l.drop a).take 8 = W8 at *
      by_cases hall : W8.all mayS = true
      · rw [if_neg (by rw [hall]; rintro (h | h | h) <;> first | omega | cases h)]
        rw [hall] at hms
        have hcb := corr_bound W8 hwl hall
        have hmy := fun (k : Nat) (hk : k < 8) => may_at hall (k := k) (by omega)
        have hcells := fun (k : Nat) (hk : k < 8) (w1 : World) (h : Below w.heap.size w w1) => (show w1.cell? ⟨b, off + (a + k) * 2, none⟩ = some (.int .i64 (W8[k]?.getD (0, 0)).1) ∧ w1.cell? ⟨b, off + (a + k) * 2 + 1, none⟩ = some (.int .i64 (W8[k]?.getD (0, 0)).2) from by
          obtain ⟨b', off', e, hlt', hc'⟩ := (hW.below h) hne
          injection e with e; injection e with e1 e2; subst e1; subst e2
          have := hc' k (by omega)
          rw [show off + (a + k) * 2 = off + a * 2 + k * 2 by omega]
          exact this)
        have HMS := Lib.hid hms; have HCB := Lib.hid hcb; have HMY := Lib.hid hmy; have HCE := Lib.hid hcells
        clear hms hcb hmy hcells hW hwl hne hcl hn hWd hcor hall hA
        dsimp only
        obtain ⟨R, hR⟩ : ∃ R, R = corrS W8 8 := ⟨_, rfl⟩
        rw [← hR]
        have HR := Lib.hid hR; clear hR
        go_enter Try.func24, Try.ntmps24
        go_wp2_with fail
        have b0 : Below w.heap.size w (w.alloc (.cells #[.int .i64 0, .int .i64 0] 38)) := (Below.refl _ _).alloc (Nat.le_refl _) _
        have k0 := Blk.new w 38 #[.int .i64 0, .int .i64 0]
        refine (HMS.out _ b0 _).mono ?_
        rintro e w1 ⟨rfl, hB1⟩
        have hs1 : w.heap.size + 1 ≤ w1.heap.size := by simpa using hB1.size
        replace k0 := k0.on hB1
        replace b0 := b0.trans (hB1.mono b0.size)
        go_wp2_with fail
        refine (preamble_any _).mono ?_
        rintro e w2 ⟨rfl, hB2⟩
        have hs2 := hB2.size
        replace k0 := k0.on hB2
        replace b0 := b0.trans (hB2.mono b0.size)
        go_wp2
        go_loopw [7, 8, 32] (fun sv nv i wr => ∃ k p q : Nat, k ≤ 8 ∧ i = .int .i64 k ∧ sv = .complex .f64 p q ∧ IsF p (corrS W8 k).1 ∧ IsF q (corrS W8 k).2.1 ∧ nv = .int .i64 (corrS W8 k).2.2 ∧ Blk wr w.heap.size 38 #[.int .i64 0, .int .i64 0] ∧ Below w.heap.size w wr)
          (fun _ _ i _ => 8 - (intOf i).toNat)
        case atStart => exact ⟨0, 0, 0, by omega, rfl, rfl, isF_zero, isF_zero, rfl, k0, b0⟩
        case round =>
          clear k0 b0
          obtain ⟨k, p, q, hk, rfl, rfl, hp, hq, rfl, k0, b0⟩ := hrel
          by_cases hlt : k < 8
          · obtain ⟨hc0, hc1⟩ := HCE.out k hlt wr b0
            have hmy := HMY.out k hlt
            have hcb := HCB.out k (by omega)
            have hcb2 := HCB.out (k + 1) (by omega)
            obtain ⟨hp1, hp2⟩ := pre_at k hlt
            obtain ⟨pa, pb, hpc, hpa, hpb⟩ := preC_row k hlt
            have hcr : corrS W8 (k + 1) = accS (corrS W8 k) (W8[k]?.getD (0, 0)) (pre[k]?.getD (0, 0)) := rfl
            rw [hcr] at hcb2
            unfold accS at hcr hcb2
            generalize W8[k]?.getD (0, 0) = xs at *
            generalize pre[k]?.getD (0, 0) = ps at *
            generalize hcc : corrS W8 k = cc at *
            obtain ⟨x, y⟩ := xs
            obtain ⟨p1, p2⟩ := ps
            obtain ⟨cI, cQ, cn⟩ := cc
            dsimp only at *
            have hmy2 := (mayS_iff _).1 hmy
            dsimp only at hmy2
            have hnm := fun w1 => number_any x y w1 hmy
            have hpw := fun w1 => power_any x y w1 (by omega) (by omega)
            have q1 := sq_le x hmy2.1.1 hmy2.1.2
            have q2 := sq_le y hmy2.2.1 hmy2.2.2
            have hbs : b < wr.heap.size := Nat.lt_of_lt_of_le hbl b0.size
            have HNM := Lib.hid hnm; have HPW := Lib.hid hpw; have HCR := Lib.hid hcr; have HC2 := Lib.hid hcb2
            have HP := Lib.hid hp; have HQ := Lib.hid hq; have HPA := Lib.hid hpa; have HPB := Lib.hid hpb
            have hw12 : IntKind.i64.wrap (cn + (x * x + y * y)) = cn + (x * x + y * y) := IntWalk.i64_in _ (by omega)
            clear hnm hpw hcr hcb2 hp hq hpa hpb hcc hmy
            have hix := fun w1 => run_index_pre k hlt pa pb hpc w1
            clear hpc
            go_wp2_with (simp only [hix])
            refine (HNM.out _).mono ?_
            rintro e w3 ⟨na, nb, rfl, hna, hnb, hB3⟩
            replace k0 := k0.on hB3
            replace b0 := b0.trans (hB3.mono b0.size)
            have hto := fun w1 => turnedOver_any pa pb w1
            have HTO := Lib.hid hto; clear hto
            go_wp2_with fail
            refine (HTO.out _).mono ?_
            rintro e w4 ⟨rfl, rfl⟩
            obtain ⟨re, im, hmul, hre, him⟩ := isC_mul hna hnb HPA.out (isF_neg HPB.out) (by omega) (by omega) (by omega) (by omega)
            rw [show x * p1 - y * -p2 = x * p1 + y * p2 by rw [Int.mul_neg]; omega] at hre
            rw [show x * -p2 + y * p1 = y * p1 - x * p2 by rw [Int.mul_neg]; omega] at him
            have hc2 := HC2.out
            obtain ⟨sr, si, hsum, hsr, hsi⟩ := isC_add HP.out HQ.out hre him (by omega) (by omega)
            have hop := fun t w1 => run_complex_mul (P := Try.prog) w1 t na nb pa (Op.negFloat .f64 pb) re im hmul
            have hos := fun t w1 => run_complex_sum (P := Try.prog) w1 .add (.inl rfl) t .f64 p q re im sr si hsum
            have HSR := Lib.hid hsr; have HSI := Lib.hid hsi
            clear hsr hsi hsum hmul hre him hna hnb hc2
            have hc0' := (hB3.cell (p := ⟨b, off + (a + k) * 2, none⟩) hbs).trans hc0
            have hc1' := (hB3.cell (p := ⟨b, off + (a + k) * 2 + 1, none⟩) hbs).trans hc1
            have hs3 := hB3.size
            have hbs3 : b < w3.heap.size := by omega
            go_wp2_with fail
            refine (HPW.out _).mono ?_
            rintro e w5 ⟨rfl, hB5⟩
            replace k0 := k0.on hB5
            replace b0 := b0.trans (hB5.mono b0.size)
            go_wp2
            go_roundw
            case rel =>
              refine ⟨k + 1, sr, si, by omega, by go_num, rfl, ?_, ?_, ?_, k0, b0⟩
              · rw [HCR.out]; exact HSR.out
              · rw [HCR.out]; exact HSI.out
              · rw [HCR.out]
            case measure => simp [intOf]; omega
          · obtain rfl : k = 8 := by omega
            have hcb := HCB.out 8 (by omega)
            have hr8 := HR.out
            generalize corrS W8 8 = cc at *
            subst hr8
            obtain ⟨cI, cQ, cn⟩ := R
            dsimp only at *
            have s1 := sq_le2 cI (by omega) (by omega)
            have s2 := sq_le2 cQ (by omega) (by omega)
            have hsm := fun w1 => sample_any p q cI cQ w1 hp hq (by omega) (by omega)
            have hpw := fun w1 => power_any cI cQ w1 (by omega) (by omega)
            have hw4 : IntKind.i64.wrap (2 * (cI * cI + cQ * cQ)) = 2 * (cI * cI + cQ * cQ) := IntWalk.i64_in _ (by omega)
            have hw5 : IntKind.i64.wrap (16 * cn) = 16 * cn := IntWalk.i64_in _ (by omega)
            have HSM := Lib.hid hsm; have HPW := Lib.hid hpw
            clear hsm hpw hp hq
            go_wp2_with fail
            refine (HSM.out _).mono ?_
            rintro e w3 ⟨rfl, hB3⟩
            replace k0 := k0.on hB3
            replace b0 := b0.trans (hB3.mono b0.size)
            go_wp2
            have al3 : Below w3.heap.size w3 (w3.alloc (.cells #[.int .i64 cI, .int .i64 cQ] 38)) := (Below.refl _ _).alloc (Nat.le_refl _) _
            have k11 := Blk.new w3 38 #[.int .i64 cI, .int .i64 cQ]
            have hlw3 := k0.lt
            replace k0 := k0.on al3
            replace b0 := b0.trans (al3.mono b0.size)
            generalize w3.alloc (.cells #[.int .i64 cI, .int .i64 cQ] 38) = w4 at *
            obtain ⟨d1, d2, e1, e2⟩ := k11.two
            obtain ⟨d3, d4, e3, e4⟩ := k0.two
            have hl0 := k0.lt
            have hl11 := k11.lt
            have hne0 : w3.heap.size ≠ w.heap.size := by omega
            by_cases hn0 : 0 < cn
            · have hd2 : decide (0 < cn) = true := by simpa using hn0
              have hBd : Below w4.heap.size w4 w4.drew := (Below.refl _ _).drew
              have hpw := HPW.out w4.drew
              have HPWd := Lib.hid hpw; clear hpw
              have hkeep : ∀ W : World, Below w4.heap.size w4 W → W.cell? ⟨w3.heap.size, 0, none⟩ = some (.int .i64 cI) ∧ W.cell? ⟨w3.heap.size, 1, none⟩ = some (.int .i64 cQ) := fun W hB => by
                obtain ⟨x1, x2, _⟩ := (k11.on hB).two
                exact ⟨x1, x2⟩
              have HKP := Lib.hid hkeep; clear hkeep
              go_region_held3 (fun w' => w'.cell? ⟨w3.heap.size, 0, none⟩ = some (.int .i64 cI) ∧ w'.cell? ⟨w3.heap.size, 1, none⟩ = some (.int .i64 cQ)) (first | exact HKP.out _ hBd | exact HKP.out _ hB5 | exact HST)
                (first
                  | (go_at_call 51; refine HPWd.out.mono ?_; rintro e w5 ⟨rfl, hB5'⟩; have hB5 : Below w4.heap.size w4 w5 := hBd.trans hB5'; obtain ⟨g3, g4, f3, f4⟩ := (k0.on hB5).two; have hx5 := ((k11.on hB5).far (p := ⟨w.heap.size, 0, none⟩) hne0 (.int .i64 cI)).far (p := ⟨w.heap.size, 1, none⟩) hne0 (.int .i64 cQ); have hl5 := (k0.on hB5).lt; have HST : ((w5.setCell ⟨w.heap.size, 0, none⟩ (.int .i64 cI)).setCell ⟨w.heap.size, 1, none⟩ (.int .i64 cQ)).cell? ⟨w3.heap.size, 0, none⟩ = some (.int .i64 cI) ∧ ((w5.setCell ⟨w.heap.size, 0, none⟩ (.int .i64 cI)).setCell ⟨w.heap.size, 1, none⟩ (.int .i64 cQ)).cell? ⟨w3.heap.size, 1, none⟩ = some (.int .i64 cQ) := ⟨hx5.two.1, hx5.two.2.1⟩))
              go_wp2
              exact bodyPost_ret (v := .tuple #[.agg #[.int .i64 cI, .int .i64 cQ], .int .i64 cn, .bool (decide (16 * cn ≤ 2 * (cI * cI + cQ * cQ)))]) (by simp [results, Try.results24, go_sem, g3, g4]) rfl ⟨by simp, (((b0.trans (hB5.mono b0.size)).setCell (p := ⟨w.heap.size, 0, none⟩) (Nat.le_refl _) _).setCell (p := ⟨w.heap.size, 1, none⟩) (Nat.le_refl _) _)⟩
            · have hd2 : decide (0 < cn) = false := by simpa using hn0
              go_region
              go_wp2
              exact bodyPost_ret (v := .tuple #[.agg #[.int .i64 cI, .int .i64 cQ], .int .i64 cn, .bool false]) (by simp [results, Try.results24, go_sem, d3, d4]) rfl ⟨by simp, ((b0.setCell (p := ⟨w.heap.size, 0, none⟩) (Nat.le_refl _) _).setCell (p := ⟨w.heap.size, 1, none⟩) (Nat.le_refl _) _).drew⟩
      · rw [Bool.not_eq_true] at hall
        rw [if_pos (.inr (.inr hall))]
        rw [hall] at hms
        have HMS := Lib.hid hms
        clear hms hall hW hwl hne hcl hn hWd hcor
        go_enter Try.func24, Try.ntmps24
        go_wp2_with fail
        have b0 : Below w.heap.size w (w.alloc (.cells #[.int .i64 0, .int .i64 0] 38)) := (Below.refl _ _).alloc (Nat.le_refl _) _
        have k0 := Blk.new w 38 #[.int .i64 0, .int .i64 0]
        refine (HMS.out _ b0 _).mono ?_
        rintro e w1 ⟨rfl, hB1⟩
        replace k0 := k0.on hB1
        obtain ⟨c1, c2, f1, f2⟩ := k0.two
        have hlt := k0.lt
        go_wp2
        exact bodyPost_ret (v := .tuple #[.agg #[.int .i64 0, .int .i64 0], .int .i64 0, .bool false]) (by simp [results, Try.results24, go_sem, c1, c2]) rfl ⟨rfl, ((b0.trans (hB1.mono b0.size)).setCell (p := ⟨w.heap.size, 0, none⟩) (Nat.le_refl _) _).setCell (p := ⟨w.heap.size, 1, none⟩) (Nat.le_refl _) _⟩
end Go.Proofs.Ytdmedhklcicpeaa
