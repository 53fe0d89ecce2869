/-
  The program's Turn. Conditions: rows that can be read, of up to 65,536 samples.
-/
import Derived.Test.YtdmedhklcicpeaaV3
namespace Go.Proofs.Ytdmedhklcicpeaa
open Go.RowKit

theorem Try.infoC : (Try.prog.info? 63).map (fun i => (i.zero, i.size, i.bytes)) = some (some (.complex .f64 0 0), 1, 16) := by kernel_rfl
theorem made_zeros (m : Nat) : CRow (madeCells #[.complex .f64 0 0] m) (List.replicate m (0, 0)) := by
  intro j hj
  rw [List.length_replicate] at hj
  refine ⟨0, 0, ?_, ?_⟩
  · rw [← Array.getElem?_toList, toList_madeCells_one, List.getElem?_replicate, if_pos hj]
  · rw [List.getElem?_replicate, if_pos hj]; exact ⟨isF_zero, isF_zero⟩
/-- make([]complex128, m), over whatever world. -/
theorem run_make_cxs (m : Nat) (hm : m ≤ 65536) :
    ∃ cs : Array Value, cs.size = m ∧ CRow cs (List.replicate m (0, 0)) ∧ ∀ w : World, (Instr.makeSlice 66 (.int .i64 (m : Int)) (.int .i64 (m : Int))).run Try.prog w = .ok (.slice (some ⟨w.heap.size, 0, none⟩) m m) (w.alloc (.cells cs 63)) := by
  obtain ⟨i0, hi, hz0, hz1, hz2⟩ := info_parts Try.infoC
  refine ⟨madeCells #[.complex .f64 0 0] m, size_madeCells _ _, made_zeros m, fun w => ?_⟩
  have := run_make_rowN (P := Try.prog) 66 63 i0 _ Try.underlying66 hi hz0 .i64 .i64 m m (Nat.le_refl _) (by rw [hz2]; omega) (by omega) w
  rw [hz1, Nat.mul_one] at this
  exact this
theorem turn1_mul (x y q : Int) : (x * (turn1 (1, 0) q).1 - y * (turn1 (1, 0) q).2, x * (turn1 (1, 0) q).2 + y * (turn1 (1, 0) q).1) = turn1 (x, y) q := by
  unfold turn1
  dsimp only
  split
  · simp
  · split
    · simp
    · split <;> simp
theorem may_small {x y : Int} (h : mayS (x, y) = true) : x.natAbs ≤ 2 ^ 24 ∧ y.natAbs ≤ 2 ^ 24 := by
  obtain ⟨⟨hx0, hx1⟩, hy0, hy1⟩ := (mayS_iff _).1 h
  dsimp only at hx0 hx1 hy0 hy1
  omega
theorem turn1_may {s : Sp} (h : mayS s = true) (q : Int) : mayS (turn1 s q) = true := by
  obtain ⟨⟨hx0, hx1⟩, hy0, hy1⟩ := (mayS_iff _).1 h
  rw [mayS_iff]
  unfold turn1
  split
  · dsimp only; omega
  · split
    · dsimp only; omega
    · split
      · dsimp only; omega
      · omega
theorem turned_small {l : List Sp} (h : l.all mayS = true) (q : Int) : ∀ s ∈ l.map (turn1 · q), s.1.natAbs < 2 ^ 53 ∧ s.2.natAbs < 2 ^ 53 := by
  intro s hs
  obtain ⟨t, ht, rfl⟩ := List.mem_map.1 hs
  have := turn1_may (List.all_eq_true.1 h t ht) q
  generalize turn1 t q = u at *
  obtain ⟨a, b⟩ := u
  have := may_small this
  dsimp only
  omega

set_option maxRecDepth 4000 in
set_option maxHeartbeats 1000000 in
theorem turn_s (A : Option Addr) (n c : Nat) (l : List Sp) (q : Int) (w : World) (hn : n = l.length) (hm : n ≤ 65536) (hA : Smps w.heap.size w A l) :
    Calls Try.prog 20 #[.slice A n c, .int .i64 q] w (ResS w (turnS l q)) := by
  have hms := allMayBe_any A n c l w hn (by unfold maxLen; omega) hA
  have HN := Lib.hid hn; have HA := Lib.hid hA; clear hn hA
  unfold turnS
  by_cases hall : l.all mayS = true
  · rw [if_pos hall]
    rw [hall] at hms
    have hsml := turned_small hall q
    have HALL := Lib.hid hall; have HMS := Lib.hid hms; clear hall hms
    have HSML := Lib.hid hsml; clear hsml
    obtain ⟨cs0, hcs0, _, hmk⟩ := run_make_cxs n hm
    have HC0 := Lib.hid hcs0; clear hcs0
    have HTB := Lib.hid (turnBy_any q)
    go_enter Try.func20, Try.ntmps20
    go_wp2_with fail
    refine HMS.out.mono ?_
    rintro e w1 ⟨rfl, hB1⟩
    go_wp2_with fail
    refine (HTB.out _).mono ?_
    rintro e w2 ⟨ca, cb, rfl, hca, hcb, rfl⟩
    have HCA := Lib.hid hca; have HCB := Lib.hid hcb; clear hca hcb
    go_wp2
    go_loopw [20] (fun i wr => ∃ (k : Nat) (cs : Array Value), k ≤ n ∧ i = .int .i64 k ∧ Blk wr w1.heap.size 63 cs ∧ cs.size = n ∧ CRow cs ((l.map (turn1 · q)).take k) ∧ Below w1.heap.size w1 wr)
      (fun i _ => n - (intOf i).toNat)
    case atStart => exact ⟨0, cs0, by omega, rfl, Blk.new w1 _ _, HC0.out, fun j hj => by simp at hj, (Below.refl _ _).alloc (Nat.le_refl _) _⟩
    case round =>
      obtain ⟨k, cs, hk, rfl, hblk, hsz, hrow, hBr⟩ := hrel
      have hwr := hblk.lt
      have hBw := hB1.trans (hBr.mono hB1.size)
      by_cases hlt : k < n
      · have hkl : k < l.length := by have := HN.out; omega
        obtain ⟨b, off, rfl, hbl, hc0, hc1⟩ := (HA.out.below hBw).at_ hkl
        have hbs : b < wr.heap.size := Nat.lt_of_lt_of_le hbl hBw.size
        obtain ⟨x, y, hxy⟩ : ∃ x y, l[k]?.getD (0, 0) = (x, y) := ⟨_, _, rfl⟩
        have hmy := may_at HALL.out hkl
        rw [hxy] at hc0 hc1 hmy
        dsimp only at hc0 hc1
        have hnm := fun w1 => number_any x y w1 hmy
        have hlm : (l.map (turn1 · q))[k]?.getD (0, 0) = turn1 (x, y) q := by
          rw [List.getElem?_map, ← hxy, List.getElem?_eq_getElem hkl]; rfl
        have hsm := may_small hmy
        have hts := ti_small q
        have h1 : (cs[k]?).isSome = true := by rw [Array.getElem?_eq_getElem (by omega)]; rfl
        have HNM := Lib.hid hnm; have HLM := Lib.hid hlm; have HSM := Lib.hid hsm; have HTS := Lib.hid hts
        have HKL := Lib.hid hkl; have HROW := Lib.hid hrow
        clear hnm hlm hsm hts hmy hxy hkl hrow
        go_wp2_with fail
        refine (HNM.out _).mono ?_
        rintro e w2 ⟨a, b', rfl, ha, hb', hB2⟩
        obtain ⟨re, im, hmul, hre, him⟩ := isC_mul ha hb' HCA.out HCB.out HSM.out.1 HSM.out.2 HTS.out.1 HTS.out.2
        have e0 := turn1_mul x y q
        have hmore := CRow.more (a := re) (b := im) HROW.out (by rw [List.length_map]; exact HKL.out) (by rw [List.length_map]; have := HN.out; omega) (HLM.out.trans e0.symm) hre him
        have hop := fun t w1 => run_complex_mul (P := Try.prog) w1 t a b' ca cb re im hmul
        have HM := Lib.hid hmore
        clear hmore e0 hre him hmul ha hb'
        have hblk2 := (hblk.alloc _).below hB2 (by simp; omega)
        obtain ⟨o1, ho1⟩ := Option.isSome_iff_exists.1 h1
        have hd1 := (hblk2.cell k).trans ho1
        have hf1 := hblk2.frozen k
        have hs2 := hB2.size
        rw [World.size_alloc] at hs2
        clear h1 ho1
        go_wp2
        go_roundw
        case rel =>
          refine ⟨k + 1, _, by omega, by go_num, hblk2.set_ k (.complex .f64 re im), by simpa using hsz, HM.out, ?_⟩
          exact ((hBr.alloc hBr.size _).trans (hB2.mono (by simp; have := hBr.size; omega))).setCell (Nat.le_refl _) _
        case measure => simp [intOf]; omega
      · obtain rfl : k = n := by omega
        have htk : (l.map (turn1 · q)).take k = l.map (turn1 · q) := List.take_of_length_le (by rw [List.length_map]; have := HN.out; omega)
        rw [htk] at hrow
        have hcx := cxs_of_blk hblk hrow
        have hsm := samples_any (some ⟨w1.heap.size, 0, none⟩) k k (l.map (turn1 · q)) wr (by rw [List.length_map]; exact HN.out) hm hcx HSML.out
        have HSM := Lib.hid hsm
        clear hrow hcx hsm
        go_wp2_with fail
        refine HSM.out.mono ?_
        rintro e w2 ⟨g, rfl, hg, hsmp, hB2⟩
        have HS := Lib.hid hsmp; clear hsmp
        go_wp2
        go_ret2
        exact ⟨_, _, _, rfl, by rw [List.length_map]; exact HN.out, Nat.le_refl _, HS.out, hBw.trans (hB2.mono hBw.size), fun a ha _ => by cases ha; exact Nat.le_trans hBw.size hg⟩
  · rw [if_neg hall]
    rw [Bool.not_eq_true] at hall
    rw [hall] at hms
    have HMS := Lib.hid hms; clear hall hms
    go_enter Try.func20, Try.ntmps20
    go_wp2_with fail
    refine HMS.out.mono ?_
    rintro e w1 ⟨rfl, hB1⟩
    go_wp2
    go_ret2
    exact ⟨none, 0, 0, rfl, rfl, Nat.le_refl _, fun h => absurd rfl h, hB1, fun a ha => by cases ha⟩
end Go.Proofs.Ytdmedhklcicpeaa
