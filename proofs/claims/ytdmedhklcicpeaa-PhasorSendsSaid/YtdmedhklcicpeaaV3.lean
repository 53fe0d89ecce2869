/-
  The program's allMayBe and samples. Conditions: rows that can be read, of up to 65,536 elements; whole parts below 2^53.
-/
import Derived.Test.YtdmedhklcicpeaaV2
namespace Go.Proofs.Ytdmedhklcicpeaa
open Go.RowKit

set_option maxRecDepth 4000 in
set_option maxHeartbeats 1000000 in
theorem allMayBe_any (A : Option Addr) (n c : Nat) (l : List Sp) (w : World) (hn : n = l.length) (hm : n ≤ maxLen) (hA : Smps w.heap.size w A l) :
    Calls Try.prog 45 #[.slice A n c] w fun e w' => e = .returned (.bool (l.all mayS)) ∧ Below w.heap.size w w' := by
  unfold maxLen at hm
  have HN := Lib.hid hn; have HA := Lib.hid hA; clear hn hA
  obtain ⟨R, hR⟩ : ∃ R, R = l.all mayS := ⟨_, rfl⟩
  rw [← hR]
  have HR := Lib.hid hR; clear hR
  go_enter Try.func45, Try.ntmps45
  go_wp2
  go_loopw [7] (fun i wr => ∃ k : Nat, k ≤ n ∧ i = .int .i64 k ∧ (l.take k).all mayS = true ∧ Below w.heap.size w wr)
    (fun i _ => n - (intOf i).toNat)
  case atStart => exact ⟨0, by omega, rfl, rfl, Below.refl _ _⟩
  case round =>
    obtain ⟨k, hk, rfl, hall, hBr⟩ := hrel
    have HALL := Lib.hid hall; clear hall
    by_cases hlt : k < n
    · have hkl : k < l.length := by have := HN.out; omega
      obtain ⟨b, off, rfl, hbl, hc0, hc1⟩ := (HA.out.below hBr).at_ hkl
      have hts := all_take_may l k hkl
      have hno := not_all_may l k hkl
      have hbs : b < wr.heap.size := Nat.lt_of_lt_of_le hbl hBr.size
      generalize l[k]?.getD (0, 0) = s at *
      obtain ⟨x, y⟩ := s
      dsimp only at hc0 hc1
      have hmy := fun w1 => mayBe_any x y w1
      by_cases hms : mayS (x, y) = true
      · rw [hms] at hmy
        rw [hms, HALL.out] at hts
        have HTS := Lib.hid hts; have HMY := Lib.hid hmy
        clear hts hno hms hmy hkl
        go_wp2_with (go_at_call 71; refine (HMY.out _).mono ?_; rintro e w2 ⟨rfl, hB2⟩)
        go_roundw
        case rel => exact ⟨k + 1, by omega, by go_num, HTS.out, (hBr.alloc hBr.size _).trans (hB2.mono (by simp; have := hBr.size; omega))⟩
        case measure => simp [intOf]; omega
      · rw [Bool.not_eq_true] at hms
        rw [hms] at hmy
        have hr := hno hms
        have HG := Lib.hid hr; have HMY := Lib.hid hmy
        clear hts hno hms hmy hr hkl
        go_wp2_with (go_at_call 71; refine (HMY.out _).mono ?_; rintro e w2 ⟨rfl, hB2⟩)
        go_ret
        rw [HR.out, HG.out]
        exact ⟨rfl, (hBr.alloc hBr.size _).trans (hB2.mono (by simp; have := hBr.size; omega))⟩
    · have htk : l.take k = l := List.take_of_length_le (by have := HN.out; omega)
      have hall := HALL.out
      rw [htk] at hall
      have HG := Lib.hid hall; clear hall
      go_wp2
      go_ret
      rw [HR.out, HG.out]
      exact ⟨rfl, hBr⟩

/-- make([]api.Sample, m), over whatever world. -/
theorem run_make_smps (m : Nat) (hm : m ≤ 65536) (w : World) :
    ∃ cs : Array Value, cs.size = m * 2 ∧ (Instr.makeSlice 25 (.int .i64 (m : Int)) (.int .i64 (m : Int))).run Try.prog w = .ok (.slice (some ⟨w.heap.size, 0, none⟩) m m) (w.alloc (.cells cs 38)) := by
  obtain ⟨i0, hi, hz0, hz1, hz2⟩ := info_parts Try.infoS
  have := run_make_rowN (P := Try.prog) 25 38 i0 _ Try.underlying25 hi hz0 .i64 .i64 m m (Nat.le_refl _) (by rw [hz2]; omega) (by omega) w
  rw [hz1] at this
  exact ⟨_, size_madeCells _ _, this⟩

set_option maxRecDepth 4000 in
set_option maxHeartbeats 1000000 in
theorem samples_any (A : Option Addr) (n c : Nat) (l : List Sp) (w : World) (hn : n = l.length) (hm : n ≤ 65536) (hA : Cxs w.heap.size w A l) (hb : ∀ s ∈ l, s.1.natAbs < 2 ^ 53 ∧ s.2.natAbs < 2 ^ 53) :
    Calls Try.prog 38 #[.slice A n c] w fun e w' => ∃ g, e = .returned (.slice (some ⟨g, 0, none⟩) n n) ∧ w.heap.size ≤ g ∧ Smps w'.heap.size w' (some ⟨g, 0, none⟩) l ∧ Below w.heap.size w w' := by
  have HN := Lib.hid hn; have HA := Lib.hid hA; have HB := Lib.hid hb; clear hn hA hb
  obtain ⟨cs0, hcs0, hmk⟩ := run_make_smps n hm w
  have HC0 := Lib.hid hcs0; clear hcs0
  go_enter Try.func38, Try.ntmps38
  go_wp2_with (simp only [hmk])
  go_loopw [11] (fun i wr => ∃ (k : Nat) (cs : Array Value), k ≤ n ∧ i = .int .i64 k ∧ Blk wr w.heap.size 38 cs ∧ cs.size = n * 2 ∧ SRow cs (l.take k) ∧ Below w.heap.size w wr)
    (fun i _ => n - (intOf i).toNat)
  case atStart => exact ⟨0, cs0, by omega, rfl, Blk.new w _ _, HC0.out, fun j hj => by simp at hj, (Below.refl _ _).alloc (Nat.le_refl _) _⟩
  case round =>
    obtain ⟨k, cs, hk, rfl, hblk, hsz, hrow, hBr⟩ := hrel
    have hwr := hblk.lt
    by_cases hlt : k < n
    · have hkl : k < l.length := by have := HN.out; omega
      obtain ⟨b, off, rfl, hbl, x, y, hc0, hx, hy⟩ := (HA.out.below hBr).at_ hkl
      obtain ⟨u, v, huv⟩ : ∃ u v, l[k]?.getD (0, 0) = (u, v) := ⟨_, _, rfl⟩
      have hbd := HB.out (l[k]) (List.getElem_mem hkl)
      have hgk : l[k] = (u, v) := by rw [List.getElem?_eq_getElem hkl] at huv; exact huv
      rw [hgk] at hbd
      rw [huv] at hx hy
      have hsm := fun w1 => sample_any x y u v w1 hx hy hbd.1 hbd.2
      have hmore := hrow.more hkl (by have := HN.out; omega) huv
      have h1 : (cs[k * 2]?).isSome = true := by rw [Array.getElem?_eq_getElem (by omega)]; rfl
      have h2 : (cs[k * 2 + 1]?).isSome = true := by rw [Array.getElem?_eq_getElem (by omega)]; rfl
      have hbs : b < wr.heap.size := Nat.lt_of_lt_of_le hbl hBr.size
      have HSM := Lib.hid hsm; have HM := Lib.hid hmore
      clear hsm hmore hgk hbd hx hy huv hkl hrow
      go_wp2_with fail
      refine (HSM.out _).mono ?_
      rintro e w2 ⟨rfl, hB2⟩
      have hblk2 := hblk.below hB2 hwr
      obtain ⟨o1, ho1⟩ := Option.isSome_iff_exists.1 h1
      obtain ⟨o2, ho2⟩ := Option.isSome_iff_exists.1 h2
      have hd1 := (hblk2.cell (k * 2)).trans ho1
      have hd2 := (hblk2.cell (k * 2 + 1)).trans ho2
      have hf1 := hblk2.frozen (k * 2)
      have hf2 := hblk2.frozen (k * 2 + 1)
      have hs2 := hB2.size
      clear h1 h2 ho1 ho2
      go_wp2
      go_roundw
      case rel =>
        refine ⟨k + 1, _, by omega, by go_num, (hblk2.set_ (k * 2) (.int .i64 u)).set_ (k * 2 + 1) (.int .i64 v), by simpa using hsz, HM.out, ?_⟩
        exact ((hBr.trans (hB2.mono hBr.size)).setCell (Nat.le_refl _) _).setCell (Nat.le_refl _) _
      case measure => simp [intOf]; omega
    · obtain rfl : k = n := by omega
      have htk : l.take k = l := List.take_of_length_le (by have := HN.out; omega)
      rw [htk] at hrow
      have HR := Lib.hid hrow; clear hrow
      go_wp2
      go_ret
      exact ⟨_, rfl, Nat.le_refl _, smps_of_blk hblk HR.out, hBr⟩
end Go.Proofs.Ytdmedhklcicpeaa
