/-
  The small functions of package fta: how many clocks, rows of the right length, numbers that are too great; the document's own too great. Conditions: those that each theorem names.
-/
import Derived.Test.YtfncccjiiipfoaaFP
import Derived.Test.YtfncccjiiipfoaaFK
namespace Go.Proofs.Ytfncccjiiipfoaa
open Go.RowKit

theorem RowsJ.row {B : Nat} {W : World} {X : Option Addr} {rs : List RJ} (h : RowsJ B W X rs) {k : Nat} (hk : k < rs.length) : ∃ b off y, X = some ⟨b, off, none⟩ ∧ b < B ∧ W.cell? ⟨b, off + k, none⟩ = some (.slice y.A y.n y.c) ∧ RJok B W y ∧ (rs.map RJ.l)[k]? = some y.l := by
  obtain ⟨b, off, hX, hb, hc⟩ := h.1 (by rintro rfl; exact absurd hk (Nat.not_lt_zero _))
  have e : rs[k]?.getD default = rs[k] := by rw [List.getElem?_eq_getElem hk]; rfl
  have := hc k hk
  rw [e] at this
  exact ⟨b, off, rs[k], hX, hb, this, h.2 _ (List.getElem_mem hk), by rw [List.getElem?_map, List.getElem?_eq_getElem hk]; rfl⟩
theorem RowsJ.below {B : Nat} {W W' : World} {X : Option Addr} {rs : List RJ} (h : RowsJ B W X rs) (hb : Below B W W') : RowsJ B W' X rs := ⟨fun hne => by
    obtain ⟨b, off, e, hlt, hc⟩ := h.1 hne
    exact ⟨b, off, e, hlt, fun j hj => (hb.cell (p := ⟨b, off + j, none⟩) hlt).trans (hc j hj)⟩, fun r hr => ⟨(h.2 r hr).1, (h.2 r hr).2.1, (h.2 r hr).2.2.below hb⟩⟩
theorem RowsJ.mono {B B' : Nat} {W : World} {X : Option Addr} {rs : List RJ} (h : RowsJ B W X rs) (hb : B ≤ B') : RowsJ B' W X rs := ⟨fun hne => by
    obtain ⟨b, off, e, hlt, hc⟩ := h.1 hne
    exact ⟨b, off, e, by omega, hc⟩, fun r hr => ⟨(h.2 r hr).1, (h.2 r hr).2.1, (h.2 r hr).2.2.mono hb⟩⟩
theorem anyR_snoc (p : List Int → Bool) (l : List (List Int)) (k : Nat) (y : List Int) (h : l[k]? = some y) : (l.take (k + 1)).any p = ((l.take k).any p || p y) := by
  obtain ⟨hk, rfl⟩ := List.getElem?_eq_some_iff.1 h
  rw [List.take_add_one, List.getElem?_eq_getElem hk, List.any_append]; simp
theorem anyR_from (p : List Int → Bool) (l : List (List Int)) (k : Nat) (y : List Int) (h : l[k]? = some y) (hp : p y = true) : l.any p = true := by
  rw [List.any_eq_true]; exact ⟨y, List.mem_of_getElem? h, hp⟩
theorem anyJ_snoc (p : Int → Bool) (l : List Int) (k : Nat) (h : k < l.length) : (l.take (k + 1)).any p = ((l.take k).any p || p (nth l k)) := by
  rw [take_nth l k h, List.any_append]; simp
theorem anyJ_from (p : Int → Bool) (l : List Int) (k : Nat) (h : k < l.length) (hp : p (nth l k) = true) : l.any p = true := by
  rw [List.any_eq_true]; exact ⟨_, nth_mem h, hp⟩

theorem isCluster_any (A : Option Addr) (n c : Nat) (w : World) : Calls Try.prog 29 #[.slice A n c] w fun e w' => e = .returned (.bool (decide (4 ≤ n) && decide (n ≤ 8))) ∧ w = w' := by
  by_cases h : 4 ≤ n
  · have d : decide ((4 : Int) ≤ (n : Int)) = true := by simp; omega
    have d2 : decide ((n : Int) ≤ 8) = decide (n ≤ 8) := decide_eq_decide.2 (by omega)
    have d3 : decide (4 ≤ n) = true := by simpa using h
    rw [d3, ← d2]
    go_enter Try.func29, Try.ntmps29
    go_wp2
    go_ret
    simp; try omega
  · have d : decide ((4 : Int) ≤ (n : Int)) = false := by simp; omega
    have d3 : decide (4 ≤ n) = false := by simpa using h
    rw [d3]
    go_enter Try.func29, Try.ntmps29
    go_wp2
    go_ret
    first | done | simp
set_option maxRecDepth 4000 in
set_option maxHeartbeats 400000 in
theorem over1_any (n : Int) (w : World) : Calls Try.prog 39 #[.int .i64 n] w fun e w' => e = .returned (.bool (overS n)) ∧ w = w' := by
  unfold overS
  by_cases c : n < -274877906944
  · have d : decide (n < -274877906944) = true := by simpa using c
    go_enter Try.func39, Try.ntmps39
    go_wp2
    go_ret
    simp [c]
  · have d : decide (n < -274877906944) = false := by simpa using c
    rw [d]
    go_enter Try.func39, Try.ntmps39
    go_wp2
    go_ret
    simp
set_option maxRecDepth 4000 in
set_option maxHeartbeats 1000000 in
theorem indexJ_any (A : Option Addr) (n c : Nat) (l : List Int) (w : World) (hn : n = l.length) (hm : n ≤ maxLen) (hA : Ints w.heap.size w A l) :
    Calls Try.prog 43 #[.slice A n c, .func (.func 39) #[] #[]] w fun e w' => ∃ r, e = .returned (.int .i64 r) ∧ decide (0 ≤ r) = offS l ∧ w = w' := by
  have hb := fun x => over1_any x w
  unfold offS
  have HB := Lib.hid hb
  have HA := Lib.hid hA
  have HN := Lib.hid hn; clear hn hA hb
  unfold maxLen at hm
  go_enter Try.func43, Try.ntmps43
  go_wp2
  go_loopw [5, 8] (fun _ i wr => ∃ k : Nat, k ≤ n ∧ i = .int .i64 k ∧ (l.take k).any overS = false ∧ wr = w) (fun _ i _ => n - (intOf i).toNat)
  case atStart => exact ⟨0, by omega, rfl, rfl, rfl⟩
  case round =>
    obtain ⟨k, hk, rfl, hno, rfl⟩ := hrel
    have HNO := Lib.hid hno; clear hno
    by_cases hlt : k < n
    · have hkl : k < l.length := by have := HN.out; omega
      have HKL := Lib.hid hkl; clear hkl
      obtain ⟨b, off, rfl, hbl, hcell⟩ := HA.out.nAt (k := k) HKL.out
      have hs := anyJ_snoc overS l k HKL.out
      rw [HNO.out] at hs
      have hf := anyJ_from overS l k HKL.out
      have HS := Lib.hid hs; have HF := Lib.hid hf; clear hs hf
      have hbk := HB.out (nth l k)
      obtain ⟨y, hy⟩ : ∃ y, y = nth l k := ⟨_, rfl⟩
      rw [← hy] at hcell hbk
      have HY := Lib.hid hy; clear hy
      obtain ⟨q, hq⟩ : ∃ q, q = overS y := ⟨_, rfl⟩
      rw [← hq] at hbk
      have HQ := Lib.hid hq; clear hq
      have HBK := Lib.hid hbk; clear hbk
      cases q with
      | true =>
        go_wp2_with (go_at_call 39; refine HBK.out.mono ?_; rintro e w3 ⟨rfl, rfl⟩)
        go_ret
        exact ⟨_, rfl, by rw [HF.out (by rw [← HY.out, ← HQ.out])]; simp, rfl⟩
      | false =>
        go_wp2_with (go_at_call 39; refine HBK.out.mono ?_; rintro e w3 ⟨rfl, rfl⟩)
        go_roundw
        case rel => exact ⟨k + 1, by omega, by go_num, by rw [HS.out, ← HY.out, ← HQ.out]; rfl, by trivial⟩
        case measure => simp [intOf]; omega
    · go_wp2
      go_ret
      have h3 := HNO.out
      rw [List.take_of_length_le (by have := HN.out; omega)] at h3
      exact ⟨_, rfl, by rw [h3]; decide, rfl⟩
set_option maxRecDepth 4000 in
set_option maxHeartbeats 1000000 in
theorem isOff_any (A : Option Addr) (n c : Nat) (l : List Int) (w : World) (hn : n = l.length) (hm : n ≤ maxLen) (hA : Ints w.heap.size w A l) :
    Calls Try.prog 31 #[.slice A n c] w fun e w' => e = .returned (.bool (offS l)) ∧ w = w' := by
  have hc : Calls Try.prog 38 #[.slice A n c, .func (.func 39) #[] #[]] w fun e w' => e = .returned (.bool (offS l)) ∧ w = w' := by
    have hc := indexJ_any A n c l w hn hm hA
    have HC := Lib.hid hc; clear hc hA hn
    go_enter Try.func38, Try.ntmps38
    go_wp2_with (go_at_call 43; refine HC.out.mono ?_; rintro e w3 ⟨r, rfl, hr, rfl⟩)
    go_ret
    rw [← hr]
    exact ⟨rfl, rfl⟩
  have HC := Lib.hid hc; clear hc hA hn
  generalize offS l = q at *
  go_enter Try.func31, Try.ntmps31
  go_wp2_with (go_at_call 38; refine HC.out.mono ?_; rintro e w3 ⟨rfl, rfl⟩)
  go_ret
  exact ⟨rfl, rfl⟩
set_option maxRecDepth 4000 in
theorem size1_any (A : Option Addr) (n c m g : Nat) (w : World) (hg : Blk w g 3 #[.int .i64 (m : Int)]) : Calls Try.prog 37 #[.slice A n c, .pointer (some ⟨g, 0, none⟩)] w fun e w' => e = .returned (.bool (decide (n ≠ m))) ∧ w = w' := by
  obtain ⟨c1, f1⟩ := hg.one
  by_cases h : n = m
  · subst h
    go_enter Try.func37, Try.ntmps37
    go_wp2
    go_ret
    simp
  · have d : decide ((n : Int) = (m : Int)) = false := by simp; omega
    have d2 : ((n : Int) == (m : Int)) = false := by simp; omega
    go_enter Try.func37, Try.ntmps37
    go_wp2
    go_ret
    simp [h]; omega

set_option maxRecDepth 4000 in
set_option maxHeartbeats 1000000 in
theorem indexN_any (X : Option Addr) (n c : Nat) (rs : List RJ) (m g : Nat) (w : World) (hn : n = rs.length) (hm : n ≤ maxLen) (hX : RowsJ w.heap.size w X rs) (hg : Blk w g 3 #[.int .i64 (m : Int)]) :
    Calls Try.prog 40 #[.slice X n c, .func (.func 37) #[] #[.pointer (some ⟨g, 0, none⟩)]] w fun e w' => ∃ r, e = .returned (.int .i64 r) ∧ decide (0 ≤ r) = (rs.map RJ.l).any (wrongS m) ∧ w = w' := by
  have hb := fun (y : RJ) (hy : RJok w.heap.size w y) => (by have h := size1_any y.A y.n y.c m g w hg; rw [hy.1] at h ⊢; exact h : Calls Try.prog 37 #[.slice y.A y.n y.c, .pointer (some ⟨g, 0, none⟩)] w fun e w' => e = .returned (.bool (wrongS m y.l)) ∧ w = w')
  generalize ((wrongS m)) = P at hb ⊢
  have HB := Lib.hid hb
  have HA := Lib.hid hX
  have HN := Lib.hid hn; clear hn hX hb
  unfold maxLen at hm
  go_enter Try.func40, Try.ntmps40
  go_wp2
  go_loopw [5, 8] (fun _ i wr => ∃ k : Nat, k ≤ n ∧ i = .int .i64 k ∧ ((rs.map RJ.l).take k).any P = false ∧ wr = w) (fun _ i _ => n - (intOf i).toNat)
  case atStart => exact ⟨0, by omega, rfl, rfl, rfl⟩
  case round =>
    obtain ⟨k, hk, rfl, hno, rfl⟩ := hrel
    have HNO := Lib.hid hno; clear hno
    by_cases hlt : k < n
    · have hkl : k < rs.length := by have := HN.out; omega
      have HKL := Lib.hid hkl; clear hkl
      obtain ⟨b, off, y, rfl, hbl, hcell, hyok, hyr⟩ := HA.out.row HKL.out
      have hs := anyR_snoc P (rs.map RJ.l) k y.l hyr
      rw [HNO.out] at hs
      have hf := anyR_from P (rs.map RJ.l) k y.l hyr
      have HS := Lib.hid hs; have HF := Lib.hid hf; clear hs hf
      have hbk := HB.out y hyok
      clear hyr hyok
      obtain ⟨Ay, ny, cy, ly⟩ := y
      dsimp only at hcell hbk
      obtain ⟨q, hq⟩ : ∃ q, q = P ly := ⟨_, rfl⟩
      rw [← hq] at hbk
      have HQ := Lib.hid hq; clear hq
      have HBK := Lib.hid hbk; clear hbk
      cases q with
      | true =>
        go_wp2_with (go_at_call 37; refine HBK.out.mono ?_; rintro e w3 ⟨rfl, rfl⟩)
        go_ret
        exact ⟨_, rfl, by rw [HF.out HQ.out.symm]; simp, rfl⟩
      | false =>
        go_wp2_with (go_at_call 37; refine HBK.out.mono ?_; rintro e w3 ⟨rfl, rfl⟩)
        go_roundw
        case rel => exact ⟨k + 1, by omega, by go_num, by rw [HS.out]; show (false || P ly) = false; rw [← HQ.out]; rfl, by trivial⟩
        case measure => simp [intOf]; omega
    · go_wp2
      go_ret
      have h3 := HNO.out
      rw [List.take_of_length_le (by rw [List.length_map]; have := HN.out; omega)] at h3
      exact ⟨_, rfl, by rw [h3]; decide, rfl⟩
set_option maxRecDepth 4000 in
set_option maxHeartbeats 1000000 in
theorem containsN_any (X : Option Addr) (n c : Nat) (rs : List RJ) (m g : Nat) (w : World) (hn : n = rs.length) (hm : n ≤ maxLen) (hX : RowsJ w.heap.size w X rs) (hg : Blk w g 3 #[.int .i64 (m : Int)]) :
    Calls Try.prog 32 #[.slice X n c, .func (.func 37) #[] #[.pointer (some ⟨g, 0, none⟩)]] w fun e w' => e = .returned (.bool ((rs.map RJ.l).any (wrongS m))) ∧ w = w' := by
  have hc := indexN_any X n c rs m g w hn hm hX hg
  generalize (rs.map RJ.l).any ((wrongS m)) = q at hc ⊢
  have HC := Lib.hid hc; clear hc hX hn
  go_enter Try.func32, Try.ntmps32
  go_wp2_with (go_at_call 40; refine HC.out.mono ?_; rintro e w3 ⟨r, rfl, hr, rfl⟩)
  go_ret
  exact ⟨rfl, rfl⟩

set_option maxRecDepth 4000 in
set_option maxHeartbeats 1000000 in
theorem indexO_any (X : Option Addr) (n c : Nat) (rs : List RJ) (w : World) (hn : n = rs.length) (hm : n ≤ maxLen) (hX : RowsJ w.heap.size w X rs) :
    Calls Try.prog 40 #[.slice X n c, .func (.func 31) #[] #[]] w fun e w' => ∃ r, e = .returned (.int .i64 r) ∧ decide (0 ≤ r) = (rs.map RJ.l).any offS ∧ w = w' := by
  have hb := fun (y : RJ) (hy : RJok w.heap.size w y) => isOff_any y.A y.n y.c y.l w hy.1 hy.2.1 hy.2.2
  generalize (offS) = P at hb ⊢
  have HB := Lib.hid hb
  have HA := Lib.hid hX
  have HN := Lib.hid hn; clear hn hX hb
  unfold maxLen at hm
  go_enter Try.func40, Try.ntmps40
  go_wp2
  go_loopw [5, 8] (fun _ i wr => ∃ k : Nat, k ≤ n ∧ i = .int .i64 k ∧ ((rs.map RJ.l).take k).any P = false ∧ wr = w) (fun _ i _ => n - (intOf i).toNat)
  case atStart => exact ⟨0, by omega, rfl, rfl, rfl⟩
  case round =>
    obtain ⟨k, hk, rfl, hno, rfl⟩ := hrel
    have HNO := Lib.hid hno; clear hno
    by_cases hlt : k < n
    · have hkl : k < rs.length := by have := HN.out; omega
      have HKL := Lib.hid hkl; clear hkl
      obtain ⟨b, off, y, rfl, hbl, hcell, hyok, hyr⟩ := HA.out.row HKL.out
      have hs := anyR_snoc P (rs.map RJ.l) k y.l hyr
      rw [HNO.out] at hs
      have hf := anyR_from P (rs.map RJ.l) k y.l hyr
      have HS := Lib.hid hs; have HF := Lib.hid hf; clear hs hf
      have hbk := HB.out y hyok
      clear hyr hyok
      obtain ⟨Ay, ny, cy, ly⟩ := y
      dsimp only at hcell hbk
      obtain ⟨q, hq⟩ : ∃ q, q = P ly := ⟨_, rfl⟩
      rw [← hq] at hbk
      have HQ := Lib.hid hq; clear hq
      have HBK := Lib.hid hbk; clear hbk
      cases q with
      | true =>
        go_wp2_with (go_at_call 31; refine HBK.out.mono ?_; rintro e w3 ⟨rfl, rfl⟩)
        go_ret
        exact ⟨_, rfl, by rw [HF.out HQ.out.symm]; simp, rfl⟩
      | false =>
        go_wp2_with (go_at_call 31; refine HBK.out.mono ?_; rintro e w3 ⟨rfl, rfl⟩)
        go_roundw
        case rel => exact ⟨k + 1, by omega, by go_num, by rw [HS.out]; show (false || P ly) = false; rw [← HQ.out]; rfl, by trivial⟩
        case measure => simp [intOf]; omega
    · go_wp2
      go_ret
      have h3 := HNO.out
      rw [List.take_of_length_le (by rw [List.length_map]; have := HN.out; omega)] at h3
      exact ⟨_, rfl, by rw [h3]; decide, rfl⟩
set_option maxRecDepth 4000 in
set_option maxHeartbeats 1000000 in
theorem containsO_any (X : Option Addr) (n c : Nat) (rs : List RJ) (w : World) (hn : n = rs.length) (hm : n ≤ maxLen) (hX : RowsJ w.heap.size w X rs) :
    Calls Try.prog 32 #[.slice X n c, .func (.func 31) #[] #[]] w fun e w' => e = .returned (.bool ((rs.map RJ.l).any offS)) ∧ w = w' := by
  have hc := indexO_any X n c rs w hn hm hX
  generalize (rs.map RJ.l).any (offS) = q at hc ⊢
  have HC := Lib.hid hc; clear hc hX hn
  go_enter Try.func32, Try.ntmps32
  go_wp2_with (go_at_call 40; refine HC.out.mono ?_; rintro e w3 ⟨r, rfl, hr, rfl⟩)
  go_ret
  exact ⟨rfl, rfl⟩

set_option maxRecDepth 4000 in
set_option maxHeartbeats 1000000 in
theorem isOfSize_any (X : Option Addr) (n c : Nat) (rs : List RJ) (m : Nat) (w : World) (hn : n = rs.length) (hm : n ≤ maxLen) (hX : RowsJ w.heap.size w X rs) :
    Calls Try.prog 30 #[.slice X n c, .int .i64 (m : Int)] w fun e w' => e = .returned (.bool (sizedS m (rs.map RJ.l))) ∧ Below w.heap.size w w' := by
  have bx := Blk.new w 3 #[.int .i64 (m : Int)]
  have al := Below.al w (.cells #[.int .i64 (m : Int)] 3)
  obtain ⟨c1, f1⟩ := bx.one
  have hc := containsN_any X n c rs m w.heap.size (w.alloc (.cells #[.int .i64 (m : Int)] 3)) hn hm ((hX.below al).mono (by simp)) bx
  have hz : sizedS m (rs.map RJ.l) = (decide (n = m) && !(rs.map RJ.l).any (wrongS m)) := by unfold sizedS; rw [List.length_map, hn]
  rw [hz]
  generalize (rs.map RJ.l).any (wrongS m) = q at *
  have HC := Lib.hid hc
  have HAL := Lib.hid al
  clear hc bx hX hn hz al
  unfold maxLen at hm
  by_cases h : n = m
  · subst h
    go_enter Try.func30, Try.ntmps30
    go_wp2_with (go_at_call 32; refine HC.out.mono ?_; rintro e w3 ⟨rfl, rfl⟩)
    go_ret
    exact ⟨by simp, HAL.out⟩
  · have d : decide ((n : Int) = (m : Int)) = false := by simp; omega
    have d2 : ((n : Int) == (m : Int)) = false := by simp; omega
    have d3 : decide (n = m) = false := by simpa using h
    rw [d3]
    go_enter Try.func30, Try.ntmps30
    go_wp2
    go_ret
    exact ⟨by simp, HAL.out⟩

set_option maxRecDepth 4000 in
set_option maxHeartbeats 1000000 in
theorem roff_any (A : Option Addr) (n c : Nat) (l : List Int) (w : World) (hn : n = l.length) (hm : n ≤ maxLen) (hA : Ints w.heap.size w A l) :
    Calls Try.prog 34 #[.slice A n c] w fun e w' => e = .returned (.bool (offS l)) ∧ w = w' := by
  unfold offS
  have HA := Lib.hid hA
  have HN := Lib.hid hn; clear hn hA
  unfold maxLen at hm
  go_enter Try.func34, Try.ntmps34
  go_wp2
  go_loopw [3] (fun i wr => ∃ k : Nat, k ≤ n ∧ i = .int .i64 k ∧ (l.take k).any overS = false ∧ wr = w) (fun i _ => n - (intOf i).toNat)
  case atStart => exact ⟨0, by omega, rfl, rfl, rfl⟩
  case round =>
    obtain ⟨k, hk, rfl, hno, rfl⟩ := hrel
    have HNO := Lib.hid hno; clear hno
    by_cases hlt : k < n
    · have hkl : k < l.length := by have := HN.out; omega
      have HKL := Lib.hid hkl; clear hkl
      obtain ⟨b, off, rfl, hbl, hcell⟩ := HA.out.nAt (k := k) HKL.out
      have hs := anyJ_snoc overS l k HKL.out
      rw [HNO.out] at hs
      have hf := anyJ_from overS l k HKL.out
      have HS := Lib.hid hs; have HF := Lib.hid hf; clear hs hf
      obtain ⟨y, hy⟩ : ∃ y, y = nth l k := ⟨_, rfl⟩
      rw [← hy] at hcell
      have HY := Lib.hid hy; clear hy
      by_cases c1 : y < -274877906944
      · have d1 : decide (y < -274877906944) = true := by simpa using c1
        have hq : overS y = true := by unfold overS; rw [d1]; rfl
        have HQ := Lib.hid hq; clear hq c1
        go_wp2
        go_ret
        exact ⟨by rw [HF.out (by rw [← HY.out, HQ.out])] <;> rfl, rfl⟩
      · have d1 : decide (y < -274877906944) = false := by simpa using c1
        by_cases c2 : 274877906944 < y
        · have d2 : decide (274877906944 < y) = true := by simpa using c2
          have hq : overS y = true := by unfold overS; rw [d1, d2]; rfl
          have HQ := Lib.hid hq; clear hq c1 c2
          go_wp2
          go_ret
          exact ⟨by rw [HF.out (by rw [← HY.out, HQ.out])] <;> rfl, rfl⟩
        · have d2 : decide (274877906944 < y) = false := by simpa using c2
          have hq : overS y = false := by unfold overS; rw [d1, d2]; rfl
          have HQ := Lib.hid hq; clear hq c1 c2
          go_wp2
          go_roundw
          case rel => exact ⟨k + 1, by omega, by go_num, by rw [HS.out, ← HY.out, HQ.out]; rfl, by trivial⟩
          case measure => simp [intOf]; omega
    · go_wp2
      go_ret
      have h3 := HNO.out
      rw [List.take_of_length_le (by have := HN.out; omega)] at h3
      exact ⟨by rw [h3] <;> rfl, rfl⟩
end Go.Proofs.Ytfncccjiiipfoaa
