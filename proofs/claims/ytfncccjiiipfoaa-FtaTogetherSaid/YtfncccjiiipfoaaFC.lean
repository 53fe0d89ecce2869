/-
  Numbers in slices: whether two are the same, one taken out, whether one is too great. Conditions: those that each theorem names.
-/
import Derived.Test.YtfncccjiiipfoaaFB
namespace Go.Proofs.Ytfncccjiiipfoaa
open Go.RowKit

theorem own_slice {W : World} {b : Nat} {e : TypeId} {sz : Nat} {v : Value} {n : Nat} {xs : List Value} (h : W.ownsRow b e sz v n xs) : ∃ A c, v = .slice A n c := by
  rcases h.2 with ⟨rfl, rfl⟩ | ⟨g, cap, cur, rfl, _⟩
  · exact ⟨none, 0, rfl⟩
  · exact ⟨_, _, rfl⟩
theorem cell_one_new (w : World) (x : Value) (t : TypeId) : ∀ j u, [x][j]? = some u → (w.alloc (.cells #[x] t)).cell? ((⟨w.heap.size, 0, none⟩ : Addr).add j) = some u := by
  intro j u hj
  match j, hj with
  | 0, hj => simp at hj; subst hj; simp [Addr.add]
  | j + 1, hj => simp at hj
theorem same_snoc {α : Type} {l m : List α} {k : Nat} (h : l.take k = m.take k) (hk : l[k]? = m[k]?) : l.take (k + 1) = m.take (k + 1) := by
  rw [List.take_add_one, List.take_add_one, h, hk]
theorem same_whole {α : Type} {l m : List α} {k : Nat} (h : l.take k = m.take k) (h1 : k = l.length) (h2 : k = m.length) : l = m := by
  have e1 : l.take k = l := List.take_of_length_le (by omega)
  have e2 : m.take k = m := List.take_of_length_le (by omega)
  rw [e1, e2] at h; exact h
theorem at_same {α : Type} {l m : List α} {k : Nat} {d : α} (h1 : k < l.length) (h2 : k < m.length) (h : l[k]?.getD d = m[k]?.getD d) : l[k]? = m[k]? := by
  rw [List.getElem?_eq_getElem h1, List.getElem?_eq_getElem h2] at *
  simpa using h
set_option maxHeartbeats 1000000 in
theorem jsame_any (A B : Option Addr) (n m c d : Nat) (x y : List Int) (w : World) (hn : n = x.length) (hm : m = y.length) (hx : n ≤ maxLen) (hy : m ≤ maxLen) (hA : Ints w.heap.size w A x) (hB : Ints w.heap.size w B y) :
    Calls Try.prog 18 #[.slice A n c, .slice B m d] w fun e w' => e = .returned (.bool (decide (x = y))) ∧ Below w.heap.size w w' := by
  unfold maxLen at hx hy
  by_cases hl : n = m
  rotate_left
  · have hne : decide (x = y) = false := by simp; rintro rfl; exact hl (hn.trans hm.symm)
    have d0 : decide ((n : Int) = (m : Int)) = false := by simp; omega
    have d1 : ((n : Int) != (m : Int)) = true := by simp; omega
    have d2 : ((n : Int) == (m : Int)) = false := by simp; omega
    rw [hne]
    clear hn hm hA hB hl hne
    go_enter Try.func18, Try.ntmps18
    go_wp2
    go_ret
    exact ⟨rfl, Below.refl _ _⟩
  subst hl
  obtain ⟨R, hR⟩ : ∃ R, R = decide (x = y) := ⟨_, rfl⟩
  rw [← hR]
  have HN := Lib.hid hn; have HM := Lib.hid hm; have HA := Lib.hid hA; have HB := Lib.hid hB; have HR := Lib.hid hR; clear hn hm hA hB hR hy
  go_enter Try.func18, Try.ntmps18
  go_wp2
  go_loopw [13] (fun i wr => ∃ k : Nat, k ≤ n ∧ i = .int .i64 k ∧ x.take k = y.take k ∧ Below w.heap.size w wr) (fun i _ => n - (intOf i).toNat)
  case atStart => exact ⟨0, by omega, rfl, rfl, Below.refl _ _⟩
  case round =>
    obtain ⟨k, hk, rfl, hs, hBr⟩ := hrel
    have HS := Lib.hid hs; clear hs
    by_cases hlt : k < n
    · have hkl : k < x.length := by have := HN.out; omega
      have hkm : k < y.length := by have := HM.out; omega
      obtain ⟨b, off, rfl, hbl, hc0⟩ := (HA.out.below hBr).at_ hkl
      obtain ⟨b', off', rfl, hbl', hc1⟩ := (HB.out.below hBr).at_ hkm
      have hbs : b < wr.heap.size := Nat.lt_of_lt_of_le hbl hBr.size
      have hbs' : b' < wr.heap.size := Nat.lt_of_lt_of_le hbl' hBr.size
      by_cases he : x[k]?.getD 0 = y[k]?.getD 0
      · have hs2 := same_snoc HS.out (at_same hkl hkm he)
        have HS2 := Lib.hid hs2; clear hs2
        rw [he] at hc0
        clear he
        generalize y[k]?.getD 0 = v at *
        clear hkl hkm
        go_wp2
        go_quiet (fail)
        go_wp2
        go_roundw
        case rel => exact ⟨k + 1, by omega, by go_num, HS2.out, below_drewN hBr _⟩
        case measure => simp [intOf]; omega
      · obtain rfl : R = false := by rw [HR.out]; simp; rintro rfl; exact he rfl
        generalize x[k]?.getD 0 = u at *
        generalize y[k]?.getD 0 = v at *
        have d1 : (u != v) = true := by simpa using he
        have d2 : (u == v) = false := by simpa using he
        all_goals
          clear he hkl hkm
          go_wp2
          go_quiet (fail)
          go_wp2
          go_ret
          exact ⟨rfl, below_drewN hBr _⟩
    · obtain rfl : R = true := by rw [HR.out]; exact decide_eq_true (same_whole HS.out (by have := HN.out; omega) (by have := HM.out; omega))
      go_wp2
      go_ret
      exact ⟨rfl, hBr⟩

set_option maxRecDepth 4000 in
set_option maxHeartbeats 2000000 in
/-- The numbers without one of them. -/
theorem without_any (A : Option Addr) (n c : Nat) (l : List Int) (v : Int) (w : World) (hn : n = l.length) (hm : n ≤ 65536) (hA : Ints w.heap.size w A l) :
    Calls Try.prog 26 #[.slice A n c, .int .i64 v] w fun e w' => ∃ B d, e = .returned (.slice B (l.erase v).length d) ∧ w'.ownsRow w.heap.size 2 1 (.slice B (l.erase v).length d) (l.erase v).length ((l.erase v).map (Value.int .i64)) ∧ Below w.heap.size w w' := by
  obtain ⟨i0, hi, hz0, hz1, hz2⟩ := info_parts Try.infoJ
  have HN := Lib.hid hn; have HA := Lib.hid hA; clear hn hA
  go_enter Try.func26, Try.ntmps26
  go_wp2
  go_loopw [5, 6, 7] (fun x d i wr => ∃ (k m : Nat) (B : Option Addr) (cb : Nat), k ≤ n ∧ i = .int .i64 k ∧ x = .slice B m cb ∧ m = ((l.take k).erase v).length ∧ m ≤ k ∧ d = .bool (decide (v ∈ l.take k)) ∧ wr.ownsRow w.heap.size 2 1 (.slice B m cb) m (((l.take k).erase v).map (Value.int .i64)) ∧ Below w.heap.size w wr) (fun _ _ i _ => n - (intOf i).toNat)
  case atStart => exact ⟨0, 0, none, 0, by omega, rfl, rfl, rfl, by omega, by simp, World.ownsRow_nil _ _ _ _, Below.refl _ _⟩
  case round =>
    obtain ⟨k, m, B, cb, hk, rfl, rfl, hml, hmk, rfl, ho, hB⟩ := hrel
    by_cases hlt : k < n
    · have hkl : k < l.length := by have := HN.out; omega
      obtain ⟨b, off, rfl, hbl, hc1⟩ := (HA.out.below hB).nAt hkl
      have hbs : b < wr.heap.size := Nat.lt_of_lt_of_le hbl hB.size
      have hsn := erase_snoc (l.take k) (nth l k) v
      have htk := take_nth l k hkl
      have hmem : decide (v ∈ l.take (k + 1)) = (decide (v ∈ l.take k) || decide (nth l k = v)) := by
        rw [htk]; simp only [List.mem_append, List.mem_singleton]
        by_cases h1 : v ∈ l.take k <;> by_cases h2 : nth l k = v <;> simp [h1, h2]; exact fun h => h2 h.symm
      rw [← htk] at hsn
      generalize nth l k = y at *
      by_cases hd : v ∈ l.take k
      · rw [if_pos hd] at hsn
        have d1 : decide (v ∈ l.take k) = true := decide_eq_true hd
        rw [d1, Bool.true_or] at hmem
        have hlen : (((l.take (k + 1)).erase v)).length = m + 1 := by rw [hsn]; simp; omega
        have hmap : ((l.take (k + 1)).erase v).map (Value.int .i64) = ((l.take k).erase v).map (Value.int .i64) ++ [.int .i64 y] := by rw [hsn]; simp
        rw [d1]
        have HL := Lib.hid hlen; have HM := Lib.hid hmap; have HD := Lib.hid hmem
        clear hlen hmap hmem hsn htk hd d1 hml hkl
        generalize List.map (Value.int .i64) (List.erase (List.take k l) v) = xs at *
        by_cases hy : y = v
        · subst hy
          go_wp2_with (at_builtin; refine wpList_append_own _ rfl _ _ 22 rfl w.heap.size 2 i0 (.int .i64 0) 1 8 Try.underlying22 hi hz0 hz1 hz2 rfl (by decide) (.slice B m cb) m _ rfl (ho.alloc _) ⟨wr.heap.size, 0, none⟩ 1 1 [.int .i64 y] rfl rfl (cell_one_new _ _ _) (by simp [Value.oneCell']) (by unfold maxLen; omega) (by omega) (by have := hB.size; simp; omega) ?_; intro v' w2 hown hgrow _; obtain ⟨A2, c2, rfl⟩ := own_slice hown; have hb2 := own_below ho hgrow hB (Nat.le_refl _) hB.size)
          go_roundw
          case rel => exact ⟨k + 1, m + 1, A2, c2, by omega, by go_num, rfl, HL.out.symm, by omega, by rw [HD.out], by rw [HM.out]; exact hown, hb2⟩
          case measure => simp [intOf]; omega
        · have d2 : decide (y = v) = false := decide_eq_false hy
          have d3 : (y == v) = false := by simpa using hy
          go_wp2_with (at_builtin; refine wpList_append_own _ rfl _ _ 22 rfl w.heap.size 2 i0 (.int .i64 0) 1 8 Try.underlying22 hi hz0 hz1 hz2 rfl (by decide) (.slice B m cb) m _ rfl (ho.alloc _) ⟨wr.heap.size, 0, none⟩ 1 1 [.int .i64 y] rfl rfl (cell_one_new _ _ _) (by simp [Value.oneCell']) (by unfold maxLen; omega) (by omega) (by have := hB.size; simp; omega) ?_; intro v' w2 hown hgrow _; obtain ⟨A2, c2, rfl⟩ := own_slice hown; have hb2 := own_below ho hgrow hB (Nat.le_refl _) hB.size)
          go_roundw
          case rel => exact ⟨k + 1, m + 1, A2, c2, by omega, by go_num, rfl, HL.out.symm, by omega, by rw [HD.out], by rw [HM.out]; exact hown, hb2⟩
          case measure => simp [intOf]; omega
      · rw [if_neg hd] at hsn
        have d1 : decide (v ∈ l.take k) = false := decide_eq_false hd
        have her : (l.take k).erase v = l.take k := List.erase_of_not_mem hd
        rw [d1, Bool.false_or] at hmem
        rw [d1]
        rw [her] at hml ho
        by_cases hy : y = v
        · rw [if_pos hy] at hsn
          subst hy
          have d4 : decide (y ∈ l.take (k + 1)) = true := by rw [hmem]; simp
          have HL := Lib.hid hsn; have HD := Lib.hid d4; have HM := Lib.hid hml
          clear hmem hsn htk hd d1 d4 her hml hkl
          go_wp2
          go_roundw
          case rel => exact ⟨k + 1, m, B, cb, by omega, by go_num, rfl, by rw [HL.out]; exact HM.out, by omega, by rw [HD.out], by rw [HL.out]; exact ho, hB⟩
          case measure => simp [intOf]; omega
        · rw [if_neg hy] at hsn
          have d2 : decide (y = v) = false := decide_eq_false hy
          have d3 : (y == v) = false := by simpa using hy
          rw [d2] at hmem
          have hlen : (((l.take (k + 1)).erase v)).length = m + 1 := by rw [hsn, htk, hml]; simp
          have hmap : ((l.take (k + 1)).erase v).map (Value.int .i64) = (l.take k).map (Value.int .i64) ++ [.int .i64 y] := by rw [hsn, htk]; simp
          have HL := Lib.hid hlen; have HM := Lib.hid hmap; have HD := Lib.hid hmem
          clear hlen hmap hmem hsn htk hd d1 hml hkl her hy
          generalize List.map (Value.int .i64) (List.take k l) = xs at *
          go_wp2_with (at_builtin; refine wpList_append_own _ rfl _ _ 22 rfl w.heap.size 2 i0 (.int .i64 0) 1 8 Try.underlying22 hi hz0 hz1 hz2 rfl (by decide) (.slice B m cb) m _ rfl (ho.alloc _) ⟨wr.heap.size, 0, none⟩ 1 1 [.int .i64 y] rfl rfl (cell_one_new _ _ _) (by simp [Value.oneCell']) (by unfold maxLen; omega) (by omega) (by have := hB.size; simp; omega) ?_; intro v' w2 hown hgrow _; obtain ⟨A2, c2, rfl⟩ := own_slice hown; have hb2 := own_below ho hgrow hB (Nat.le_refl _) hB.size)
          go_roundw
          case rel => exact ⟨k + 1, m + 1, A2, c2, by omega, by go_num, rfl, HL.out.symm, by omega, by rw [HD.out], by rw [HM.out]; exact hown, hb2⟩
          case measure => simp [intOf]; omega
    · have htk : l.take k = l := List.take_of_length_le (by have := HN.out; omega)
      rw [htk] at hml ho
      subst hml
      go_wp2
      go_ret
      exact ⟨B, cb, rfl, ho, hB⟩
end Go.Proofs.Ytfncccjiiipfoaa
