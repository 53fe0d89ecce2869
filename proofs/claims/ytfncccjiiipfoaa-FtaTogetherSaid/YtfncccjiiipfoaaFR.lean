/-
  What a clock sees of all others, and rows in which nothing is seen wrong. Conditions: those that each theorem names.
-/
import Derived.Test.YtfncccjiiipfoaaFQ
import Derived.Test.YtfncccjiiipfoaaFL
namespace Go.Proofs.Ytfncccjiiipfoaa
open Go.RowKit

/-- The first k numbers, the others not yet there. -/
def partS (l : List Int) (k : Nat) : List Int := l.take k ++ List.replicate (l.length - k) 0
theorem partS_zero (l : List Int) : partS l 0 = List.replicate l.length 0 := by unfold partS; simp
theorem partS_whole (l : List Int) : partS l l.length = l := by unfold partS; simp
theorem partS_length (l : List Int) (k : Nat) (h : k ≤ l.length) : (partS l k).length = l.length := by unfold partS; simp; omega
theorem partS_step (l : List Int) (k : Nat) (h : k < l.length) (v : Int) (hv : nth l k = v) : (partS l k).set k v = partS l (k + 1) := by
  subst hv
  unfold partS
  have h1 : (l.take k).length = k := by simp; omega
  rw [List.set_append_right _ _ (by omega), h1, Nat.sub_self, take_nth l k h, show l.length - k = (l.length - (k + 1)) + 1 by omega, List.replicate_succ, List.set_cons_zero, List.append_assoc]
  rfl
theorem ownJ_new (w : World) (n : Nat) : OwnJ (w.alloc (.cells ((List.replicate n (0 : Int)).map (Value.int .i64)).toArray 2)) w.heap.size (List.replicate n 0) 2 ((List.replicate n (0 : Int)).map (Value.int .i64)).toArray :=
  ⟨Blk.new _ _ _, fun j hj => by
    rw [List.length_replicate] at hj
    rw [nth_zeros]
    simp [hj]⟩

set_option maxRecDepth 8000 in
set_option maxHeartbeats 4000000 in
theorem against_any (A V : Option Addr) (n c vn vc : Nat) (cs ws : List Int) (i : Nat) (w : World) (hn : n = cs.length) (hm : n ≤ 8) (hvn : vn = ws.length) (hv : n = vn) (hi : i < n)
    (hA : Ints w.heap.size w A cs) (hV : Ints w.heap.size w V ws) (hc : offS cs = false) (hw : offS ws = false) :
    Calls Try.prog 33 #[.slice A n c, .int .i64 (i : Int), .slice V vn vc] w fun e w' => ∃ g, e = .returned (.slice (some ⟨g, 0, none⟩) n n) ∧ Ints w'.heap.size w' (some ⟨g, 0, none⟩) (agS cs ws i) ∧ Below w.heap.size w w' := by
  subst hv
  have hmk := run_make_J n (by omega)
  have hal : (agS cs ws i).length = n := by rw [agS_length]; exact hn.symm
  have k1 := ownJ_new w n
  have al := Below.al w (.cells ((List.replicate n (0 : Int)).map (Value.int .i64)).toArray 2)
  generalize ((List.replicate n (0 : Int)).map (Value.int .i64)).toArray = cells at *
  rw [show (List.replicate n (0 : Int)) = partS (agS cs ws i) 0 by rw [partS_zero, hal]] at k1
  have hnth := fun k (hk : k < n) => agS_nth cs ws i k (by omega)
  have hpl := fun k (hk : k ≤ n) => partS_length (agS cs ws i) k (by omega)
  have hst := fun k (hk : k < n) => partS_step (agS cs ws i) k (by omega)
  have hwh : partS (agS cs ws i) n = agS cs ws i := by have := partS_whole (agS cs ws i); rwa [hal] at this
  rw [hal] at hpl
  have hcb := nth_in (B := 274877906944) (by decide) (offS_in hc)
  have hwb := nth_in (B := 274877906944) (by decide) (offS_in hw)
  generalize agS cs ws i = ag at *
  have HK := Lib.hid k1; have HAL := Lib.hid al; have HN := Lib.hid hnth; have HPL := Lib.hid hpl; have HST := Lib.hid hst; have HWH := Lib.hid hwh; have HCB := Lib.hid hcb; have HWB := Lib.hid hwb
  have HA := Lib.hid hA; have HV := Lib.hid hV; have HCN := Lib.hid hn; have HVN := Lib.hid hvn
  clear k1 al hnth hpl hst hwh hcb hwb hA hV hal hc hw hn hvn
  go_enter Try.func33, Try.ntmps33
  go_wp2
  go_loopw [8, 14] (fun _ j wr => ∃ (k : Nat) (cur : Array Value), k ≤ n ∧ j = .int .i64 k ∧ OwnJ wr w.heap.size (partS ag k) 2 cur ∧ Below w.heap.size w wr) (fun _ j _ => n - (intOf j).toNat)
  case atStart => exact ⟨0, cells, by omega, rfl, HK.out, HAL.out⟩
  case round =>
    obtain ⟨k, cur, hk, rfl, hO, hB⟩ := hrel
    by_cases hlt : k < n
    · obtain ⟨b, off, rfl, hbl, hcell⟩ := (HA.out.below hB).nAt (k := k) (by rw [← HCN.out]; exact hlt)
      obtain ⟨b', off', e1, hbl', hcelli⟩ := (HA.out.below hB).nAt (k := i) (by rw [← HCN.out]; exact hi)
      injection e1 with e1; injection e1 with e1 e2; subst e1; subst e2
      obtain ⟨b2, off2, rfl, hbl2, hcellw⟩ := (HV.out.below hB).nAt (k := k) (by rw [← HVN.out]; exact hlt)
      have hag := HN.out k hlt
      have b1 := HCB.out k; have b3 := HCB.out i; have b4 := HWB.out k
      have hoc := hO.cell (j := k) (by rw [HPL.out k hk]; exact hlt)
      have hset := hO.set_ (k := k) (by rw [HPL.out k hk]; exact hlt) (nth cs k - nth cs i + nth ws k)
      rw [HST.out k hlt _ hag] at hset
      have hfr := hO.blk.frozen k
      have hgl := hO.lt
      generalize nth cs k = y at *
      generalize nth cs i = z at *
      generalize nth ws k = v at *
      generalize nth (partS ag k) k = pk at *
      have ey : IntKind.i64.wrap (y - z) = y - z := IntWalk.i64_in _ (by omega)
      have ez : IntKind.i64.wrap (y - z + v) = y - z + v := IntWalk.i64_in _ (by omega)
      have hbw : b < wr.heap.size := Nat.lt_of_lt_of_le hbl hB.size
      have hbw2 : b2 < wr.heap.size := Nat.lt_of_lt_of_le hbl2 hB.size
      have HSET := Lib.hid hset; clear hset hag hO b1 b3 b4
      go_wp2
      refine wp_region_still_tail 17 (by kernel_rfl) (by kernel_rfl) ?_
      simp only [List.take_succ_cons, List.take_zero, List.drop_succ_cons, List.drop_zero]
      change wpStill _ _ (wr.drew) (fun a' => wpList _ _ _ _ a' (wr.drew)) _ _
      repeat still_step
      refine wpStill_nil ?_
      go_wp2
      go_roundw
      case rel => exact ⟨k + 1, _, by omega, by go_num, ⟨HSET.out.blk.drew, HSET.out.at_⟩, (hB.setCell (p := ⟨w.heap.size, k, none⟩) (Nat.le_refl _) _).drew⟩
      case measure => simp [intOf]; omega
    · obtain rfl : k = n := by omega
      have hO2 := hO
      rw [HWH.out] at hO2
      go_wp2
      go_ret
      exact ⟨_, rfl, hO2.ints, hB⟩

theorem madeRJ (m : Nat) : madeCells (Value.slice none 0 0 : Value).cells m = (List.replicate m (Value.slice none 0 0)).toArray := by
  apply Array.toList_inj.1
  rw [show (Value.slice none 0 0 : Value).cells = #[Value.slice none 0 0] from rfl, toList_madeCells_one]
theorem Try.infoRJ : (Try.prog.info? 22).map (fun i => (i.zero, i.size, i.bytes)) = some (some (.slice none 0 0), 1, 24) := by kernel_rfl
theorem run_make_RJ (m : Nat) (hm : m ≤ 8) (w : World) :
    (Instr.makeSlice 36 (.int .i64 (m : Int)) (.int .i64 (m : Int))).run Try.prog w = .ok (.slice (some ⟨w.heap.size, 0, none⟩) m m) (w.alloc (.cells (List.replicate m (Value.slice none 0 0)).toArray 22)) := by
  obtain ⟨i0, hi, hz0, hz1, hz2⟩ := info_parts Try.infoRJ
  have := run_make_rowN (P := Try.prog) 36 22 i0 _ Try.underlying36 hi hz0 .i64 .i64 m m (Nat.le_refl _) (by rw [hz2]; omega) (by omega) w
  rw [hz1, Nat.mul_one, madeRJ] at this
  exact this
/-- Rows of nothing, of the call's own: each lies behind the one before. -/
structure ZerR (w : World) (n k : Nat) (W : World) : Prop where
  size : W.heap.size = w.heap.size + 1 + k
  cells : ∃ cur : Array Value, Blk W w.heap.size 22 cur ∧ cur.size = n ∧ ∀ j, j < k → cur[j]? = some (.slice (some ⟨w.heap.size + 1 + j, 0, none⟩) n n)
  rows : ∀ j, j < k → OwnJ W (w.heap.size + 1 + j) (List.replicate n 0) 2 ((List.replicate n (0 : Int)).map (Value.int .i64)).toArray
  low : Below w.heap.size w W
theorem ZerR.begin (w : World) (n : Nat) : ZerR w n 0 (w.alloc (.cells (List.replicate n (Value.slice none 0 0)).toArray 22)) :=
  ⟨by simp, ⟨_, Blk.new _ _ _, by simp, fun j hj => absurd hj (Nat.not_lt_zero _)⟩, fun j hj => absurd hj (Nat.not_lt_zero _), Below.al _ _⟩
theorem ZerR.step {w W : World} {n k : Nat} (h : ZerR w n k W) (hk : k < n) : ZerR w n (k + 1) ((W.setCell ⟨w.heap.size, k, none⟩ (.slice (some ⟨W.heap.size, 0, none⟩) n n)).alloc (.cells ((List.replicate n (0 : Int)).map (Value.int .i64)).toArray 2)) := by
  obtain ⟨cur, hb, hs, hc⟩ := h.cells
  have hz := h.size
  have hw2 : (W.setCell ⟨w.heap.size, k, none⟩ (.slice (some ⟨W.heap.size, 0, none⟩) n n)).heap.size = W.heap.size := by simp
  have al := Below.al (W.setCell ⟨w.heap.size, k, none⟩ (.slice (some ⟨W.heap.size, 0, none⟩) n n)) (.cells ((List.replicate n (0 : Int)).map (Value.int .i64)).toArray 2)
  have hlow := h.low.setCell (p := ⟨w.heap.size, k, none⟩) (Nat.le_refl _) (.slice (some ⟨W.heap.size, 0, none⟩) n n)
  refine ⟨by simp; omega, ⟨_, (hb.set_ k _).on al, by simpa using hs, fun j hj => ?_⟩, fun j hj => ?_, hlow.trans (al.mono hlow.size)⟩
  · rw [Array.getElem?_setIfInBounds]
    by_cases e : k = j
    · subst e; rw [if_pos rfl, if_pos (by omega), hz]
    · rw [if_neg e]; exact hc j (by omega)
  · by_cases e : j = k
    · subst e
      have := ownJ_new (W.setCell ⟨w.heap.size, j, none⟩ (.slice (some ⟨W.heap.size, 0, none⟩) n n)) n
      rw [hw2, hz] at this
      rw [hz]
      exact this
    · have h1 := h.rows j (by omega)
      have h2 : OwnJ (W.setCell ⟨w.heap.size, k, none⟩ (.slice (some ⟨W.heap.size, 0, none⟩) n n)) (w.heap.size + 1 + j) (List.replicate n 0) 2 _ := ⟨h1.blk.far (p := ⟨w.heap.size, k, none⟩) (by dsimp only; omega) _, h1.at_⟩
      exact h2.on al
def zrows (g n : Nat) : List RJ := (List.range n).map fun j => ⟨some ⟨g + 1 + j, 0, none⟩, n, n, List.replicate n 0⟩
theorem zrows_l (g n : Nat) : (zrows g n).map RJ.l = zeroR n := by
  unfold zrows zeroR
  rw [List.map_map]
  refine List.ext_getElem (by simp) fun j h1 h2 => ?_
  simp
theorem ZerR.rowsJ {w W : World} {n : Nat} (h : ZerR w n n W) (hn : n ≤ 8) : RowsJ W.heap.size W (some ⟨w.heap.size, 0, none⟩) (zrows w.heap.size n) := by
  obtain ⟨cur, hb, hs, hc⟩ := h.cells
  refine ⟨fun _ => ⟨w.heap.size, 0, rfl, hb.lt, fun j hj => ?_⟩, fun r hr => ?_⟩
  · have hj' : j < n := by unfold zrows at hj; simpa using hj
    rw [Nat.zero_add, hb.cell, hc j hj']
    unfold zrows
    rw [List.getElem?_map, List.getElem?_range hj']
    rfl
  · unfold zrows at hr
    obtain ⟨j, hj, rfl⟩ := List.mem_map.1 hr
    have hj' : j < n := by simpa using hj
    exact ⟨by simp, by show n ≤ maxLen; unfold maxLen; omega, (h.rows j hj').ints⟩

set_option maxRecDepth 8000 in
set_option maxHeartbeats 4000000 in
theorem right_any (n : Nat) (w : World) (hm : n ≤ 8) :
    Calls Try.prog 35 #[.int .i64 (n : Int)] w fun e w' => e = .returned (.slice (some ⟨w.heap.size, 0, none⟩) n n) ∧ RowsJ w'.heap.size w' (some ⟨w.heap.size, 0, none⟩) (zrows w.heap.size n) ∧ Below w.heap.size w w' := by
  have hmk := run_make_J n (by omega)
  have hmr := run_make_RJ n hm
  have hb := ZerR.begin w n
  have hst := fun k W (h : ZerR w n k W) (hk : k < n) => h.step hk
  generalize ((List.replicate n (0 : Int)).map (Value.int .i64)).toArray = cells at *
  generalize (List.replicate n (Value.slice none 0 0)).toArray = rcells at *
  have HB := Lib.hid hb; have HST := Lib.hid hst
  clear hb hst
  go_enter Try.func35, Try.ntmps35
  go_wp2
  go_loopw [4, 8] (fun _ j wr => ∃ k : Nat, k ≤ n ∧ j = .int .i64 k ∧ ZerR w n k wr) (fun _ j _ => n - (intOf j).toNat)
  case atStart => exact ⟨0, by omega, rfl, HB.out⟩
  case round =>
    obtain ⟨k, hk, rfl, hR⟩ := hrel
    by_cases hlt : k < n
    · have hs := HST.out k wr hR hlt
      obtain ⟨cur, hbk, hsz, _⟩ := hR.cells
      have hlt2 := hbk.lt
      have hcel : ∃ u, wr.cell? ⟨w.heap.size, k, none⟩ = some u := ⟨_, (hbk.cell k).trans (Array.getElem?_eq_getElem (by omega))⟩
      obtain ⟨u, hu⟩ := hcel
      have hfr := hbk.frozen k
      have HS := Lib.hid hs; clear hs hbk hsz hR
      go_wp2
      go_roundw
      case rel => exact ⟨k + 1, by omega, by go_num, HS.out⟩
      case measure => simp [intOf]; omega
    · obtain rfl : k = n := by omega
      go_wp2
      go_ret
      exact ⟨rfl, hR.rowsJ hm, hR.low⟩
end Go.Proofs.Ytfncccjiiipfoaa
