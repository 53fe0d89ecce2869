/-
  sorted of package fta: the numbers, rising, in memory of the call's own. Condition: numbers in memory, no more than 65536.
-/
import Derived.Test.YtfncccjiiipfoaaFE
import Derived.Test.YtfncccjiiipfoaaFS
import Derived.Test.YtfncccjiiipfoaaE3
namespace Go.Proofs.Ytfncccjiiipfoaa
open Go.RowKit Go.Shelf Go.Lib Go.Sort

theorem madeJ (m : Nat) : madeCells (Value.int .i64 0 : Value).cells m = ((List.replicate m (0 : Int)).map (Value.int .i64)).toArray := by
  apply Array.toList_inj.1
  rw [show (Value.int .i64 0 : Value).cells = #[Value.int .i64 0] from rfl, toList_madeCells_one]
  simp
theorem run_make_J (m : Nat) (hm : m ≤ 65536) (w : World) :
    (Instr.makeSlice 22 (.int .i64 (m : Int)) (.int .i64 (m : Int))).run Try.prog w = .ok (.slice (some ⟨w.heap.size, 0, none⟩) m m) (w.alloc (.cells ((List.replicate m (0 : Int)).map (Value.int .i64)).toArray 2)) := by
  obtain ⟨i0, hi, hz0, hz1, hz2⟩ := info_parts Try.infoJ
  have := run_make_rowN (P := Try.prog) 22 2 i0 _ Try.underlying22 hi hz0 .i64 .i64 m m (Nat.le_refl _) (by rw [hz2]; omega) (by omega) w
  rw [hz1, Nat.mul_one, madeJ] at this
  exact this
theorem oneJ : (Try.prog.info? 2).map (·.size) = some 1 := by kernel_rfl
/-- copy of numbers, over the head of a row of the call's own. -/
theorem run_copy_ints {P : Program} (w : World) (dT sT ty elem : TypeId) (hu : P.underlying dT = some (.slice elem)) (hsz : (P.info? elem).map (·.size) = some 1)
    (g m m' : Nat) (A : Option Addr) (n c : Nat) (cur zs : List Int) (E : TypeId) (hg : Blk w g E (cur.map (Value.int .i64)).toArray) (B : Nat) (hA : Ints B w A zs) (hn : n = zs.length) (hm : m = cur.length) (hle : n ≤ m) :
    ∃ w', (Builtin.copy_ #[dT, sT] ty #[.slice (some ⟨g, 0, none⟩) m m', .slice A n c]).run P w = .ok (goInt zs.length) w' ∧ Blk w' g E ((zs ++ cur.drop zs.length).map (Value.int .i64)).toArray ∧ w.grownBy w' (some g) := by
  subst hn
  subst hm
  by_cases h0 : zs = []
  · subst h0
    exact ⟨w, run_copy_none (P := P) w dT sT ty elem _ A _ _ _ _ hu hsz (by simp), by simpa using hg, World.grownBy.refl w _⟩
  · obtain ⟨b, off, rfl, _, hc⟩ := hA h0
    have hlen : (zs.map (Value.int .i64)).length = zs.length := by simp
    have := run_copy_row (P := P) w dT sT ty elem g 0 cur.length m' ⟨b, off, none⟩ zs.length c _ E (zs.map (Value.int .i64)) hu hsz hg (by rw [hlen]; exact (Nat.min_eq_left hle).symm) ?_ (by simpa using hle) ?_
    · rw [hlen] at this
      refine ⟨_, this, ?_, only_setRow w g _⟩
      have h2 := setRow_heap w g (cur.map (Value.int .i64)).toArray ((cur.map (Value.int .i64)).toArray.toList.take 0 ++ (zs.map (Value.int .i64)) ++ (cur.map (Value.int .i64)).toArray.toList.drop (0 + zs.length)).toArray E (0, 0) hg
      unfold Blk
      rw [h2]
      simp
    · intro j v hj
      have hjl : j < zs.length := by
        rcases Nat.lt_or_ge j zs.length with hl | hl
        · exact hl
        · simp [List.getElem?_eq_none hl] at hj
      have hv : v = .int .i64 (zs[j]?.getD 0) := by simpa [hjl, eq_comm] using hj
      rw [hv, ← hc j hjl, addr_add]
    · intro v hv
      obtain ⟨x, _, rfl⟩ := List.mem_map.1 hv
      rfl

set_option maxHeartbeats 1000000 in
/-- slices.Sort. -/
theorem jsort_any (g n cap : Nat) (zs : List Int) (w : World) (h : Blk w g 2 (zs.map (Value.int .i64)).toArray) (hn : n = zs.length) (hm : n ≤ 65536) :
    Calls Try.prog 36 #[.slice (some ⟨g, 0, none⟩) n cap] w fun e w' => e = .returned (.tuple #[]) ∧ Ints w'.heap.size w' (some ⟨g, 0, none⟩) (sortI zs) ∧ Below g w w' := by
  subst hn
  have hH : Holds (Value.int .i64) w g 0 zs.toArray := by
    intro j hj
    have hj2 : j < zs.length := by simpa using hj
    refine ⟨?_, h.frozen _⟩
    rw [Nat.zero_add, h.cell]
    simp [hj2]
  have hgl := h.lt
  have hcon := AnyM.slices_Sort_int Try.sortJ g 0 cap zs w hH hgl (by omega)
  change Calls Try.prog 36 #[.slice (some ⟨g, 0, none⟩) zs.length cap] w _ at hcon
  refine hcon.mono ?_
  rintro e w' ⟨rfl, n, os, rfl⟩
  change _ ∧ Ints _ (grow (putRow (Value.int .i64) (Sort.ahead w n) g 0 (sortI zs).toArray) os) _ _ ∧ _
  refine ⟨rfl, fun hne => ⟨g, 0, rfl, ?_, fun j hj => ?_⟩, ?_⟩
  · show g < (grow _ os).heap.size
    have : (putRow (Value.int .i64) (Sort.ahead w n) g 0 (sortI zs).toArray).heap.size = w.heap.size := size_putRow (Value.int .i64) (Sort.ahead w n) g 0 _
    simp [grow]; omega
  · have hk := holds_grow (Value.int .i64) (putRow (Value.int .i64) (Sort.ahead w n) g 0 (sortI zs).toArray) os g 0 (sortI zs).toArray (by rw [size_putRow]; exact hgl) (holds_putRow (Value.int .i64) (Sort.ahead w n) g 0 zs.toArray (sortI zs).toArray (holds_ahead (Value.int .i64) w n g 0 zs.toArray hH) (by simp [sortI_length]))
    have := (hk j (by simpa using hj)).1
    rw [this]
    simp [hj]
  · refine ⟨rfl, rfl, rfl, ?_, fun k hk => ?_⟩
    · have : (putRow (Value.int .i64) (Sort.ahead w n) g 0 (sortI zs).toArray).heap.size = w.heap.size := size_putRow (Value.int .i64) (Sort.ahead w n) g 0 _
      show w.heap.size ≤ (grow _ os).heap.size
      simp [grow]
    · have hk2 : k < (putRow (Value.int .i64) (Sort.ahead w n) g 0 (sortI zs).toArray).heap.size := by rw [size_putRow]; show k < w.heap.size; omega
      refine (heap_grow_old _ os hk2).trans ?_
      show (w.heap.modify g _)[k]? = _
      rw [Array.getElem?_modify, if_neg (by omega)]

set_option maxRecDepth 4000 in
set_option maxHeartbeats 1000000 in
theorem sorted_any (A : Option Addr) (n c : Nat) (l : List Int) (w : World) (hn : n = l.length) (hm : n ≤ 65536) (hA : Ints w.heap.size w A l) :
    Calls Try.prog 23 #[.slice A n c] w fun e w' => ∃ g, e = .returned (.slice (some ⟨g, 0, none⟩) n n) ∧ Ints w'.heap.size w' (some ⟨g, 0, none⟩) (sortI l) ∧ Below w.heap.size w w' := by
  have hmk := run_make_J n hm
  have k1 := Blk.new w 2 ((List.replicate n (0 : Int)).map (Value.int .i64)).toArray
  have al := Below.al w (.cells ((List.replicate n (0 : Int)).map (Value.int .i64)).toArray 2)
  obtain ⟨w2, hrun, hb2, hg2⟩ := run_copy_ints (P := Try.prog) _ 22 22 3 2 Try.underlying22 oneJ w.heap.size n n A n c (List.replicate n 0) l _ k1 _ (hA.below al) hn (by simp) (Nat.le_refl _)
  have hw2 : Below w.heap.size w w2 := al.grown hg2 (by simp) (by intro k hk; injection hk with hk; omega)
  rw [List.drop_replicate, ← hn, Nat.sub_self, List.replicate_zero, List.append_nil] at hb2
  have hlen : goInt l.length = .int .i64 (n : Int) := by rw [← hn]; rfl
  rw [hlen] at hrun
  have hs := jsort_any w.heap.size n n l w2 hb2 hn hm
  have HS := Lib.hid hs; have HW := Lib.hid hw2
  clear hb2 hw2 hn hg2 k1 al hA hlen hs
  generalize ((List.replicate n (0 : Int)).map (Value.int .i64)).toArray = cs at *
  go_enter Try.func23, Try.ntmps23
  go_wp2_with (go_at_call 36; refine HS.out.mono ?_; rintro e w3 ⟨rfl, hI, hB⟩)
  go_ret
  exact ⟨w.heap.size, rfl, hI, HW.out.trans hB⟩
end Go.Proofs.Ytfncccjiiipfoaa
