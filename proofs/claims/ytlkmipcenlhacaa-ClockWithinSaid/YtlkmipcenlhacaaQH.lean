/-
  sorted of package fta: the numbers, rising, in memory of the call's own. Condition: numbers in memory, no more than 65536.
  Kept, Midpoint and Spread of package fta. Conditions: those that each theorem names.
  Midpoint and Spread of package fta, and what the statements begin with. Conditions: those that each theorem names.
-/
import Derived.Test.YtlkmipcenlhacaaQG
import Derived.Test.YtlkmipcenlhacaaFS
import Derived.Test.YtlkmipcenlhacaaQA
namespace Go.Proofs.Ytlkmipcenlhacaa
open Go.RowKit Go.Shelf Go.Lib Go.Sort

theorem madeJ (m : Nat) : madeCells (Value.int .i64 0 : Value).cells m = ((List.replicate m (0 : Int)).map (Value.int .i64)).toArray := by
  apply Array.toList_inj.1
  rw [show (Value.int .i64 0 : Value).cells = #[Value.int .i64 0] from rfl, toList_madeCells_one]
  simp
theorem run_make_J (m : Nat) (hm : m ≤ 65536) (w : World) :
    (Instr.makeSlice 26 (.int .i64 (m : Int)) (.int .i64 (m : Int))).run Try.prog w = .ok (.slice (some ⟨w.heap.size, 0, none⟩) m m) (w.alloc (.cells ((List.replicate m (0 : Int)).map (Value.int .i64)).toArray 2)) := by
  obtain ⟨i0, hi, hz0, hz1, hz2⟩ := info_parts Try.infoJ
  have := run_make_rowN (P := Try.prog) 26 2 i0 _ Try.underlying26 hi hz0 .i64 .i64 m m (Nat.le_refl _) (by rw [hz2]; omega) (by omega) w
  rw [hz1, Nat.mul_one, madeJ] at this
  exact this
theorem oneJ : (Try.prog.info? 2).map (·.size) = some 1 := by kernel_rfl
/-- copy of numbers, over the head of a row of the call's own. -/
theorem run_copy_ints {P : Program} (w : World) (dT sT ty elem : TypeId) (hu : P.underlying dT = some (.slice elem)) (hsz : (P.info? elem).map (·.size) = some 1)
    (g m m' : Nat) (A : Option Addr) (n c : Nat) (cur zs : List Int) (E : TypeId) (hg : Blk w g E (cur.map (Value.int .i64)).toArray) (B : Nat) (hA : Ints B w A zs) (hn : n = zs.length) (hm : m = cur.length) (hle : n ≤ m) :
    ∃ w', (Builtin.copy_ #[dT, sT] ty #[.slice (some ⟨g, 0, none⟩) m m', .slice A n c]).run P w = .ok (goInt zs.length) w' ∧ Blk w' g E ((zs ++ cur.drop zs.length).map (Value.int .i64)).toArray ∧ w.grownBy w' (some g) := by
  subst hn
  subst hm
  by_cases h0 : zs = []
  · subst h0
    exact ⟨w, run_copy_none (P := P) w dT sT ty elem _ A _ _ _ _ hu hsz (by simp), by simpa using hg, World.grownBy.refl w _⟩
  · obtain ⟨b, off, rfl, _, hc⟩ := hA h0
    have hlen : (zs.map (Value.int .i64)).length = zs.length := by simp
    have := run_copy_row (P := P) w dT sT ty elem g 0 cur.length m' ⟨b, off, none⟩ zs.length c _ E (zs.map (Value.int .i64)) hu hsz hg (by rw [hlen]; exact (Nat.min_eq_left hle).symm) ?_ (by simpa using hle) ?_
    · rw [hlen] at this
      refine ⟨_, this, ?_, only_setRow w g _⟩
      have h2 := setRow_heap w g (cur.map (Value.int .i64)).toArray ((cur.map (Value.int .i64)).toArray.toList.take 0 ++ (zs.map (Value.int .i64)) ++ (cur.map (Value.int .i64)).toArray.toList.drop (0 + zs.length)).toArray E (0, 0) hg
      unfold Blk
      rw [h2]
      simp
    · intro j v hj
      have hjl : j < zs.length := by
        rcases Nat.lt_or_ge j zs.length with hl | hl
        · exact hl
        · simp [List.getElem?_eq_none hl] at hj
      have hv : v = .int .i64 (zs[j]?.getD 0) := by simpa [hjl, eq_comm] using hj
      rw [hv, ← hc j hjl, addr_add]
    · intro v hv
      obtain ⟨x, _, rfl⟩ := List.mem_map.1 hv
      rfl

set_option maxHeartbeats 1000000 in
/-- slices.Sort. -/
theorem jsort_any (g n cap : Nat) (zs : List Int) (w : World) (h : Blk w g 2 (zs.map (Value.int .i64)).toArray) (hn : n = zs.length) (hm : n ≤ 65536) :
    Calls Try.prog 78 #[.slice (some ⟨g, 0, none⟩) n cap] w fun e w' => e = .returned (.tuple #[]) ∧ Ints w'.heap.size w' (some ⟨g, 0, none⟩) (sortI zs) ∧ Below g w w' := by
  subst hn
  have hH : Holds (Value.int .i64) w g 0 zs.toArray := by
    intro j hj
    have hj2 : j < zs.length := by simpa using hj
    refine ⟨?_, h.frozen _⟩
    rw [Nat.zero_add, h.cell]
    simp [hj2]
  have hgl := h.lt
  have hcon := AnyM.slices_Sort_int Try.sortJ g 0 cap zs w hH hgl (by omega)
  change Calls Try.prog 78 #[.slice (some ⟨g, 0, none⟩) zs.length cap] w _ at hcon
  refine hcon.mono ?_
  rintro e w' ⟨rfl, n, os, rfl⟩
  change _ ∧ Ints _ (grow (putRow (Value.int .i64) (Sort.ahead w n) g 0 (sortI zs).toArray) os) _ _ ∧ _
  refine ⟨rfl, fun hne => ⟨g, 0, rfl, ?_, fun j hj => ?_⟩, ?_⟩
  · show g < (grow _ os).heap.size
    have : (putRow (Value.int .i64) (Sort.ahead w n) g 0 (sortI zs).toArray).heap.size = w.heap.size := size_putRow (Value.int .i64) (Sort.ahead w n) g 0 _
    simp [grow]; omega
  · have hk := holds_grow (Value.int .i64) (putRow (Value.int .i64) (Sort.ahead w n) g 0 (sortI zs).toArray) os g 0 (sortI zs).toArray (by rw [size_putRow]; exact hgl) (holds_putRow (Value.int .i64) (Sort.ahead w n) g 0 zs.toArray (sortI zs).toArray (holds_ahead (Value.int .i64) w n g 0 zs.toArray hH) (by simp [sortI_length]))
    have := (hk j (by simpa using hj)).1
    rw [this]
    simp [hj]
  · refine ⟨rfl, rfl, rfl, ?_, fun k hk => ?_⟩
    · have : (putRow (Value.int .i64) (Sort.ahead w n) g 0 (sortI zs).toArray).heap.size = w.heap.size := size_putRow (Value.int .i64) (Sort.ahead w n) g 0 _
      show w.heap.size ≤ (grow _ os).heap.size
      simp [grow]
    · have hk2 : k < (putRow (Value.int .i64) (Sort.ahead w n) g 0 (sortI zs).toArray).heap.size := by rw [size_putRow]; show k < w.heap.size; omega
      refine (heap_grow_old _ os hk2).trans ?_
      show (w.heap.modify g _)[k]? = _
      rw [Array.getElem?_modify, if_neg (by omega)]

set_option maxRecDepth 4000 in
set_option maxHeartbeats 1000000 in
theorem sorted_any (A : Option Addr) (n c : Nat) (l : List Int) (w : World) (hn : n = l.length) (hm : n ≤ 65536) (hA : Ints w.heap.size w A l) :
    Calls Try.prog 73 #[.slice A n c] w fun e w' => ∃ g, e = .returned (.slice (some ⟨g, 0, none⟩) n n) ∧ Ints w'.heap.size w' (some ⟨g, 0, none⟩) (sortI l) ∧ Below w.heap.size w w' := by
  have hmk := run_make_J n hm
  have k1 := Blk.new w 2 ((List.replicate n (0 : Int)).map (Value.int .i64)).toArray
  have al := Below.al w (.cells ((List.replicate n (0 : Int)).map (Value.int .i64)).toArray 2)
  obtain ⟨w2, hrun, hb2, hg2⟩ := run_copy_ints (P := Try.prog) _ 26 26 3 2 Try.underlying26 oneJ w.heap.size n n A n c (List.replicate n 0) l _ k1 _ (hA.below al) hn (by simp) (Nat.le_refl _)
  have hw2 : Below w.heap.size w w2 := al.grown hg2 (by simp) (by intro k hk; injection hk with hk; omega)
  rw [List.drop_replicate, ← hn, Nat.sub_self, List.replicate_zero, List.append_nil] at hb2
  have hlen : goInt l.length = .int .i64 (n : Int) := by rw [← hn]; rfl
  rw [hlen] at hrun
  have hs := jsort_any w.heap.size n n l w2 hb2 hn hm
  have HS := Lib.hid hs; have HW := Lib.hid hw2
  clear hb2 hw2 hn hg2 k1 al hA hlen hs
  generalize ((List.replicate n (0 : Int)).map (Value.int .i64)).toArray = cs at *
  go_enter Try.func73, Try.ntmps73
  go_wp2_with (go_at_call 78; refine HS.out.mono ?_; rintro e w3 ⟨rfl, hI, hB⟩)
  go_ret
  exact ⟨w.heap.size, rfl, hI, HW.out.trans hB⟩
end Go.Proofs.Ytlkmipcenlhacaa

namespace Go.Proofs.Ytlkmipcenlhacaa
open Go.RowKit

theorem Ints.cell {n₀ : Nat} {w : World} {g : Nat} {l : List Int} (h : Ints n₀ w (some ⟨g, 0, none⟩) l) {k : Nat} (hk : k < l.length) : w.cell? ⟨g, k, none⟩ = some (.int .i64 (nth l k)) := by
  obtain ⟨b, off, e, _, hc⟩ := h.nAt hk
  injection e with e
  injection e with e1 e2 _
  subst e1; subst e2
  rw [Nat.zero_add] at hc
  exact hc

theorem Ints.low {n₀ : Nat} {w : World} {g o : Nat} {l : List Int} (h : Ints n₀ w (some ⟨g, o, none⟩) l) (hl : 0 < l.length) : g < n₀ := by
  obtain ⟨b, off, e, hb, _⟩ := h.nAt hl
  injection e with e
  injection e with e1 _ _
  rw [e1]; exact hb

set_option maxRecDepth 4000 in
set_option maxHeartbeats 1000000 in
theorem kept_any (A : Option Addr) (n c : Nat) (l : List Int) (w : World) (hn : n = l.length) (hm : n ≤ 65536) (hA : Ints w.heap.size w A l) :
    Calls Try.prog 65 #[.slice A n c] w fun e w' => e = .returned (keptV (keptS l)) ∧ Below w.heap.size w w' := by
  by_cases h0 : n = 0
  · subst h0
    rw [keptS_none hn.symm]
    clear hA hn
    go_enter Try.func65, Try.ntmps65
    go_wp2
    go_ret3
    exact ⟨rfl, Below.refl _ _⟩
  have hso := sorted_any A n c l w hn hm hA
  obtain ⟨m, rfl⟩ : ∃ m, n = m + 1 := ⟨n - 1, by omega⟩
  have hlast : l.length - 1 = m := by omega
  have hcells := fun (w1 : World) (g : Nat) (hI : Ints w1.heap.size w1 (some ⟨g, 0, none⟩) (sortI l)) (k : Nat) (hk : k < m + 1) => hI.cell (k := k) (by rw [sortI_length]; omega)
  have HSO := Lib.hid hso; clear hso hA
  have hl0 : 0 < l.length := by omega
  have HL := Lib.hid hl0; clear hl0
  obtain ⟨lo, hlo⟩ : ∃ x, nth (sortI l) 0 = x := ⟨_, rfl⟩
  by_cases h1 : lo < -mOff
  · rw [keptS_off (by omega) (.inl (by rw [hlo]; exact h1))]
    unfold mOff at h1
    clear hn hlast h0
    go_enter Try.func65, Try.ntmps65
    go_wp2_with (go_at_call 73; refine HSO.out.mono ?_; rintro e w1 ⟨g, rfl, hI, hB⟩; have hgl := hI.low (by rw [sortI_length]; exact HL.out); have c0 := hcells _ _ hI 0 (by omega); rw [hlo] at c0; clear hI)
    go_ret3
    exact ⟨rfl, hB⟩
  have d1 : decide (lo < -1099511627776) = false := by unfold mOff at h1; simp; omega
  obtain ⟨hi, hhi⟩ : ∃ x, nth (sortI l) m = x := ⟨_, rfl⟩
  by_cases h2 : mOff < hi
  · rw [keptS_off (by omega) (.inr (by rw [hlast, hhi]; exact h2))]
    have d2 : decide (hi ≤ 1099511627776) = false := by unfold mOff at h2; simp; omega
    have d3 : decide (1099511627776 < hi) = true := by unfold mOff at h2; simp; omega
    clear h1 h2
    clear hn hlast h0
    go_enter Try.func65, Try.ntmps65
    go_wp2_with (go_at_call 73; refine HSO.out.mono ?_; rintro e w1 ⟨g, rfl, hI, hB⟩; have hgl := hI.low (by rw [sortI_length]; exact HL.out); have c0 := hcells _ _ hI 0 (by omega); rw [hlo] at c0; have c1 := hcells _ _ hI m (by omega); rw [hhi] at c1; clear hI)
    go_ret3
    exact ⟨rfl, hB⟩
  have d2 : decide (hi ≤ 1099511627776) = true := by unfold mOff at h2; simp; omega
  have d3 : decide (1099511627776 < hi) = false := by unfold mOff at h2; simp; omega
  rw [keptS_fit (by omega) (by rw [hlast, hhi, hlo]; omega)]
  clear h1 h2
  by_cases h4 : 4 ≤ m + 1
  · obtain ⟨j, rfl⟩ : ∃ j, m = j + 1 := ⟨m - 1, by omega⟩
    have l1 : keptLo l = nth (sortI l) 1 := by unfold keptLo loAt; rw [if_pos (by omega)]
    have l2 : keptHi l = nth (sortI l) j := by unfold keptHi hiAt; rw [if_pos (by omega), ← hn]; rfl
    rw [l1, l2]
    clear l1 l2
    obtain ⟨p, hp⟩ : ∃ x, nth (sortI l) 1 = x := ⟨_, rfl⟩
    obtain ⟨q, hq⟩ : ∃ x, nth (sortI l) j = x := ⟨_, rfl⟩
    rw [hp, hq]
    clear hn hlast h0
    go_enter Try.func65, Try.ntmps65
    go_wp2_with (go_at_call 73; refine HSO.out.mono ?_; rintro e w1 ⟨g, rfl, hI, hB⟩; have hgl := hI.low (by rw [sortI_length]; exact HL.out); have c0 := hcells _ _ hI 0 (by omega); rw [hlo] at c0; have c1 := hcells _ _ hI (j + 1) (by omega); rw [hhi] at c1; have c2 := hcells _ _ hI 1 (by omega); rw [hp] at c2; have c3 := hcells _ _ hI j (by omega); rw [hq] at c3; clear hI)
    go_quiet (fail)
    go_wp2
    go_ret3
    exact ⟨rfl, below_drewN hB _⟩
  · have l1 := (kept_few l (by omega)).1
    have l2 := (kept_few l (by omega)).2
    rw [l1, l2, hlast, hlo, hhi]
    have d4 : decide (4 ≤ (m : Int) + 1) = false := by simp; omega
    clear l1 l2
    clear hn hlast h0
    go_enter Try.func65, Try.ntmps65
    go_wp2_with (go_at_call 73; refine HSO.out.mono ?_; rintro e w1 ⟨g, rfl, hI, hB⟩; have hgl := hI.low (by rw [sortI_length]; exact HL.out); have c0 := hcells _ _ hI 0 (by omega); rw [hlo] at c0; have c1 := hcells _ _ hI m (by omega); rw [hhi] at c1; clear hI)
    go_quiet (fail)
    go_wp2
    go_ret3
    exact ⟨rfl, below_drewN hB _⟩
end Go.Proofs.Ytlkmipcenlhacaa

namespace Go.Proofs.Ytlkmipcenlhacaa
open Go.RowKit

set_option maxRecDepth 4000 in
set_option maxHeartbeats 1000000 in
theorem mid_any (A : Option Addr) (n c : Nat) (l : List Int) (w : World) (hn : n = l.length) (hm : n ≤ 65536) (hA : Ints w.heap.size w A l) :
    Calls Try.prog 56 #[.slice A n c] w fun e w' => e = .returned (midV (midS l)) ∧ Below w.heap.size w w' := by
  have hk := kept_any A n c l w hn hm hA
  have hb := keptS_bound l
  unfold midV midS
  unfold keptV at hk
  generalize keptS l = r at *
  obtain ⟨a, b, e⟩ := r
  dsimp only at *
  unfold mOff at hb
  have HK := Lib.hid hk; clear hk hA hn
  have e1 : IntKind.i64.wrap (a + b) = a + b := IntWalk.i64_in _ (by omega)
  have e2 : IntKind.i64.wrap ((a + b) / 2) = (a + b) / 2 := IntWalk.i64_in _ (by omega)
  go_enter Try.func56, Try.ntmps56
  go_wp2_with (go_at_call 65; refine HK.out.mono ?_; rintro e w1 ⟨rfl, hB⟩)
  go_ret2
  exact ⟨rfl, hB⟩

theorem nth_is {l : List Int} {i : Nat} {a : Int} (hi : i < l.length) (h1 : i < cntL a l) (h2 : cntL (a - 1) l ≤ i) : nth (sortI l) i = a := by
  have e1 := (sort_nth l a i hi).2 h1
  have e2 := sort_nth l (a - 1) i hi
  have : ¬ nth (sortI l) i ≤ a - 1 := fun h => by have := e2.1 h; omega
  omega
theorem mid_four : midS [5, 1, 9, 2] = (3, 0) := by
  have a0 : nth (sortI [5, 1, 9, 2]) 0 = 1 := nth_is (by decide) (by decide) (by decide)
  have a1 : nth (sortI [5, 1, 9, 2]) 1 = 2 := nth_is (by decide) (by decide) (by decide)
  have a2 : nth (sortI [5, 1, 9, 2]) 2 = 5 := nth_is (by decide) (by decide) (by decide)
  have a3 : nth (sortI [5, 1, 9, 2]) 3 = 9 := nth_is (by decide) (by decide) (by decide)
  have h := keptS_fit (l := [5, 1, 9, 2]) (by decide) (by rw [a0]; show ¬ (_ ∨ mOff < nth _ 3); rw [a3]; decide)
  have l1 : keptLo [5, 1, 9, 2] = 2 := a1
  have l2 : keptHi [5, 1, 9, 2] = 5 := a2
  unfold midS
  rw [h, l1, l2]; rfl
theorem mid_two : midS [5, -4] = (0, 0) := by
  have a0 : nth (sortI [5, -4]) 0 = -4 := nth_is (by decide) (by decide) (by decide)
  have a1 : nth (sortI [5, -4]) 1 = 5 := nth_is (by decide) (by decide) (by decide)
  have h := keptS_fit (l := [5, -4]) (by decide) (by rw [a0]; show ¬ (_ ∨ mOff < nth _ 1); rw [a1]; decide)
  have l1 : keptLo [5, -4] = -4 := a0
  have l2 : keptHi [5, -4] = 5 := a1
  unfold midS
  rw [h, l1, l2]; rfl
theorem ints_new (w : World) (l : List Int) (T : TypeId) (cs : Array Value) (h : cs = (l.map (Value.int .i64)).toArray) : Ints (w.alloc (.cells cs T)).heap.size (w.alloc (.cells cs T)) (some ⟨w.heap.size, 0, none⟩) l := by
  subst h
  refine fun _ => ⟨w.heap.size, 0, rfl, by simp, fun j hj => ?_⟩
  rw [Nat.zero_add, (Blk.new w T _).cell]
  simp [hj]
end Go.Proofs.Ytlkmipcenlhacaa
