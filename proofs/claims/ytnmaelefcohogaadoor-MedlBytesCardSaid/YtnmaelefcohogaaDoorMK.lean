/-
  slices.Repeat of a list of one element, from 4 to 8 times. Condition: that.
-/
import Derived.Test.YtnmaelefcohogaaDoorMJ
import Derived.Laws.CopyOwn
import Derived.Deep.RegionLaw
namespace Go.Proofs.YtnmaelefcohogaaDoor
open Go.RowKit

set_option maxRecDepth 8000 in
set_option maxHeartbeats 1000000 in
theorem mul64_any (m : Nat) (w : World) (h0 : 4 ≤ m) (h1 : m ≤ 8) : Calls Tryd.prog 77 #[.int .u64 1, .int .u64 (m : Int)] w fun e w' => e = .returned (.tuple #[.int .u64 0, .int .u64 (m : Int)]) ∧ w = w' := by
  have h : m = 4 ∨ m = 5 ∨ m = 6 ∨ m = 7 ∨ m = 8 := by omega
  rcases h with rfl | rfl | rfl | rfl | rfl <;>
  · go_enter Tryd.func77, Tryd.ntmps77
    go_wp2
    go_ret2
    exact ⟨by rfl, rfl⟩
set_option maxRecDepth 8000 in
set_option maxHeartbeats 1000000 in
theorem mul_any (m : Nat) (w : World) (h0 : 4 ≤ m) (h1 : m ≤ 8) : Calls Tryd.prog 64 #[.int .u64 1, .int .u64 (m : Int)] w fun e w' => e = .returned (.tuple #[.int .u64 0, .int .u64 (m : Int)]) ∧ w = w' := by
  go_enter Tryd.func64, Tryd.ntmps64
  go_wp2_with (first | (go_at_call 77; refine (mul64_any m _ h0 h1).mono ?_; rintro e w1 ⟨rfl, rfl⟩))
  go_ret2
  exact ⟨rfl, rfl⟩
theorem oneSrc {w : World} {b : Nat} {v0 : Value} (hc : w.cell? ⟨b, 0, none⟩ = some v0) : ∀ (j : Nat) (v : Value), [v0][j]? = some v → w.cell? ((⟨b, 0, none⟩ : Addr).add j) = some v := by
  intro j v hj
  match j, hj with
  | 0, hj => simp at hj; subst hj; rw [addr_add]; exact hc
  | j + 1, hj => simp at hj
/-- copy over a row of the call's own that is filled with V up to k, q elements more. -/
theorem copy_rep {P : Program} {w : World} {T E ty : TypeId} (hu : P.underlying T = some (.slice E)) (hsz : (P.info? E).map (·.size) = some 1) {g m k q dLen dCap sLen sCap : Nat} {a : Addr} {V Z : Value} (hV : V.oneCell' = true)
    (hrow : Blk w g E (List.replicate k V ++ List.replicate (m - k) Z).toArray) (hq : q = min sLen dLen) (hk : k + q ≤ m) (hsrc : ∀ j, j < q → w.cell? (a.add j) = some V) :
    ∃ w', (Builtin.copy_ #[T, T] ty #[.slice (some ⟨g, k, none⟩) dLen dCap, .slice (some a) sLen sCap]).run P w = .ok (.int .i64 q) w' ∧ Blk w' g E (List.replicate (k + q) V ++ List.replicate (m - (k + q)) Z).toArray ∧ w.grownBy w' (some g) := by
  have h := run_copy_row (P := P) w T T ty E g k dLen dCap a sLen sCap _ E (List.replicate q V) hu hsz hrow (by rw [List.length_replicate]; exact hq)
    (fun j v hj => by
      have hjq : j < q := by
        rcases Nat.lt_or_ge j q with h | h
        · exact h
        · rw [List.getElem?_eq_none (by simpa using h)] at hj; cases hj
      rw [hsrc j hjq]
      simpa [hjq] using hj)
    (by simp; omega) (fun v hv => by rw [List.eq_of_mem_replicate hv]; exact hV)
  have e1 : (List.replicate k V ++ List.replicate (m - k) Z).take k = List.replicate k V := by
    rw [List.take_append_of_le_length (by simp)]; exact List.take_of_length_le (by simp)
  have e2 : (List.replicate k V ++ List.replicate (m - k) Z).drop (k + (List.replicate q V).length) = List.replicate (m - (k + q)) Z := by
    rw [List.length_replicate, List.drop_append, List.drop_eq_nil_of_le (by simp)]
    simp; omega
  have e3 : (List.replicate k V ++ List.replicate (m - k) Z).take k ++ List.replicate q V ++ (List.replicate k V ++ List.replicate (m - k) Z).drop (k + (List.replicate q V).length) = List.replicate (k + q) V ++ List.replicate (m - (k + q)) Z := by
    rw [e1, e2, List.replicate_append_replicate]
  rw [show (List.replicate k V ++ List.replicate (m - k) Z).toArray.toList = List.replicate k V ++ List.replicate (m - k) Z from rfl, e3, List.length_replicate] at h
  exact ⟨_, h, setRow_heap w g _ _ _ _ hrow, only_setRow w g _⟩
theorem own_cell {w : World} {g : Nat} {E : TypeId} {V Z : Value} {k m : Nat} (h : Blk w g E (List.replicate k V ++ List.replicate (m - k) Z).toArray) : ∀ j, j < k → w.cell? ((⟨g, 0, none⟩ : Addr).add j) = some V := by
  intro j hj
  rw [addr_add, Nat.zero_add, h.cell]
  simp [List.getElem?_append, hj]

theorem Tryd.infoRB : (Tryd.prog.info? 4).map (fun i => (i.zero, i.size, i.bytes)) = some (some (Value.bool false), 1, 1) := by kernel_rfl
theorem madeB (m : Nat) : madeCells (Value.bool false : Value).cells m = (List.replicate m (Value.bool false : Value)).toArray := by
  apply Array.toList_inj.1
  rw [show (Value.bool false : Value).cells = #[Value.bool false] from rfl, toList_madeCells_one]
theorem run_make_B (m : Nat) (hm : m ≤ 65536) (w : World) :
    (Instr.makeSlice 22 (.int .i64 (m : Int)) (.int .i64 (m : Int))).run Tryd.prog w = .ok (.slice (some ⟨w.heap.size, 0, none⟩) m m) (w.alloc (.cells (List.replicate m (Value.bool false : Value)).toArray 4)) := by
  obtain ⟨i0, hi, hz0, hz1, hz2⟩ := info_parts Tryd.infoRB
  have := run_make_rowN (P := Tryd.prog) 22 4 i0 _ Tryd.underlying22 hi hz0 .i64 .i64 m m (Nat.le_refl _) (by rw [hz2]; omega) (by omega) w
  rw [hz1, Nat.mul_one, madeB] at this
  exact this
theorem oneB : (Tryd.prog.info? 4).map (·.size) = some 1 := by kernel_rfl
set_option maxRecDepth 8000 in
set_option maxHeartbeats 4000000 in
theorem repeatB_any (b m : Nat) (w : World) (h0 : 4 ≤ m) (h1 : m ≤ 8) (hb : b < w.heap.size) (hc : w.cell? ⟨b, 0, none⟩ = some (Value.bool true)) :
    Calls Tryd.prog 46 #[.slice (some ⟨b, 0, none⟩) 1 1, .int .i64 (m : Int)] w fun e w' =>
      ∃ g, e = .returned (.slice (some ⟨g, 0, none⟩) m m) ∧ w.heap.size ≤ g ∧ Blk w' g 4 (List.replicate m (Value.bool true : Value)).toArray ∧ Below w.heap.size w w' := by
  have hmk := run_make_B m (by omega)
  have hmu := fun W => mul_any m W h0 h1
  have HMU := Lib.hid hmu; clear hmu
  have eR : (List.replicate m (Value.bool false : Value)).toArray = Array.replicate m (Value.bool false) := by simp
  have kn := Blk.new w 4 (List.replicate m (Value.bool false : Value)).toArray
  have bc := Below.al w (.cells (List.replicate m (Value.bool false : Value)).toArray 4)
  have hc2 := (bc.cell (p := ⟨b, 0, none⟩) hb).trans hc
  rw [eR] at hmk bc hc2
  have kn2 : Blk (w.alloc (.cells (Array.replicate m (Value.bool false)) 4)) w.heap.size 4 (List.replicate m (Value.bool false : Value)).toArray := by rw [← eR]; exact kn
  have hr0 : Blk (w.alloc (.cells (Array.replicate m (Value.bool false)) 4)) w.heap.size 4 (List.replicate 0 (Value.bool true : Value) ++ List.replicate (m - 0) (Value.bool false)).toArray := by simpa using kn2
  obtain ⟨u, hcp, ku, gu⟩ := copy_rep (P := Tryd.prog) (ty := 3) (a := ⟨b, 0, none⟩) (q := 1) (dLen := m) (dCap := m) (sLen := 1) (sCap := 1) Tryd.underlying22 oneB (by simp [Value.oneCell']) hr0 (by omega) (by omega) (fun j hj => (by
    obtain rfl : j = 0 := by omega
    rw [addr_add]; exact hc2))
  have bu : Below w.heap.size w u := bc.grown gu bc.size (by intro k hk; injection hk with hk; omega)
  have KU := Lib.hid ku; have BU := Lib.hid bu
  clear kn kn2 eR hc2 bc ku bu gu hr0
  go_enter Tryd.func46, Tryd.ntmps46
  go_wp2_with (first
    | (go_at_call 64; refine (HMU.out _).mono ?_; rintro e w1 ⟨rfl, rfl⟩))
  go_loopw [8] (fun v wr => ∃ k : Nat, 1 ≤ k ∧ k ≤ m ∧ v = .int .i64 k ∧ Blk wr w.heap.size 4 (List.replicate k (Value.bool true : Value) ++ List.replicate (m - k) (Value.bool false)).toArray ∧ Below w.heap.size w wr) (fun v _ => m - (intOf v).toNat)
  case atStart => exact ⟨1, by omega, by omega, rfl, KU.out, BU.out⟩
  case round =>
    obtain ⟨k, k1, k2, rfl, hrow, hB⟩ := hrel
    by_cases hlt : k < m
    · obtain ⟨q, hq⟩ : ∃ q, q = min k (m - k) := ⟨_, rfl⟩
      have hrd : Blk wr.drew w.heap.size 4 (List.replicate k (Value.bool true : Value) ++ List.replicate (m - k) (Value.bool false)).toArray := hrow
      obtain ⟨u2, hcp2, ku2, gu2⟩ := copy_rep (P := Tryd.prog) (ty := 3) (a := ⟨w.heap.size, 0, none⟩) (q := q) (dLen := m - k) (dCap := m - k) (sLen := k) (sCap := m) Tryd.underlying22 oneB (by simp [Value.oneCell']) hrd (by omega) (by omega) (fun j hj => own_cell hrd j (by omega))
      have bu2 : Below w.heap.size w u2 := (hB.trans (Below.refl _ wr).drew).grown gu2 hB.size (by intro k hk; injection hk with hk; omega)
      have KU2 := Lib.hid ku2; have BU2 := Lib.hid bu2; have HQ := Lib.hid hq
      have hw1 : IntKind.i64.wrap ((k : Int) + (q : Int)) = (k : Int) + (q : Int) := IntWalk.i64_in _ (by omega)
      clear ku2 bu2 gu2 hrow hrd hcp hq
      go_wp2_with fail
      go_region_held3 (fun _ => True) (first | trivial) (first | fail)
      go_wp2_with fail
      go_roundw
      case rel => exact ⟨k + q, by omega, by have := HQ.out; omega, by go_num, KU2.out, BU2.out⟩
      case measure => have := HQ.out; simp [intOf]; omega
    · obtain rfl : k = m := by omega
      have hr2 : Blk wr w.heap.size 4 (List.replicate k (Value.bool true : Value)).toArray := by simpa using hrow
      have HR2 := Lib.hid hr2; clear hrow hr2
      go_wp2_with fail
      go_ret
      exact ⟨w.heap.size, rfl, Nat.le_refl _, HR2.out, hB⟩

theorem Tryd.infoRI : (Tryd.prog.info? 3).map (fun i => (i.zero, i.size, i.bytes)) = some (some (Value.int .i64 0), 1, 8) := by kernel_rfl
theorem madeI (m : Nat) : madeCells (Value.int .i64 0 : Value).cells m = (List.replicate m (Value.int .i64 0 : Value)).toArray := by
  apply Array.toList_inj.1
  rw [show (Value.int .i64 0 : Value).cells = #[Value.int .i64 0] from rfl, toList_madeCells_one]
theorem run_make_I (m : Nat) (hm : m ≤ 65536) (w : World) :
    (Instr.makeSlice 44 (.int .i64 (m : Int)) (.int .i64 (m : Int))).run Tryd.prog w = .ok (.slice (some ⟨w.heap.size, 0, none⟩) m m) (w.alloc (.cells (List.replicate m (Value.int .i64 0 : Value)).toArray 3)) := by
  obtain ⟨i0, hi, hz0, hz1, hz2⟩ := info_parts Tryd.infoRI
  have := run_make_rowN (P := Tryd.prog) 44 3 i0 _ Tryd.underlying44 hi hz0 .i64 .i64 m m (Nat.le_refl _) (by rw [hz2]; omega) (by omega) w
  rw [hz1, Nat.mul_one, madeI] at this
  exact this
theorem oneI : (Tryd.prog.info? 3).map (·.size) = some 1 := by kernel_rfl
set_option maxRecDepth 8000 in
set_option maxHeartbeats 4000000 in
theorem repeatI_any (b m : Nat) (w : World) (h0 : 4 ≤ m) (h1 : m ≤ 8) (hb : b < w.heap.size) (hc : w.cell? ⟨b, 0, none⟩ = some (Value.int .i64 2)) :
    Calls Tryd.prog 47 #[.slice (some ⟨b, 0, none⟩) 1 1, .int .i64 (m : Int)] w fun e w' =>
      ∃ g, e = .returned (.slice (some ⟨g, 0, none⟩) m m) ∧ w.heap.size ≤ g ∧ Blk w' g 3 (List.replicate m (Value.int .i64 2 : Value)).toArray ∧ Below w.heap.size w w' := by
  have hmk := run_make_I m (by omega)
  have hmu := fun W => mul_any m W h0 h1
  have HMU := Lib.hid hmu; clear hmu
  have eR : (List.replicate m (Value.int .i64 0 : Value)).toArray = Array.replicate m (Value.int .i64 0) := by simp
  have kn := Blk.new w 3 (List.replicate m (Value.int .i64 0 : Value)).toArray
  have bc := Below.al w (.cells (List.replicate m (Value.int .i64 0 : Value)).toArray 3)
  have hc2 := (bc.cell (p := ⟨b, 0, none⟩) hb).trans hc
  rw [eR] at hmk bc hc2
  have kn2 : Blk (w.alloc (.cells (Array.replicate m (Value.int .i64 0)) 3)) w.heap.size 3 (List.replicate m (Value.int .i64 0 : Value)).toArray := by rw [← eR]; exact kn
  have hr0 : Blk (w.alloc (.cells (Array.replicate m (Value.int .i64 0)) 3)) w.heap.size 3 (List.replicate 0 (Value.int .i64 2 : Value) ++ List.replicate (m - 0) (Value.int .i64 0)).toArray := by simpa using kn2
  obtain ⟨u, hcp, ku, gu⟩ := copy_rep (P := Tryd.prog) (ty := 3) (a := ⟨b, 0, none⟩) (q := 1) (dLen := m) (dCap := m) (sLen := 1) (sCap := 1) Tryd.underlying44 oneI (by simp [Value.oneCell']) hr0 (by omega) (by omega) (fun j hj => (by
    obtain rfl : j = 0 := by omega
    rw [addr_add]; exact hc2))
  have bu : Below w.heap.size w u := bc.grown gu bc.size (by intro k hk; injection hk with hk; omega)
  have KU := Lib.hid ku; have BU := Lib.hid bu
  clear kn kn2 eR hc2 bc ku bu gu hr0
  go_enter Tryd.func47, Tryd.ntmps47
  go_wp2_with (first
    | (go_at_call 64; refine (HMU.out _).mono ?_; rintro e w1 ⟨rfl, rfl⟩))
  go_loopw [8] (fun v wr => ∃ k : Nat, 1 ≤ k ∧ k ≤ m ∧ v = .int .i64 k ∧ Blk wr w.heap.size 3 (List.replicate k (Value.int .i64 2 : Value) ++ List.replicate (m - k) (Value.int .i64 0)).toArray ∧ Below w.heap.size w wr) (fun v _ => m - (intOf v).toNat)
  case atStart => exact ⟨1, by omega, by omega, rfl, KU.out, BU.out⟩
  case round =>
    obtain ⟨k, k1, k2, rfl, hrow, hB⟩ := hrel
    by_cases hlt : k < m
    · obtain ⟨q, hq⟩ : ∃ q, q = min k (m - k) := ⟨_, rfl⟩
      have hrd : Blk wr.drew w.heap.size 3 (List.replicate k (Value.int .i64 2 : Value) ++ List.replicate (m - k) (Value.int .i64 0)).toArray := hrow
      obtain ⟨u2, hcp2, ku2, gu2⟩ := copy_rep (P := Tryd.prog) (ty := 3) (a := ⟨w.heap.size, 0, none⟩) (q := q) (dLen := m - k) (dCap := m - k) (sLen := k) (sCap := m) Tryd.underlying44 oneI (by simp [Value.oneCell']) hrd (by omega) (by omega) (fun j hj => own_cell hrd j (by omega))
      have bu2 : Below w.heap.size w u2 := (hB.trans (Below.refl _ wr).drew).grown gu2 hB.size (by intro k hk; injection hk with hk; omega)
      have KU2 := Lib.hid ku2; have BU2 := Lib.hid bu2; have HQ := Lib.hid hq
      have hw1 : IntKind.i64.wrap ((k : Int) + (q : Int)) = (k : Int) + (q : Int) := IntWalk.i64_in _ (by omega)
      clear ku2 bu2 gu2 hrow hrd hcp hq
      go_wp2_with fail
      go_region_held3 (fun _ => True) (first | trivial) (first | fail)
      go_wp2_with fail
      go_roundw
      case rel => exact ⟨k + q, by omega, by have := HQ.out; omega, by go_num, KU2.out, BU2.out⟩
      case measure => have := HQ.out; simp [intOf]; omega
    · obtain rfl : k = m := by omega
      have hr2 : Blk wr w.heap.size 3 (List.replicate k (Value.int .i64 2 : Value)).toArray := by simpa using hrow
      have HR2 := Lib.hid hr2; clear hrow hr2
      go_wp2_with fail
      go_ret
      exact ⟨w.heap.size, rfl, Nat.le_refl _, HR2.out, hB⟩
end Go.Proofs.YtnmaelefcohogaaDoor
