/-
  slices.Repeat of a list of one element, from 4 to 8 times. Condition: that.
-/
import Derived.Test.YtlkmipcenlhacaaMJ
import Derived.Laws.CopyOwn
import Derived.Deep.RegionLaw
namespace Go.Proofs.Ytlkmipcenlhacaa
open Go.RowKit

theorem oneSrc {w : World} {b : Nat} {v0 : Value} (hc : w.cell? ⟨b, 0, none⟩ = some v0) : ∀ (j : Nat) (v : Value), [v0][j]? = some v → w.cell? ((⟨b, 0, none⟩ : Addr).add j) = some v := by
  intro j v hj
  match j, hj with
  | 0, hj => simp at hj; subst hj; rw [addr_add]; exact hc
  | j + 1, hj => simp at hj
/-- copy over a row of the call's own that is filled with V up to k, q elements more. -/
theorem copy_rep {P : Program} {w : World} {T E ty : TypeId} (hu : P.underlying T = some (.slice E)) (hsz : (P.info? E).map (·.size) = some 1) {g m k q dLen dCap sLen sCap : Nat} {a : Addr} {V Z : Value} (hV : V.oneCell' = true)
    (hrow : Blk w g E (List.replicate k V ++ List.replicate (m - k) Z).toArray) (hq : q = min sLen dLen) (hk : k + q ≤ m) (hsrc : ∀ j, j < q → w.cell? (a.add j) = some V) :
    ∃ w', (Builtin.copy_ #[T, T] ty #[.slice (some ⟨g, k, none⟩) dLen dCap, .slice (some a) sLen sCap]).run P w = .ok (.int .i64 q) w' ∧ Blk w' g E (List.replicate (k + q) V ++ List.replicate (m - (k + q)) Z).toArray ∧ w.grownBy w' (some g) := by
  have h := run_copy_row (P := P) w T T ty E g k dLen dCap a sLen sCap _ E (List.replicate q V) hu hsz hrow (by rw [List.length_replicate]; exact hq)
    (fun j v hj => by
      have hjq : j < q := by
        rcases Nat.lt_or_ge j q with h | h
        · exact h
        · rw [List.getElem?_eq_none (by simpa using h)] at hj; cases hj
      rw [hsrc j hjq]
      simpa [hjq] using hj)
    (by simp; omega) (fun v hv => by rw [List.eq_of_mem_replicate hv]; exact hV)
  have e1 : (List.replicate k V ++ List.replicate (m - k) Z).take k = List.replicate k V := by
    rw [List.take_append_of_le_length (by simp)]; exact List.take_of_length_le (by simp)
  have e2 : (List.replicate k V ++ List.replicate (m - k) Z).drop (k + (List.replicate q V).length) = List.replicate (m - (k + q)) Z := by
    rw [List.length_replicate, List.drop_append, List.drop_eq_nil_of_le (by simp)]
    simp; omega
  have e3 : (List.replicate k V ++ List.replicate (m - k) Z).take k ++ List.replicate q V ++ (List.replicate k V ++ List.replicate (m - k) Z).drop (k + (List.replicate q V).length) = List.replicate (k + q) V ++ List.replicate (m - (k + q)) Z := by
    rw [e1, e2, List.replicate_append_replicate]
  rw [show (List.replicate k V ++ List.replicate (m - k) Z).toArray.toList = List.replicate k V ++ List.replicate (m - k) Z from rfl, e3, List.length_replicate] at h
  exact ⟨_, h, setRow_heap w g _ _ _ _ hrow, only_setRow w g _⟩
theorem own_cell {w : World} {g : Nat} {E : TypeId} {V Z : Value} {k m : Nat} (h : Blk w g E (List.replicate k V ++ List.replicate (m - k) Z).toArray) : ∀ j, j < k → w.cell? ((⟨g, 0, none⟩ : Addr).add j) = some V := by
  intro j hj
  rw [addr_add, Nat.zero_add, h.cell]
  simp [List.getElem?_append, hj]

theorem Try.infoRB : (Try.prog.info? 4).map (fun i => (i.zero, i.size, i.bytes)) = some (some (Value.bool false), 1, 1) := by kernel_rfl
theorem madeB (m : Nat) : madeCells (Value.bool false : Value).cells m = (List.replicate m (Value.bool false : Value)).toArray := by
  apply Array.toList_inj.1
  rw [show (Value.bool false : Value).cells = #[Value.bool false] from rfl, toList_madeCells_one]
theorem run_make_B (m : Nat) (hm : m ≤ 65536) (w : World) :
    (Instr.makeSlice 22 (.int .i64 (m : Int)) (.int .i64 (m : Int))).run Try.prog w = .ok (.slice (some ⟨w.heap.size, 0, none⟩) m m) (w.alloc (.cells (List.replicate m (Value.bool false : Value)).toArray 4)) := by
  obtain ⟨i0, hi, hz0, hz1, hz2⟩ := info_parts Try.infoRB
  have := run_make_rowN (P := Try.prog) 22 4 i0 _ Try.underlying22 hi hz0 .i64 .i64 m m (Nat.le_refl _) (by rw [hz2]; omega) (by omega) w
  rw [hz1, Nat.mul_one, madeB] at this
  exact this
theorem oneB : (Try.prog.info? 4).map (·.size) = some 1 := by kernel_rfl
theorem Try.infoRI : (Try.prog.info? 3).map (fun i => (i.zero, i.size, i.bytes)) = some (some (Value.int .i64 0), 1, 8) := by kernel_rfl
theorem madeI (m : Nat) : madeCells (Value.int .i64 0 : Value).cells m = (List.replicate m (Value.int .i64 0 : Value)).toArray := by
  apply Array.toList_inj.1
  rw [show (Value.int .i64 0 : Value).cells = #[Value.int .i64 0] from rfl, toList_madeCells_one]
theorem run_make_I (m : Nat) (hm : m ≤ 65536) (w : World) :
    (Instr.makeSlice 69 (.int .i64 (m : Int)) (.int .i64 (m : Int))).run Try.prog w = .ok (.slice (some ⟨w.heap.size, 0, none⟩) m m) (w.alloc (.cells (List.replicate m (Value.int .i64 0 : Value)).toArray 3)) := by
  obtain ⟨i0, hi, hz0, hz1, hz2⟩ := info_parts Try.infoRI
  have := run_make_rowN (P := Try.prog) 69 3 i0 _ Try.underlying69 hi hz0 .i64 .i64 m m (Nat.le_refl _) (by rw [hz2]; omega) (by omega) w
  rw [hz1, Nat.mul_one, madeI] at this
  exact this
theorem oneI : (Try.prog.info? 3).map (·.size) = some 1 := by kernel_rfl
end Go.Proofs.Ytlkmipcenlhacaa
