/-
  Messages that a call makes, and bytes that it copies into what it made. Conditions: those that each theorem names. (Stage 12; laid ahead.)
-/
import Derived.Test.YtnlmpemfpkmodaaIL
namespace Go.Proofs.Ytnlmpemfpkmodaa
open Go.RowKit

/-- A message without data, as it is made. -/
def zeroMs : Ms × Sl3 := (⟨[], 0⟩, ⟨none, 0, 0⟩)
theorem made_msgs (n : Nat) : (madeCells (Value.agg #[.slice none 0 0, .int .i64 0]).cells (n * 2)).toList = cellsM (List.replicate n zeroMs) := by
  refine List.ext_getElem? fun i => ?_
  have hc : (Value.agg #[.slice none 0 0, .int .i64 0]).cells = #[Value.slice none 0 0, .int .i64 0] := rfl
  rw [hc]
  have hlen : (cellsM (List.replicate n zeroMs)).length = n * 2 := by rw [cellsM_length, List.length_replicate]
  rcases Nat.lt_or_ge i (n * 2) with hi | hi
  · have hj : i / 2 < n := by omega
    obtain ⟨h0, h1⟩ := cellsM_get (List.replicate n zeroMs) (i / 2) zeroMs (by simp [hj])
    have hm : (madeCells #[Value.slice none 0 0, .int .i64 0] (n * 2)).toList[i]? = some (#[Value.slice none 0 0, Value.int .i64 0][i % 2]!) := by
      simp [madeCells, hi]
    rw [hm]
    obtain e | e : i % 2 = 0 ∨ i % 2 = 1 := by omega
    · rw [show i / 2 * 2 = i by omega] at h0
      rw [e, h0]; rfl
    · rw [show i / 2 * 2 + 1 = i by omega] at h1
      rw [e, h1]; rfl
  · rw [List.getElem?_eq_none (by simp [madeCells]; omega), List.getElem?_eq_none (by omega)]
/-- make([]api.Message, n). -/
theorem run_make_msgs (n : Nat) (hn : n ≤ 65536) (w : World) :
    (Instr.makeSlice 23 (.int .i64 (n : Int)) (.int .i64 (n : Int))).run Try.prog w = .ok (.slice (some ⟨w.heap.size, 0, none⟩) n n) (w.alloc (.cells (cellsM (List.replicate n zeroMs)).toArray 51)) := by
  obtain ⟨i0, hi, hz0, hz1, hz2⟩ := info_parts Try.infoMs
  have := run_make_rowN (P := Try.prog) 23 51 i0 _ Try.underlying23 hi hz0 .i64 .i64 n n (Nat.le_refl _) (by rw [hz2]; omega) (by omega) w
  rw [hz1, show madeCells (Value.agg #[.slice none 0 0, .int .i64 0]).cells (n * 2) = (cellsM (List.replicate n zeroMs)).toArray by rw [← made_msgs]] at this
  exact this
theorem own_of_blk {w : World} {g base n sz : Nat} {t : TypeId} {xs : List Value} (h : Blk w g t xs.toArray) (hb : base ≤ g) (hn : xs.length = n * sz) (hm : n ≤ maxLen) : w.ownsRow base t sz (.slice (some ⟨g, 0, none⟩) n n) n xs :=
  ⟨hn, .inr ⟨g, n, xs.toArray, rfl, hb, h, Nat.le_refl _, hm, by simpa using hn, by rw [← hn]; simp⟩⟩
theorem own_made_msgs {w : World} {g base n : Nat} (h : Blk w g 51 (cellsM (List.replicate n zeroMs)).toArray) (hb : base ≤ g) (hn : n ≤ 65536) : w.ownsRow base 51 2 (.slice (some ⟨g, 0, none⟩) n n) n (cellsM (List.replicate n zeroMs)) :=
  own_of_blk h hb (by rw [cellsM_length, List.length_replicate]) (by unfold maxLen; omega)
theorem own_bytes_blk {w : World} {g base : Nat} {bs : List UInt8} (h : Blk w g 5 (encB bs)) (hb : base ≤ g) (hn : bs.length ≤ 65536) : w.ownsRow base 5 1 (.slice (some ⟨g, 0, none⟩) bs.length bs.length) bs.length (cellsU bs) :=
  own_of_blk (n := bs.length) h hb (by simp) (by unfold maxLen; omega)
theorem byt_takeR {n₀ : Nat} {W : World} {A : Option Addr} {bs : List UInt8} (h : Byt n₀ W A bs) (k : Nat) : Byt n₀ W A (bs.take k) := fun hne => by
  obtain ⟨b, off, e, hb, hc⟩ := h (by rintro rfl; simp at hne)
  refine ⟨b, off, e, hb, fun j hj => ?_⟩
  have hj2 : j < k ∧ j < bs.length := by rw [List.length_take] at hj; omega
  rw [hc j hj2.2]
  simp [hj2.1]
/-- copy of bytes that can be read into a row of the call's own, as many as both have. -/
theorem run_copy_cut {P : Program} (w : World) (dT sT ty elem : TypeId) (hu : P.underlying dT = some (.slice elem)) (hsz : (P.info? elem).map (·.size) = some 1)
    (g m m' k : Nat) (A : Option Addr) (n c : Nat) (cur bs : List UInt8) (hg : Blk w g 5 (encB cur)) (B : Nat) (hA : Byt B w A bs) (hn : n = bs.length) (hm : m = cur.length) (hk : k = min n m) :
    ∃ w', (Builtin.copy_ #[dT, sT] ty #[.slice (some ⟨g, 0, none⟩) m m', .slice A n c]).run P w = .ok (goInt k) w' ∧ Blk w' g 5 (encB (bs.take k ++ cur.drop k)) ∧ w.grownBy w' (some g) := by
  by_cases h0 : k = 0
  · subst h0
    exact ⟨w, run_copy_none (P := P) w dT sT ty elem _ A _ _ _ _ hu hsz (by show min n m = 0; omega), by simpa using hg, World.grownBy.refl w _⟩
  · have hA2 := byt_takeR hA k
    have hlen : (cellsU (bs.take k)).length = k := by simp; omega
    have hkl : (bs.take k).length = k := by rw [List.length_take]; omega
    obtain ⟨b, off, rfl, _, _⟩ := hA2 (fun e => h0 (by rw [← hkl, e]; rfl))
    have := run_copy_row (P := P) w dT sT ty elem g 0 m m' ⟨b, off, none⟩ n c (encB cur) 5 (cellsU (bs.take k)) hu hsz hg (by rw [hlen]; exact hk) (fun j u hj => byt_cellsI hA2 j u hj) (by show 0 + (cellsU (bs.take k)).length ≤ (encB cur).size; rw [hlen]; simp only [encB, List.size_toArray, List.length_map]; omega) (fun u hu => by obtain ⟨y, -, rfl⟩ := List.mem_map.1 hu; rfl)
    rw [hlen] at this
    refine ⟨_, this, ?_, only_setRow w g _⟩
    have h2 := setRow_heap w g (encB cur) ((encB cur).toList.take 0 ++ cellsU (bs.take k) ++ (encB cur).toList.drop (0 + k)).toArray 5 (0, 0) hg
    unfold Blk
    rw [h2]
    simp [encB]
theorem sentB_lively {c : Cn} (h : 0 < c.life) (N : Nat) : sentB c N = c.out.take (min c.out.length N) ++ (List.replicate N 0).drop (min c.out.length N) := by
  refine List.ext_getElem (by simp [sentB]; omega) fun i h1 h2 => ?_
  have hi : i < N := by simpa [sentB] using h1
  by_cases ho : i < c.out.length
  · rw [List.getElem_append_left (by simp; omega)]
    simp [sentB, h, ho]
  · rw [List.getElem_append_right (by simp; omega)]
    simp [sentB, h, ho]
theorem msrd_zeros (base n : Nat) (w : World) : MsRd base (List.replicate n zeroMs) w := fun y hy => by rw [List.eq_of_mem_replicate hy]; exact World.ownsRow_nil _ _ _ _
end Go.Proofs.Ytnlmpemfpkmodaa
