/-
  Rows of clocks that a call makes and stores to; how far clocks are apart at first, and by how much they drift. Conditions: those that each theorem names. (Stage 13; laid ahead.)
-/
import Derived.Test.YtlkmipcenlhacaaLP
import Derived.Test.YtlkmipcenlhacaaLX
import Derived.Test.YtlkmipcenlhacaaLC
namespace Go.Proofs.Ytlkmipcenlhacaa
open Go.RowKit

/-- The cells of clocks, with where their numbers lie. -/
def cellsK (l : List (Ck × Slc)) : List Value := l.flatMap fun y => [.int .i64 y.1.st, .int .i64 y.1.sl, .slice y.2.A y.2.n y.2.c]
theorem cellsK_length (l : List (Ck × Slc)) : (cellsK l).length = l.length * 3 := by
  induction l with
  | nil => rfl
  | cons y l ih =>
    have : cellsK (y :: l) = [.int .i64 y.1.st, .int .i64 y.1.sl, .slice y.2.A y.2.n y.2.c] ++ cellsK l := rfl
    rw [this, List.length_append, ih, List.length_cons]; simp; omega
theorem cellsK_get (l : List (Ck × Slc)) (j : Nat) (y : Ck × Slc) (h : l[j]? = some y) : (cellsK l)[j * 3]? = some (.int .i64 y.1.st) ∧ (cellsK l)[j * 3 + 1]? = some (.int .i64 y.1.sl) ∧ (cellsK l)[j * 3 + 2]? = some (.slice y.2.A y.2.n y.2.c) := by
  induction l generalizing j with
  | nil => simp at h
  | cons z l ih =>
    have e : cellsK (z :: l) = [.int .i64 z.1.st, .int .i64 z.1.sl, .slice z.2.A z.2.n z.2.c] ++ cellsK l := rfl
    cases j with
    | zero =>
      obtain rfl : z = y := by simpa using h
      rw [e]; exact ⟨rfl, rfl, rfl⟩
    | succ j =>
      have := ih j (by simpa using h)
      rw [e, show (j + 1) * 3 = j * 3 + 3 by omega]
      exact this
theorem cellsK_set (l : List (Ck × Slc)) (j : Nat) (y : Ck × Slc) (h : j < l.length) : cellsK (l.set j y) = (((cellsK l).set (j * 3) (.int .i64 y.1.st)).set (j * 3 + 1) (.int .i64 y.1.sl)).set (j * 3 + 2) (.slice y.2.A y.2.n y.2.c) := by
  induction l generalizing j with
  | nil => simp at h
  | cons z l ih =>
    cases j with
    | zero => rfl
    | succ j =>
      have ih := ih j (by simpa using h)
      have e1 : cellsK ((z :: l).set (j + 1) y) = .int .i64 z.1.st :: .int .i64 z.1.sl :: .slice z.2.A z.2.n z.2.c :: cellsK (l.set j y) := rfl
      have e2 : cellsK (z :: l) = .int .i64 z.1.st :: .int .i64 z.1.sl :: .slice z.2.A z.2.n z.2.c :: cellsK l := rfl
      rw [e1, ih, e2, show (j + 1) * 3 = j * 3 + 3 by omega]
      rfl
theorem Try.infoCk : (Try.prog.info? 28).map (fun i => (i.zero, i.size, i.bytes)) = some (some (.agg #[.int .i64 0, .int .i64 0, .slice none 0 0]), 3, 40) := by kernel_rfl
/-- Clocks of which the numbers lie in blocks from a base on. -/
def CksRd (base : Nat) (l : List (Ck × Slc)) (W : World) : Prop := ∀ y ∈ l, CkFr base W y.1 y.2
theorem CksRd.on {base : Nat} {l : List (Ck × Slc)} {W W' : World} (h : CksRd base l W) (hb : Below W.heap.size W W') : CksRd base l W' := fun y hy => (h y hy).on hb
theorem CksRd.put {base g : Nat} {l : List (Ck × Slc)} {W W' : World} (h : CksRd base l W) (hG : W.grownBy W' (some g)) (hg : g < base) : CksRd base l W' := fun y hy => (h y hy).put hG hg
theorem CksRd.set {base : Nat} {l : List (Ck × Slc)} {j : Nat} {y : Ck × Slc} {W : World} (h : CksRd base l W) (k : CkFr base W y.1 y.2) : CksRd base (l.set j y) W := fun z hz => by
  rcases List.mem_or_eq_of_mem_set hz with h1 | h1
  · exact h z h1
  · subst h1; exact k
/-- A cell of a row that a call owns is stored to. -/
theorem own_setK {W : World} {b g n cap size : Nat} {e : TypeId} {xs : List Value} (h : W.ownsRow b e size (.slice (some ⟨g, 0, none⟩) n cap) n xs) (i : Nat) (u : Value) :
    (W.setCell ⟨g, i, none⟩ u).ownsRow b e size (.slice (some ⟨g, 0, none⟩) n cap) n (xs.set i u) := by
  refine ⟨by rw [List.length_set]; exact h.1, ?_⟩
  rcases h.2 with ⟨h1, _⟩ | ⟨g', cap', cur, h1, hb, hh, hc, hm, hsz, htk⟩
  · cases h1
  · injection h1 with h1 _ h3
    injection h1 with h1
    injection h1 with h1
    subst h1; subst h3
    have hblk : Blk W g e cur := hh
    refine .inr ⟨g, cap, _, rfl, hb, hblk.set_ i u, hc, hm, by simpa using hsz, ?_⟩
    rw [← htk]
    simp [List.take_set]
theorem own_frozenK {W : World} {b g n cap size : Nat} {e : TypeId} {xs : List Value} (h : W.ownsRow b e size (.slice (some ⟨g, 0, none⟩) n cap) n xs) (i : Nat) : W.frozen? ⟨g, i, none⟩ = false ∧ b ≤ g ∧ g < W.heap.size := by
  rcases h.2 with ⟨hv, _⟩ | ⟨g', cap', cur, hv, hb, hh, _⟩
  · cases hv
  · injection hv with hv _ _
    injection hv with hv
    injection hv with hv
    subst hv
    have hblk : Blk W g e cur := hh
    exact ⟨hblk.frozen _, hb, hblk.lt⟩
theorem own_cellK {W : World} {b g n cap : Nat} {l : List (Ck × Slc)} (h : W.ownsRow b 28 3 (.slice (some ⟨g, 0, none⟩) n cap) n (cellsK l)) {j : Nat} {y : Ck × Slc} (hy : l[j]? = some y) :
    W.cell? ⟨g, j * 3, none⟩ = some (.int .i64 y.1.st) ∧ W.cell? ⟨g, j * 3 + 1, none⟩ = some (.int .i64 y.1.sl) ∧ W.cell? ⟨g, j * 3 + 2, none⟩ = some (.slice y.2.A y.2.n y.2.c) := by
  obtain ⟨h0, h1, h2⟩ := cellsK_get l j y hy
  have c0 := h.cells (g := g) rfl _ _ h0
  have c1 := h.cells (g := g) rfl _ _ h1
  have c2 := h.cells (g := g) rfl _ _ h2
  rw [addr_add, Nat.zero_add] at c0 c1 c2
  exact ⟨c0, c1, c2⟩
/-- A clock's beginning is stored to. -/
theorem own_startK {W : World} {b g n cap : Nat} {l : List (Ck × Slc)} {j : Nat} {y : Ck × Slc} (h : W.ownsRow b 28 3 (.slice (some ⟨g, 0, none⟩) n cap) n (cellsK l)) (hy : l[j]? = some y) (a : Int) :
    (W.setCell ⟨g, j * 3, none⟩ (.int .i64 a)).ownsRow b 28 3 (.slice (some ⟨g, 0, none⟩) n cap) n (cellsK (l.set j ((⟨a, y.1.sl, y.1.dv⟩ : Ck), y.2))) := by
  have hj : j < l.length := (List.getElem?_eq_some_iff.1 hy).1
  have ho := own_setK h (j * 3) (.int .i64 a)
  obtain ⟨h0, h1, h2⟩ := cellsK_get l j y hy
  rw [cellsK_set l j _ hj]
  dsimp only
  have e1 : ((cellsK l).set (j * 3) (.int .i64 a)).set (j * 3 + 1) (.int .i64 y.1.sl) = (cellsK l).set (j * 3) (.int .i64 a) := List.ext_getElem? fun i => by
    rw [List.getElem?_set]
    split
    · subst_vars
      have eq : ((cellsK l).set (j * 3) (.int .i64 a))[j * 3 + 1]? = some (.int .i64 y.1.sl) := by rw [List.getElem?_set, if_neg (by omega)]; exact h1
      rw [eq, if_pos (by rw [List.length_set, cellsK_length]; omega)]
    · rfl
  rw [e1]
  have e2 : ((cellsK l).set (j * 3) (.int .i64 a)).set (j * 3 + 2) (.slice y.2.A y.2.n y.2.c) = (cellsK l).set (j * 3) (.int .i64 a) := List.ext_getElem? fun i => by
    rw [List.getElem?_set]
    split
    · subst_vars
      have eq : ((cellsK l).set (j * 3) (.int .i64 a))[j * 3 + 2]? = some (.slice y.2.A y.2.n y.2.c) := by rw [List.getElem?_set, if_neg (by omega)]; exact h2
      rw [eq, if_pos (by rw [List.length_set, cellsK_length]; omega)]
    · rfl
  rw [e2]
  exact ho
/-- A whole clock is stored to. -/
theorem own_clockK {W : World} {b g n cap : Nat} {l : List (Ck × Slc)} {j : Nat} (h : W.ownsRow b 28 3 (.slice (some ⟨g, 0, none⟩) n cap) n (cellsK l)) (hj : j < l.length) (y : Ck × Slc) :
    (((W.setCell ⟨g, j * 3, none⟩ (.int .i64 y.1.st)).setCell ⟨g, j * 3 + 1, none⟩ (.int .i64 y.1.sl)).setCell ⟨g, j * 3 + 2, none⟩ (.slice y.2.A y.2.n y.2.c)).ownsRow b 28 3 (.slice (some ⟨g, 0, none⟩) n cap) n (cellsK (l.set j y)) := by
  rw [cellsK_set l j y hj]
  exact own_setK (own_setK (own_setK h (j * 3) _) (j * 3 + 1) _) (j * 3 + 2) _
/-- A clock as it is made. -/
def zeroKs : Ck × Slc := (⟨0, 0, []⟩, ⟨none, 0, 0⟩)
theorem made_clocks (n : Nat) : (madeCells (Value.agg #[.int .i64 0, .int .i64 0, .slice none 0 0]).cells (n * 3)).toList = cellsK (List.replicate n zeroKs) := by
  refine List.ext_getElem? fun i => ?_
  have hc : (Value.agg #[.int .i64 0, .int .i64 0, .slice none 0 0]).cells = #[Value.int .i64 0, .int .i64 0, .slice none 0 0] := rfl
  rw [hc]
  have hlen : (cellsK (List.replicate n zeroKs)).length = n * 3 := by rw [cellsK_length, List.length_replicate]
  rcases Nat.lt_or_ge i (n * 3) with hi | hi
  · have hj : i / 3 < n := by omega
    obtain ⟨h0, h1, h2⟩ := cellsK_get (List.replicate n zeroKs) (i / 3) zeroKs (by simp [hj])
    have hm : (madeCells #[Value.int .i64 0, .int .i64 0, .slice none 0 0] (n * 3)).toList[i]? = some (#[Value.int .i64 0, .int .i64 0, .slice none 0 0][i % 3]!) := by
      simp [madeCells, hi]
    rw [hm]
    obtain e | e | e : i % 3 = 0 ∨ i % 3 = 1 ∨ i % 3 = 2 := by omega
    · rw [show i / 3 * 3 = i by omega] at h0
      rw [e, h0]; rfl
    · rw [show i / 3 * 3 + 1 = i by omega] at h1
      rw [e, h1]; rfl
    · rw [show i / 3 * 3 + 2 = i by omega] at h2
      rw [e, h2]; rfl
  · rw [List.getElem?_eq_none (by simp [madeCells]; omega), List.getElem?_eq_none (by omega)]
/-- make([]api.Clock, n). -/
theorem run_make_clocks (n : Nat) (hn : n ≤ 65536) (w : World) :
    (Instr.makeSlice 54 (.int .i64 (n : Int)) (.int .i64 (n : Int))).run Try.prog w = .ok (.slice (some ⟨w.heap.size, 0, none⟩) n n) (w.alloc (.cells (cellsK (List.replicate n zeroKs)).toArray 28)) := by
  obtain ⟨i0, hi, hz0, hz1, hz2⟩ := info_parts Try.infoCk
  have := run_make_rowN (P := Try.prog) 54 28 i0 _ Try.underlying54 hi hz0 .i64 .i64 n n (Nat.le_refl _) (by rw [hz2]; omega) (by omega) w
  rw [hz1, show madeCells (Value.agg #[.int .i64 0, .int .i64 0, .slice none 0 0]).cells (n * 3) = (cellsK (List.replicate n zeroKs)).toArray by rw [← made_clocks]] at this
  exact this
theorem own_made_clocks {w : World} {g base n : Nat} (h : Blk w g 28 (cellsK (List.replicate n zeroKs)).toArray) (hb : base ≤ g) (hn : n ≤ 65536) : w.ownsRow base 28 3 (.slice (some ⟨g, 0, none⟩) n n) n (cellsK (List.replicate n zeroKs)) := by
  have hl : (cellsK (List.replicate n zeroKs)).length = n * 3 := by rw [cellsK_length, List.length_replicate]
  exact ⟨hl, .inr ⟨g, n, (cellsK (List.replicate n zeroKs)).toArray, rfl, hb, h, Nat.le_refl _, by unfold maxLen; omega, by simpa using hl, by rw [← hl]; simp⟩⟩
theorem cksrd_zeros (base n : Nat) (w : World) : CksRd base (List.replicate n zeroKs) w := fun y hy => by rw [List.eq_of_mem_replicate hy]; exact CkFr.zero _ _ _ _
/-- How much later than the beginning a clock begins. -/
def offI (zs : List Int) (P : Int) (i : Nat) : Int := if zs.length = 0 then 0 else (nth zs (i % zs.length)).tmod (P + 1)
theorem offI_in {zs : List Int} {P : Int} (hP : 0 ≤ P) (h : ∀ j, j < zs.length → 0 ≤ nth zs j ∧ nth zs j ≤ 65535) (i : Nat) : 0 ≤ offI zs P i ∧ offI zs P i ≤ P := by
  unfold offI
  split
  · omega
  · rename_i h0
    have := h (i % zs.length) (Nat.mod_lt _ (by omega))
    have h1 := Int.tmod_lt_of_pos (nth zs (i % zs.length)) (b := P + 1) (by omega)
    have h2 := Int.tmod_nonneg (P + 1) this.1
    omega
/-- By how much a clock drifts in a slot. -/
def dftI (zs : List Int) (D : Int) (N k i : Nat) : Int := if zs.length = 0 then 0 else (nth zs ((k * N + i) % zs.length)).tmod (D + 1)
theorem dftI_in {zs : List Int} {D : Int} (hD : 0 ≤ D) (N k i : Nat) : -D ≤ dftI zs D N k i ∧ dftI zs D N k i ≤ D := by
  unfold dftI
  split
  · omega
  · have h1 := Int.tmod_lt_of_pos (nth zs ((k * N + i) % zs.length)) (b := D + 1) (by omega)
    have h2 := Int.lt_tmod_of_pos (nth zs ((k * N + i) % zs.length)) (b := D + 1) (by omega)
    omega
end Go.Proofs.Ytlkmipcenlhacaa
