/-
  How a clock, and small numbers in slices, that came in are read, and how long a clock's slice is. No condition. (Stage 13; laid ahead.)
-/
import Derived.Test.YtlkmipcenlhacaaR1
import Derived.Test.YtlkmipcenlhacaaFK
import Derived.Test.YtlkmipcenlhacaaLA
namespace Go.Proofs.Ytlkmipcenlhacaa
open Go.ChangeShapes Go.WideShapes Go.ChangeAt Go.RowKit Go.Joins

/-- Small numbers of a kind in a slice. -/
def Smalls (k : IntKind) (n₀ : Nat) (W : World) (A : Option Addr) (zs : List Int) : Prop :=
  zs ≠ [] → ∃ b off, A = some ⟨b, off, none⟩ ∧ b < n₀ ∧ ∀ j, j < zs.length → W.cell? ⟨b, off + j, none⟩ = some (.int k (nth zs j))
theorem Smalls.below {k : IntKind} {n₀ : Nat} {W W' : World} {A : Option Addr} {zs : List Int} (h : Smalls k n₀ W A zs) (hb : Below n₀ W W') : Smalls k n₀ W' A zs := fun hn => by
  obtain ⟨b, off, e, hlt, hc⟩ := h hn
  exact ⟨b, off, e, hlt, fun j hj => (hb.cell (p := ⟨b, off + j, none⟩) hlt).trans (hc j hj)⟩
theorem Smalls.mono {k : IntKind} {n₀ n₁ : Nat} {W : World} {A : Option Addr} {zs : List Int} (h : Smalls k n₀ W A zs) (hn : n₀ ≤ n₁) : Smalls k n₁ W A zs := fun hne => by
  obtain ⟨b, off, e, hlt, hc⟩ := h hne
  exact ⟨b, off, e, by omega, hc⟩
theorem Smalls.on {k : IntKind} {W W' : World} {A : Option Addr} {zs : List Int} (h : Smalls k W.heap.size W A zs) (hb : Below W.heap.size W W') : Smalls k W'.heap.size W' A zs := (h.below hb).mono hb.size
theorem Smalls.at_ {k : IntKind} {n₀ : Nat} {W : World} {A : Option Addr} {zs : List Int} (h : Smalls k n₀ W A zs) {j : Nat} (hj : j < zs.length) : ∃ b off, A = some ⟨b, off, none⟩ ∧ b < n₀ ∧ W.cell? ⟨b, off + j, none⟩ = some (.int k (nth zs j)) := by
  obtain ⟨b, off, e, hb, hc⟩ := h (by rintro rfl; exact absurd hj (Nat.not_lt_zero _))
  exact ⟨b, off, e, hb, hc j hj⟩
theorem Try.cells28 : Try.prog.cellsOf 28 = 3 := by kernel_rfl
theorem Try.bytesJ : Try.prog.bytesOf 2 = 8 := by kernel_rfl
theorem array3K {α : Type} {a : Array α} (h : a.size = 3) : ∃ x0 x1 x2, a = #[x0, x1, x2] := by
  obtain ⟨l⟩ := a
  match l, h with
  | [x0, x1, x2], _ => exact ⟨x0, x1, x2, rfl⟩
section
variable {H : Type} {enc : TypeId × Value → H} {W : World} {base : Nat} {spare : Nat → Bool} {held : Bool}
/-- Small numbers in a slice that came in. -/
theorem open_u16K {fuel : Nat} {v : Value} {x : DataW H × List MemPlace} (h : DataW.trod enc Try.prog W base spare held fuel 52 [v] = some x) :
    ∃ (y : Slc) (zs : List Int), v = .slice y.A y.n y.c ∧ y.n = zs.length ∧ y.n ≤ maxLen ∧ Smalls .u16 W.heap.size W y.A zs ∧ ∀ j, j < zs.length → 0 ≤ nth zs j ∧ nth zs j ≤ 65535 := by
  rcases open_ints Try.underlying52 Try.underlying55 (by kernel_rfl) h with ⟨hcs, _⟩ | ⟨a, len, cap, zs, hcs, _, hl, hm, hz, _, hcell, hwz⟩
  · simp at hcs
    exact ⟨⟨none, 0, 0⟩, [], hcs, rfl, Nat.zero_le _, fun h => absurd rfl h, fun j hj => absurd hj (Nat.not_lt_zero _)⟩
  · simp at hcs
    have hzl : len ≤ zs.length := by rw [hz]; split <;> omega
    refine ⟨⟨some a, len, cap⟩, zs.take len, hcs, by dsimp only; simp; omega, by dsimp only; omega, fun hne => ?_, fun j hj => ?_⟩
    · have h0 : 0 < len := by
        rcases Nat.eq_zero_or_pos len with h | h
        · subst h; simp at hne
        · exact h
      obtain ⟨b, off, spot⟩ := a
      have hc0 := hcell 0 (by omega)
      have hspot : spot = none := by simpa [Addr.add] using World.cell?_spot hc0
      subst hspot
      refine ⟨b, off, rfl, ?_, fun j hj => ?_⟩
      · have := cell_lt hc0
        rwa [addr_add] at this
      · have hj' : j < len := by simp at hj; omega
        have := hcell j (by omega)
        rw [addr_add] at this
        rw [this]
        unfold nth
        rw [List.getElem?_take_of_lt hj']
        rfl
    · have hb := bounds_u16 (hwz (nth (zs.take len) j) (List.mem_of_mem_take (nth_mem hj)))
      omega
theorem open_i8K {fuel : Nat} {v : Value} {x : DataW H × List MemPlace} (h : DataW.trod enc Try.prog W base spare held fuel 53 [v] = some x) :
    ∃ (y : Slc) (zs : List Int), v = .slice y.A y.n y.c ∧ y.n = zs.length ∧ y.n ≤ maxLen ∧ Smalls .i8 W.heap.size W y.A zs ∧ ∀ j, j < zs.length → -128 ≤ nth zs j ∧ nth zs j ≤ 127 := by
  rcases open_ints Try.underlying53 Try.underlying56 (by kernel_rfl) h with ⟨hcs, _⟩ | ⟨a, len, cap, zs, hcs, _, hl, hm, hz, _, hcell, hwz⟩
  · simp at hcs
    exact ⟨⟨none, 0, 0⟩, [], hcs, rfl, Nat.zero_le _, fun h => absurd rfl h, fun j hj => absurd hj (Nat.not_lt_zero _)⟩
  · simp at hcs
    have hzl : len ≤ zs.length := by rw [hz]; split <;> omega
    refine ⟨⟨some a, len, cap⟩, zs.take len, hcs, by dsimp only; simp; omega, by dsimp only; omega, fun hne => ?_, fun j hj => ?_⟩
    · have h0 : 0 < len := by
        rcases Nat.eq_zero_or_pos len with h | h
        · subst h; simp at hne
        · exact h
      obtain ⟨b, off, spot⟩ := a
      have hc0 := hcell 0 (by omega)
      have hspot : spot = none := by simpa [Addr.add] using World.cell?_spot hc0
      subst hspot
      refine ⟨b, off, rfl, ?_, fun j hj => ?_⟩
      · have := cell_lt hc0
        rwa [addr_add] at this
      · have hj' : j < len := by simp at hj; omega
        have := hcell j (by omega)
        rw [addr_add] at this
        rw [this]
        unfold nth
        rw [List.getElem?_take_of_lt hj']
        rfl
    · have hb := bounds_i8 (hwz (nth (zs.take len) j) (List.mem_of_mem_take (nth_mem hj)))
      omega
set_option maxRecDepth 100000 in
/-- Numbers in a slice that came in, and how many they may be. -/
theorem open_jsK {fuel : Nat} {v : Value} {x : DataW H × List MemPlace} (h : DataW.trod enc Try.prog W base spare held fuel 26 [v] = some x) :
    ∃ (y : Slc) (zs : List Int), v = .slice y.A y.n y.c ∧ (y.n = zs.length ∧ y.n ≤ maxLen ∧ y.n ≤ y.c ∧ (y.A = none → y.n = 0 ∧ y.c = 0) ∧ Ints W.heap.size W y.A zs) ∧ ∀ m, (∀ u ∈ x.1.weights Try.prog 26, u ≤ m) → zs.length * 8 ≤ m := by
  obtain ⟨A, n, c, zs, rfl, hn, hm, hc, hz, hA⟩ := open_js h
  refine ⟨⟨A, n, c⟩, zs, rfl, ⟨hn, hm, hc, hz, hA⟩, fun m hw => ?_⟩
  rcases open_ints Try.underlying26 Try.underlying2 (by kernel_rfl) h with ⟨hcs, hx⟩ | ⟨a, len, cap, ys, hcs, _, hl, hm2, hz2, hx, hcell, hwz⟩
  · simp at hcs
    obtain ⟨rfl, rfl, rfl⟩ := hcs
    omega
  · simp at hcs
    obtain ⟨rfl, rfl, rfl⟩ := hcs
    have hzl : n ≤ ys.length := by rw [hz2]; split <;> omega
    subst hx
    have := hw (((lits (H := H) .i64 (ys.take n)).length + (lits (H := H) .i64 (ys.drop n)).length) * Try.prog.bytesOf 2) (by simp [DataW.weights, Try.underlying26])
    rw [Try.bytesJ] at this
    simp [lits] at this
    omega
set_option maxRecDepth 100000 in
/-- A clock by value that came in. -/
theorem open_clock {r : Reach} {b0 : Nat} {v : Value} {d : DataW H} {p : List MemPlace} (hv : Value.okWide Try.prog W r b0 28 v) (h : DataW.Trod enc Try.prog W base spare held 28 v d p) :
    ∃ (k : Ck) (y : Slc), v = .agg (cK k y) ∧ CkOk W.heap.size W k y ∧ ∀ m, (∀ u ∈ d.weights Try.prog 28, u ≤ m) → k.dv.length * 8 ≤ m := by
  obtain ⟨cs, rfl, hsz⟩ := okWide_struct Try.underlying28 hv
  obtain ⟨c0, c1, c2, rfl⟩ := array3K (hsz.trans Try.cells28)
  obtain ⟨fuel, hf⟩ := h
  obtain ⟨xs, n, _, hx, hl, hlen, hf⟩ := DataW.trod_struct Try.underlying28 hf
  have h3 : Try.prog.cellsOf 3 = 1 := by kernel_rfl
  have hB : Try.prog.cellsOf 2 = 1 := by kernel_rfl
  have hM : Try.prog.cellsOf 26 = 1 := by kernel_rfl
  obtain ⟨y0, y1, y2, rfl⟩ : ∃ y0 y1 y2, xs = [y0, y1, y2] := by
    match xs, hlen with
    | [y0, y1, y2], _ => exact ⟨y0, y1, y2, rfl⟩
  obtain ⟨I, e0, _⟩ := DataW.trod_int Try.underlying2 (by simpa [h3, hB, hM, Value.cells] using hf 0 _ rfl)
  obtain ⟨L, e1, _⟩ := DataW.trod_int Try.underlying3 (by simpa [h3, hB, hM, Value.cells] using hf 1 _ rfl)
  obtain ⟨y, zs, e2, ⟨j0, j1, j2, j3, j4⟩, hw2⟩ := open_jsK (v := c2) (x := y2) (by simpa [h3, hB, hM, Value.cells] using hf 2 _ rfl)
  simp at e0 e1
  subst e0 e1 e2
  refine ⟨⟨I, L, zs⟩, y, rfl, ⟨j4, j0, j2, j1, j3⟩, fun m hw => ?_⟩
  have hd : d = .agg [y0.1, y1.1, y2.1] := by
    have := congrArg Prod.fst hx
    simpa using this
  subst hd
  refine hw2 m fun u hu => hw u ?_
  simp [DataW.weights, DataW.weightsEach, Try.underlying28]
  exact .inr (.inr hu)
end
end Go.Proofs.Ytlkmipcenlhacaa
