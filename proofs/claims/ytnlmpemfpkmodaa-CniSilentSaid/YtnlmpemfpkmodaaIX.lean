/-
  How bytes, messages and an interface that came in are read, with what is left of their memory, and how long their slices are. No condition.
-/
import Derived.Test.YtnlmpemfpkmodaaR1
import Derived.Test.YtnlmpemfpkmodaaIM
import Derived.Deep.SlicePairs
namespace Go.Proofs.Ytnlmpemfpkmodaa
open Go.ChangeShapes Go.WideShapes Go.ChangeAt Go.RowKit Go.Joins

theorem Try.cells51 : Try.prog.cellsOf 51 = 2 := by kernel_rfl
theorem Try.cells25 : Try.prog.cellsOf 25 = 5 := by kernel_rfl
theorem Try.bytesI : Try.prog.bytesOf 5 = 1 := by kernel_rfl
instance : Inhabited (Ms × Sl3) := ⟨⟨default, ⟨none, 0, 0⟩⟩⟩
theorem array5I {α : Type} {a : Array α} (h : a.size = 5) : ∃ x0 x1 x2 x3 x4, a = #[x0, x1, x2, x3, x4] := by
  obtain ⟨l⟩ := a
  match l, h with
  | [x0, x1, x2, x3, x4], _ => exact ⟨x0, x1, x2, x3, x4, rfl⟩
section
variable {H : Type} {enc : TypeId × Value → H} {W : World} {base : Nat} {spare : Nat → Bool} {held : Bool}
set_option maxRecDepth 100000 in
/-- Bytes that came in. -/
theorem open_bytesI {fuel : Nat} {v : Value} {x : DataW H × List MemPlace} (h : DataW.trod enc Try.prog W base spare held fuel 22 [v] = some x) :
    ∃ (A : Option Addr) (n c : Nat) (bs : List UInt8), v = .slice A n c ∧ BOk W.heap.size W bs ⟨A, n, c⟩ ∧ ∀ m, (∀ u ∈ x.1.weights Try.prog 22, u ≤ m) → bs.length ≤ m := by
  obtain ⟨A, n, c, bs, rfl, hn, hm, hA⟩ := open_bytes h
  rcases open_ints Try.underlying22 Try.underlying5 (by kernel_rfl) h with ⟨hcs, hx⟩ | ⟨a, len, cap, zs, hcs, _, hl, hm2, hz, hx, hcell, hwz⟩
  · simp at hcs
    obtain ⟨rfl, rfl, rfl⟩ := hcs
    exact ⟨none, 0, 0, bs, rfl, ⟨hA, hn, Nat.le_refl _, Nat.zero_le _, fun _ => rfl⟩, fun m _ => by rw [← hn]; exact Nat.zero_le _⟩
  · simp at hcs
    obtain ⟨rfl, rfl, rfl⟩ := hcs
    refine ⟨some a, n, c, bs, rfl, ⟨hA, hn, hl, by first | exact hm2 | (dsimp only; omega), fun e => by cases e⟩, fun m hw => ?_⟩
    have hzl : n ≤ zs.length := by rw [hz]; split <;> omega
    subst hx
    have := hw (((lits (H := H) .u8 (zs.take n)).length + (lits (H := H) .u8 (zs.drop n)).length) * Try.prog.bytesOf 5) (by simp [DataW.weights, Try.underlying22])
    rw [Try.bytesI] at this
    simp [lits] at this
    omega
theorem weights_all {P : Program} {e : TypeId} {l : List (DataW H)} {d : DataW H} (h : d ∈ l) : ∀ u ∈ d.weights P e, u ∈ DataW.weightsAll P e l := by
  induction l with
  | nil => cases h
  | cons a l ih =>
    intro u hu
    rcases List.mem_cons.1 h with rfl | h2
    · simp only [DataW.weightsAll, List.mem_append]; exact .inl hu
    · simp only [DataW.weightsAll, List.mem_append]; exact .inr (ih h2 u hu)
set_option maxRecDepth 100000 in
/-- Messages that came in. -/
theorem open_msgsI {fuel : Nat} {v : Value} {x : DataW H × List MemPlace} (h : DataW.trod enc Try.prog W base spare held fuel 23 [v] = some x) :
    ∃ (A : Option Addr) (n c : Nat) (l : List Ms), v = .slice A n c ∧ n = l.length ∧ n ≤ c ∧ c ≤ maxLen ∧ (A = none → c = 0) ∧ Msgs W.heap.size W A l ∧ ∀ m, (∀ u ∈ x.1.weights Try.prog 23, u ≤ m) → ∀ y ∈ l, y.d.length ≤ m := by
  rcases Go.Deep.open_slice_pairs Try.underlying23 Try.underlying51 Try.cells51 rfl rfl (by kernel_rfl) (by kernel_rfl) h with ⟨hcs, _⟩ | ⟨a, len, cap, m, n, V0, V1, D0, D1, P0, P1, hcs, _, hl, hm, hmm, hx, hi⟩
  · simp at hcs
    exact ⟨none, 0, 0, [], hcs, rfl, Nat.zero_le _, Nat.zero_le _, fun _ => rfl, Msgs.nil _ _ _, fun _ _ y hy => by cases hy⟩
  · simp at hcs
    have hml : len ≤ m := by rw [hmm]; split <;> omega
    have key : ∀ i, i < len → ∃ y : Ms × Sl3, W.cell? (a.add (i * 2)) = some (.slice y.2.A y.2.n y.2.c) ∧ W.cell? (a.add (i * 2 + 1)) = some (.int .i64 y.1.g) ∧ BOk W.heap.size W y.1.d y.2 ∧ ∀ M, (∀ u ∈ (D0 i).weights Try.prog 22, u ≤ M) → y.1.d.length ≤ M := fun i hi' => by
      obtain ⟨g0, g1, t0, t1⟩ := hi i (by omega)
      have t0' : DataW.trod enc Try.prog W base spare held n 22 [V0 i] = some (D0 i, P0 i) := t0
      have t1' : DataW.trod enc Try.prog W base spare held n 3 [V1 i] = some (D1 i, P1 i) := t1
      obtain ⟨A, k, c, bs, e0, hb, hw⟩ := open_bytesI t0'
      obtain ⟨N, e1, _, _⟩ := DataW.trod_int Try.underlying3 t1'
      simp at e1
      rw [e0] at g0
      rw [e1] at g1
      exact ⟨(⟨bs, N⟩, ⟨A, k, c⟩), g0, g1, hb, hw⟩
    obtain ⟨Y, hY⟩ := Go.Deep.choose_lt (α := Ms × Sl3) (p := fun i y => W.cell? (a.add (i * 2)) = some (.slice y.2.A y.2.n y.2.c) ∧ W.cell? (a.add (i * 2 + 1)) = some (.int .i64 y.1.g) ∧ BOk W.heap.size W y.1.d y.2 ∧ ∀ M, (∀ u ∈ (D0 i).weights Try.prog 22, u ≤ M) → y.1.d.length ≤ M) key
    refine ⟨some a, len, cap, (List.range len).map fun i => (Y i).1, hcs, by simp, hl, by omega, (fun h => by cases h), fun hne => ?_, fun M hw y hy => ?_⟩
    · have h0 : 0 < len := by
        rcases Nat.eq_zero_or_pos len with h | h
        · subst h; simp at hne
        · exact h
      obtain ⟨b, off, spot⟩ := a
      obtain ⟨hc0, _⟩ := hY 0 h0
      have hspot : spot = none := by simpa [Addr.add] using World.cell?_spot hc0
      subst hspot
      refine ⟨b, off, rfl, ?_, fun j s hj => ?_⟩
      · have := cell_lt hc0
        rwa [addr_add] at this
      · have hj' : j < len := by
          rcases Nat.lt_or_ge j len with h | h
          · exact h
          · rw [List.getElem?_eq_none (by simpa using h)] at hj; cases hj
        obtain rfl : (Y j).1 = s := by simpa [hj'] using hj
        obtain ⟨g0, g1, g6, _⟩ := hY j hj'
        rw [addr_add] at g0 g1
        exact ⟨(Y j).2, ⟨g0, g1⟩, g6⟩
    · obtain ⟨i, hir, rfl⟩ := List.mem_map.1 hy
      have hil := List.mem_range.1 hir
      refine (hY i hil).2.2.2 M fun u hu => hw u ?_
      subst hx
      simp only [DataW.weights, Try.underlying23, List.mem_cons, List.mem_append]
      refine .inr (.inl (weights_all (List.mem_map.2 ⟨i, hir, rfl⟩) u ?_))
      simp [DataW.weights, DataW.weightsEach, Try.underlying51]
      exact .inl hu
set_option maxRecDepth 100000 in
/-- An interface by value that came in. -/
theorem open_cni {r : Reach} {b0 : Nat} {v : Value} {d : DataW H} {p : List MemPlace} (hv : Value.okWide Try.prog W r b0 25 v) (h : DataW.Trod enc Try.prog W base spare held 25 v d p) :
    ∃ (s : Cn) (y z : Sl3), v = .agg (cCn s y z) ∧ CnOk W.heap.size W s y z ∧ ∀ m, (∀ u ∈ d.weights Try.prog 25, u ≤ m) → s.out.length ≤ m ∧ ∀ e ∈ s.ms, e.d.length ≤ m := by
  obtain ⟨cs, rfl, hsz⟩ := okWide_struct Try.underlying25 hv
  obtain ⟨c0, c1, c2, c3, c4, rfl⟩ := array5I (hsz.trans Try.cells25)
  obtain ⟨fuel, hf⟩ := h
  obtain ⟨xs, n, _, hx, hl, hlen, hf⟩ := DataW.trod_struct Try.underlying25 hf
  have h3 : Try.prog.cellsOf 3 = 1 := by kernel_rfl
  have hB : Try.prog.cellsOf 22 = 1 := by kernel_rfl
  have hM : Try.prog.cellsOf 23 = 1 := by kernel_rfl
  obtain ⟨y0, y1, y2, y3, y4, rfl⟩ : ∃ y0 y1 y2 y3 y4, xs = [y0, y1, y2, y3, y4] := by
    match xs, hlen with
    | [y0, y1, y2, y3, y4], _ => exact ⟨y0, y1, y2, y3, y4, rfl⟩
  obtain ⟨I, e0, _⟩ := DataW.trod_int Try.underlying3 (by simpa [h3, hB, hM, Value.cells] using hf 0 _ rfl)
  obtain ⟨A, k, c, bs, e1, hb, hw1⟩ := open_bytesI (v := c1) (x := y1) (by simpa [h3, hB, hM, Value.cells] using hf 1 _ rfl)
  obtain ⟨B, q, e, l, e2, k0, k1, k2, k3, k4, hw2⟩ := open_msgsI (v := c2) (x := y2) (by simpa [h3, hB, hM, Value.cells] using hf 2 _ rfl)
  obtain ⟨L, e3, _⟩ := DataW.trod_int Try.underlying3 (by simpa [h3, hB, hM, Value.cells] using hf 3 _ rfl)
  obtain ⟨T, e4, _⟩ := DataW.trod_int Try.underlying3 (by simpa [h3, hB, hM, Value.cells] using hf 4 _ rfl)
  simp at e0 e3 e4
  subst e0 e1 e2 e3 e4
  refine ⟨⟨I, bs, l, L, T⟩, ⟨A, k, c⟩, ⟨B, q, e⟩, rfl, ⟨hb, k4, k0, k1, k2, k3⟩, fun m hw => ?_⟩
  have hd : d = .agg [y0.1, y1.1, y2.1, y3.1, y4.1] := by
    have := congrArg Prod.fst hx
    simpa using this
  subst hd
  refine ⟨hw1 m fun u hu => hw u ?_, hw2 m fun u hu => hw u ?_⟩
  · simp [DataW.weights, DataW.weightsEach, Try.underlying25]
    exact .inr (.inl hu)
  · simp [DataW.weights, DataW.weightsEach, Try.underlying25]
    exact .inr (.inr (.inl hu))
set_option maxRecDepth 100000 in
/-- Bytes by value that came in. -/
theorem open_bytesV {r : Reach} {b0 : Nat} {v : Value} {d : DataW H} {p : List MemPlace} (hv : Value.okWide Try.prog W r b0 22 v) (h : DataW.Trod enc Try.prog W base spare held 22 v d p) :
    ∃ (y : Sl3) (bs : List UInt8), v = .slice y.A y.n y.c ∧ BOk W.heap.size W bs y := by
  obtain ⟨A', n', c', he⟩ := okWide_slice Try.underlying22 hv
  subst he
  obtain ⟨fuel, hf⟩ := h
  obtain ⟨A, n, c, bs, e, hb, -⟩ := open_bytesI (by simpa [Value.cells] using hf)
  exact ⟨⟨A, n, c⟩, bs, e, hb⟩
end
end Go.Proofs.Ytnlmpemfpkmodaa
