/-
  Plain of package medl makes the list that the document says, for numbers within their limits. Condition: that. (Printed by tools/gen07l.py.)
-/
import Derived.Test.YtlkmipcenlhacaaMK
namespace Go.Proofs.Ytlkmipcenlhacaa
open Go.RowKit

/-- The smallest list. -/
def plainB (m : Nat) : List Md := [⟨List.replicate m 2, List.replicate m true, [true]⟩]
def plainW (m : Nat) (d : Int) : Int := 16 * (m : Int) * d + 16
def plainG (m : Nat) (d : Int) : Int := 2 * plainW m d + 2 * 1 + 4
def plainM (m : Nat) (d : Int) : ML := ⟨m, 2 * plainG m d + maxAirS m (plainB m), plainG m d, plainW m d, d, 1, List.replicate m true, plainB m⟩
theorem infoM : (Try.prog.info? 25).map (·.size) = some 8 := by kernel_rfl
theorem Blk.row8 {W : World} {g : Nat} {t : TypeId} {old : Array Value} (h : Blk W g t old) (cs : Array Value) : Blk (W.setRow g cs) g t cs := setRow_heap W g old cs t (0, 0) h
theorem Blk.ne_type {w : World} {g g' : Nat} {t t' : TypeId} {cs cs' : Array Value} (h : Blk w g t cs) (h' : Blk w g' t' cs') (hne : t ≠ t') : g ≠ g' := by
  rintro rfl
  unfold Blk at h h'
  rw [h] at h'
  injection h' with h'
  injection h' with _ h2 _
  exact hne h2
theorem bools_rep {w : World} {g m : Nat} (h : Blk w g 4 (List.replicate m (Value.bool true)).toArray) : Bools w.heap.size w (some ⟨g, 0, none⟩) (List.replicate m true) := fun _ =>
  ⟨g, 0, rfl, h.lt, fun j hj => by
    have hj' : j < m := by simpa using hj
    rw [Nat.zero_add, h.cell]; simp [hj']⟩
theorem ints_rep {w : World} {g m : Nat} (h : Blk w g 3 (List.replicate m (Value.int .i64 2)).toArray) : Ints w.heap.size w (some ⟨g, 0, none⟩) (List.replicate m 2) := fun _ =>
  ⟨g, 0, rfl, h.lt, fun j hj => by
    have hj' : j < m := by simpa using hj
    rw [Nat.zero_add, h.cell]; simp [hj']⟩
/-- The list's slices, out of their blocks. -/
theorem med_plain {w : World} {gc gs gd gx gn m : Nat} (h0 : m ≤ 8) {N S G W D L : Int} (kc : Blk w gc 4 (List.replicate m (Value.bool true)).toArray) (ks : Blk w gs 71 #[.slice (some ⟨gd, 0, none⟩) m m, .slice (some ⟨gx, 0, none⟩) m m, .slice (some ⟨gn, 0, none⟩) 1 1])
    (kd : Blk w gd 3 (List.replicate m (Value.int .i64 2)).toArray) (kx : Blk w gx 4 (List.replicate m (Value.bool true)).toArray) (kn : Blk w gn 4 #[.bool true]) :
    Med w ⟨N, S, G, W, D, L, List.replicate m true, plainB m⟩ ⟨some ⟨gc, 0, none⟩, m, m⟩ ⟨some ⟨gs, 0, none⟩, 1, 1⟩ := by
  have hb : (8 : Nat) ≤ maxLen := by unfold maxLen; omega
  refine ⟨bools_rep kc, by simp, Nat.le_trans h0 hb, fun _ => ⟨gs, 0, rfl, ks.lt, fun j o hj => ?_⟩, rfl, (by show (1 : Nat) ≤ maxLen; unfold maxLen; omega)⟩
  obtain ⟨p0, p1, p2, -⟩ := ks.three
  have hj0 : j = 0 := by
    rcases Nat.eq_zero_or_pos j with h | h
    · exact h
    · dsimp only [plainB] at hj
      rw [List.getElem?_eq_none (by simp; omega)] at hj; cases hj
  subst hj0
  obtain rfl : _ = o := by simpa [plainB] using hj
  exact ⟨⟨⟨some ⟨gd, 0, none⟩, m, m⟩, ⟨some ⟨gx, 0, none⟩, m, m⟩, ⟨some ⟨gn, 0, none⟩, 1, 1⟩⟩, p0, p1, p2,
    ints_rep kd, by simp, Nat.le_trans h0 hb, bools_rep kx, by simp, Nat.le_trans h0 hb, bools_rep (m := 1) kn, rfl, (by show (1 : Nat) ≤ maxLen; unfold maxLen; omega)⟩

end Go.Proofs.Ytlkmipcenlhacaa
