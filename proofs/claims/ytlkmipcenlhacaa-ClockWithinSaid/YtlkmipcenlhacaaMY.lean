/-
  The document's own Plain of layer 7: what lies about while it puts its list together. Condition: that each theorem names.
-/
import Derived.Test.YtlkmipcenlhacaaML
import Derived.Test.YtlkmipcenlhacaaMS
import Derived.Maps.AppendAt
import Derived.Deep.Cut
import Derived.Deep.RegionLaw
namespace Go.Proofs.Ytlkmipcenlhacaa
open Go.RowKit

theorem own_types {W : World} {b : Nat} {e e' : TypeId} {v v' : Value} {n n' : Nat} {xs xs' : List Value} (h : W.ownsRow b e 1 v n xs) (h' : W.ownsRow b e' 1 v' n' xs') (hne : e ≠ e') : v.ownBlock = none ∨ v.ownBlock ≠ v'.ownBlock := by
  rcases h.2 with ⟨rfl, _⟩ | ⟨g, cap, cur, rfl, _, hg, _⟩
  · exact .inl rfl
  rcases h'.2 with ⟨rfl, _⟩ | ⟨g', cap', cur', rfl, _, hg', _⟩
  · exact .inr (by simp [Value.ownBlock])
  · refine .inr fun e => ?_
    simp only [Value.ownBlock, Option.some.injEq] at e
    rw [e, hg'] at hg
    injection hg with hg
    injection hg with _ h2 _
    exact hne h2.symm
theorem own_slice {W : World} {b : Nat} {e : TypeId} {sz : Nat} {v : Value} {n : Nat} {xs : List Value} (h : W.ownsRow b e sz v n xs) : ∃ A c, v = .slice A n c := by
  rcases h.2 with ⟨rfl, rfl⟩ | ⟨g, cap, cur, rfl, _⟩
  · exact ⟨none, 0, rfl⟩
  · exact ⟨_, _, rfl⟩
theorem put_row {W : World} {b g j : Nat} {e : TypeId} {v : Value} {n : Nat} {xs : List Value} (h : W.ownsRow b e 1 v n xs) (hg : g < b) (u : Value) : (W.setCell ⟨g, j, none⟩ u).ownsRow b e 1 v n xs :=
  h.kept (only_setCell (World.grownBy.refl W (some g)) (.inl rfl) u) (.inr fun e => by have := (h.lt g e).1; omega)
theorem own_ne_sym {v v' : Value} (h : v.ownBlock = none ∨ v.ownBlock ≠ v'.ownBlock) : v'.ownBlock = none ∨ v'.ownBlock ≠ v.ownBlock := by
  rcases h with h | h
  · rw [h]
    cases v'.ownBlock with
    | none => exact .inl rfl
    | some g => exact .inr (by simp)
  · exact .inr fun e => h e.symm
theorem own_ne_new {W : World} {b : Nat} {e : TypeId} {v v' vX : Value} {k : Nat} {xs : List Value} {o : Obj} (hX : W.ownsRow b e 1 vX k xs) (h : v.ownBlock = none ∨ v.ownBlock ≠ vX.ownBlock) (hat : v'.ownBlock = v.ownBlock ∨ v'.ownBlock = some (W.alloc o).heap.size) :
    v'.ownBlock = none ∨ v'.ownBlock ≠ vX.ownBlock := by
  rcases hat with hat | hat
  · rw [hat]; exact h
  · refine .inr fun e => ?_
    have h1 := (hX.lt _ (e.symm.trans hat)).2
    simp at h1
    omega
/-- What lies about in the document's Plain. -/
structure PlAt (w : World) (m kC kD kX : Nat) (d : Int) (vC vD vX : Value) (W : World) : Prop where
  r : Blk W w.heap.size 25 #[.int .i64 0, .int .i64 0, .int .i64 0, .int .i64 0, .int .i64 0, .int .i64 0, .slice none 0 0, .slice none 0 0]
  q : Blk W (w.heap.size + 1) 25 #[.int .i64 (m : Int), .int .i64 0, .int .i64 0, .int .i64 0, .int .i64 d, .int .i64 1, vC, .slice none 0 0]
  n : Blk W (w.heap.size + 1 + 1) 4 #[.bool true]
  o : Blk W (w.heap.size + 1 + 1 + 1) 71 #[vD, vX, .slice (some ⟨w.heap.size + 1 + 1, 0, none⟩) 1 1]
  C : W.ownsRow (w.heap.size + 4) 4 1 vC kC (List.replicate kC (Value.bool true))
  D : W.ownsRow (w.heap.size + 4) 3 1 vD kD (List.replicate kD (Value.int .i64 2))
  X : W.ownsRow (w.heap.size + 4) 4 1 vX kX (List.replicate kX (Value.bool true))
  ne : vC.ownBlock = none ∨ vC.ownBlock ≠ vX.ownBlock
  b : Below w.heap.size w W
section
variable {w W w1 : World} {m kC kD kX : Nat} {d : Int} {vC vD vX v' : Value} {tmp : Obj}
theorem PlAt.lt (h : PlAt w m kC kD kX d vC vD vX W) : w.heap.size + 4 ≤ W.heap.size := by have := h.o.lt; omega
theorem PlAt.putC (h : PlAt w m kC kD kX d vC vD vX W) (hg : (W.alloc tmp).grownBy w1 vC.ownBlock) (ho : w1.ownsRow (w.heap.size + 4) 4 1 v' (kC + 1) (List.replicate kC (Value.bool true) ++ [Value.bool true])) (hat : v'.ownBlock = vC.ownBlock ∨ v'.ownBlock = some (W.alloc tmp).heap.size) :
    PlAt w m (kC + 1) kD kX d v' vD vX (w1.setCell ⟨w.heap.size + 1, 6, none⟩ v') ∧ w1.cell? ⟨w.heap.size + 1, 6, none⟩ = some vC ∧ w1.frozen? ⟨w.heap.size + 1, 6, none⟩ = false := by
  have hb : Below (w.heap.size + 4) W w1 := own_below h.C hg (Below.refl _ _) (Nat.le_refl _) h.lt
  have q := h.q.below hb (by omega)
  refine ⟨⟨(h.r.below hb (by omega)).far (by dsimp only; omega) _, by simpa using q.set_ 6 v', (h.n.below hb (by omega)).far (by dsimp only; omega) _, (h.o.below hb (by omega)).far (by dsimp only; omega) _, ?_, ?_, ?_, ?_, ?_⟩, by simpa using q.cell 6, q.frozen 6⟩
  · rw [List.replicate_succ']; exact put_row ho (by omega) _
  · exact put_row ((h.D.alloc tmp).kept hg (own_types h.D h.C (by decide))) (by omega) _
  · exact put_row ((h.X.alloc tmp).kept hg (own_ne_sym h.ne)) (by omega) _
  · exact own_ne_new h.X h.ne hat
  · exact Below.off (own_below h.C hg h.b (by omega) (by have := h.lt; omega)) (by have := hb.size; have := h.lt; omega) (by dsimp only; omega) (only_setCell (World.grownBy.refl _ _) (.inl rfl) _)
theorem PlAt.putD (h : PlAt w m kC kD kX d vC vD vX W) (hg : (W.alloc tmp).grownBy w1 vD.ownBlock) (ho : w1.ownsRow (w.heap.size + 4) 3 1 v' (kD + 1) (List.replicate kD (Value.int .i64 2) ++ [Value.int .i64 2])) :
    PlAt w m kC (kD + 1) kX d vC v' vX (w1.setCell ⟨w.heap.size + 1 + 1 + 1, 0, none⟩ v') ∧ w1.cell? ⟨w.heap.size + 1 + 1 + 1, 0, none⟩ = some vD ∧ w1.frozen? ⟨w.heap.size + 1 + 1 + 1, 0, none⟩ = false := by
  have hb : Below (w.heap.size + 4) W w1 := own_below h.D hg (Below.refl _ _) (Nat.le_refl _) h.lt
  have q := h.o.below hb (by omega)
  refine ⟨⟨(h.r.below hb (by omega)).far (by dsimp only; omega) _, (h.q.below hb (by omega)).far (by dsimp only; omega) _, (h.n.below hb (by omega)).far (by dsimp only; omega) _, by simpa using q.set_ 0 v', ?_, ?_, ?_, h.ne, ?_⟩, by simpa using q.cell 0, q.frozen 0⟩
  · exact put_row ((h.C.alloc tmp).kept hg (own_types h.C h.D (by decide))) (by omega) _
  · rw [List.replicate_succ']; exact put_row ho (by omega) _
  · exact put_row ((h.X.alloc tmp).kept hg (own_types h.X h.D (by decide))) (by omega) _
  · exact Below.off (own_below h.D hg h.b (by omega) (by have := h.lt; omega)) (by have := hb.size; have := h.lt; omega) (by dsimp only; omega) (only_setCell (World.grownBy.refl _ _) (.inl rfl) _)
theorem PlAt.putX (h : PlAt w m kC kD kX d vC vD vX W) (hg : (W.alloc tmp).grownBy w1 vX.ownBlock) (ho : w1.ownsRow (w.heap.size + 4) 4 1 v' (kX + 1) (List.replicate kX (Value.bool true) ++ [Value.bool true])) (hat : v'.ownBlock = vX.ownBlock ∨ v'.ownBlock = some (W.alloc tmp).heap.size) :
    PlAt w m kC kD (kX + 1) d vC vD v' (w1.setCell ⟨w.heap.size + 1 + 1 + 1, 1, none⟩ v') ∧ w1.cell? ⟨w.heap.size + 1 + 1 + 1, 1, none⟩ = some vX ∧ w1.frozen? ⟨w.heap.size + 1 + 1 + 1, 1, none⟩ = false := by
  have hb : Below (w.heap.size + 4) W w1 := own_below h.X hg (Below.refl _ _) (Nat.le_refl _) h.lt
  have q := h.o.below hb (by omega)
  refine ⟨⟨(h.r.below hb (by omega)).far (by dsimp only; omega) _, (h.q.below hb (by omega)).far (by dsimp only; omega) _, (h.n.below hb (by omega)).far (by dsimp only; omega) _, by simpa using q.set_ 1 v', ?_, ?_, ?_, ?_, ?_⟩, by simpa using q.cell 1, q.frozen 1⟩
  · exact put_row ((h.C.alloc tmp).kept hg h.ne) (by omega) _
  · exact put_row ((h.D.alloc tmp).kept hg (own_types h.D h.X (by decide))) (by omega) _
  · rw [List.replicate_succ']; exact put_row ho (by omega) _
  · exact own_ne_sym (own_ne_new h.C (own_ne_sym h.ne) hat)
  · exact Below.off (own_below h.X hg h.b (by omega) (by have := h.lt; omega)) (by have := hb.size; have := h.lt; omega) (by dsimp only; omega) (only_setCell (World.grownBy.refl _ _) (.inl rfl) _)
/-- A row of equal cells lies in a block. -/
theorem row_block {W : World} {b m : Nat} {e : TypeId} {v x : Value} (h : W.ownsRow b e 1 v m (List.replicate m x)) (hm : 0 < m) :
    ∃ g cap cur, v = .slice (some ⟨g, 0, none⟩) m cap ∧ b ≤ g ∧ Blk W g e cur ∧ ∀ j, j < m → cur[j]? = some x := by
  rcases h.2 with ⟨rfl, h0⟩ | ⟨g, cap, cur, rfl, hb, hg, _, _, hs, ht⟩
  · omega
  · refine ⟨g, cap, cur, rfl, hb, hg, fun j hj => ?_⟩
    have h1 : (cur.toList.take (m * 1))[j]? = some x := by rw [ht]; simp [hj]
    rw [List.getElem?_take_of_lt (by omega)] at h1
    simpa using h1
theorem med_rows {w : World} {gc gs gd gx gn m cc cd cx : Nat} {curC curD curX : Array Value} (h0 : m ≤ 8) {N S G W D L : Int} (kc : Blk w gc 4 curC) (hc : ∀ j, j < m → curC[j]? = some (Value.bool true))
    (ks : Blk w gs 71 #[.slice (some ⟨gd, 0, none⟩) m cd, .slice (some ⟨gx, 0, none⟩) m cx, .slice (some ⟨gn, 0, none⟩) 1 1])
    (kd : Blk w gd 3 curD) (hd : ∀ j, j < m → curD[j]? = some (Value.int .i64 2)) (kx : Blk w gx 4 curX) (hx : ∀ j, j < m → curX[j]? = some (Value.bool true)) (kn : Blk w gn 4 #[.bool true]) :
    Med w ⟨N, S, G, W, D, L, List.replicate m true, plainB m⟩ ⟨some ⟨gc, 0, none⟩, m, cc⟩ ⟨some ⟨gs, 0, none⟩, 1, 1⟩ := by
  have hb : (8 : Nat) ≤ maxLen := by unfold maxLen; omega
  have tru : ∀ {g cur}, Blk w g 4 cur → (∀ j, j < m → cur[j]? = some (Value.bool true)) → Bools w.heap.size w (some ⟨g, 0, none⟩) (List.replicate m true) := fun k h _ =>
    ⟨_, 0, rfl, k.lt, fun j hj => by
      have hj' : j < m := by simpa using hj
      rw [Nat.zero_add, k.cell, h j hj']; simp [hj']⟩
  have num : Ints w.heap.size w (some ⟨gd, 0, none⟩) (List.replicate m 2) := fun _ =>
    ⟨_, 0, rfl, kd.lt, fun j hj => by
      have hj' : j < m := by simpa using hj
      rw [Nat.zero_add, kd.cell, hd j hj']; simp [hj']⟩
  refine ⟨tru kc hc, by simp, Nat.le_trans h0 hb, fun _ => ⟨gs, 0, rfl, ks.lt, fun j o hj => ?_⟩, rfl, (by show (1 : Nat) ≤ maxLen; unfold maxLen; omega)⟩
  obtain ⟨p0, p1, p2, -⟩ := ks.three
  have hj0 : j = 0 := by
    rcases Nat.eq_zero_or_pos j with h | h
    · exact h
    · dsimp only [plainB] at hj
      rw [List.getElem?_eq_none (by simp; omega)] at hj; cases hj
  subst hj0
  obtain rfl : _ = o := by simpa [plainB] using hj
  exact ⟨⟨⟨some ⟨gd, 0, none⟩, m, cd⟩, ⟨some ⟨gx, 0, none⟩, m, cx⟩, ⟨some ⟨gn, 0, none⟩, 1, 1⟩⟩, p0, p1, p2,
    num, by simp, Nat.le_trans h0 hb, tru kx hx, by simp, Nat.le_trans h0 hb, bools_rep (m := 1) kn, rfl, (by show (1 : Nat) ≤ maxLen; unfold maxLen; omega)⟩
end
end Go.Proofs.Ytlkmipcenlhacaa
