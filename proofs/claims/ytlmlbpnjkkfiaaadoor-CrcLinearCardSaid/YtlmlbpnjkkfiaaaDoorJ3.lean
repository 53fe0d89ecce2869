/-
  Join of package bits answers as the document says, for all lists of bits. No condition but that the lists and the bytes can be read.
-/
import Derived.Test.YtlmlbpnjkkfiaaaDoorJ2
import Derived.Sort.LoopGhostIn
namespace Go.Proofs.YtlmlbpnjkkfiaaaDoor
open Go.RowKit Go.Shelf
attribute [local go_sem] Oper.semAt_some

/-- Bits as a value: how many, and where their bytes lie. -/
structure BV where
  N : Int
  A : Option Addr
  n : Nat
  c : Nat
  bs : List UInt8
/-- The value's bytes can be read, in a block below n₀. -/
def BVok (n₀ : Nat) (W : World) (x : BV) : Prop := x.n = x.bs.length ∧ x.n ≤ maxLen ∧ Byt n₀ W x.A x.bs
theorem BVok.below {n₀ : Nat} {W W' : World} {x : BV} (h : BVok n₀ W x) (hb : Below n₀ W W') (hs : n₀ ≤ W'.heap.size) : BVok W'.heap.size W' x := ⟨h.1, h.2.1, (h.2.2.below hb).mono hs⟩
/-- The slice at X holds the bits xs, in a block below n₀ (nil or empty where there are none). -/
def BVs (n₀ : Nat) (W : World) (X : Option Addr) (xs : List BV) : Prop :=
  xs ≠ [] → ∃ b off, X = some ⟨b, off, none⟩ ∧ b < n₀ ∧ ∀ j x, xs[j]? = some x → W.cell? ⟨b, off + j * 2, none⟩ = some (.int .i64 x.N) ∧ W.cell? ⟨b, off + j * 2 + 1, none⟩ = some (.slice x.A x.n x.c)
theorem BVs.at_ {n₀ : Nat} {W W' : World} {X : Option Addr} {xs : List BV} (h : BVs n₀ W X xs) (hb : Below n₀ W W') {k : Nat} {x : BV} (hk : xs[k]? = some x) :
    ∃ b off, X = some ⟨b, off, none⟩ ∧ b < n₀ ∧ W'.cell? ⟨b, off + k * 2, none⟩ = some (.int .i64 x.N) ∧ W'.cell? ⟨b, off + k * 2 + 1, none⟩ = some (.slice x.A x.n x.c) := by
  obtain ⟨b, off, e, hlt, hc⟩ := h (by rintro rfl; simp at hk)
  obtain ⟨h1, h2⟩ := hc k x hk
  exact ⟨b, off, e, hlt, (hb.cell (p := ⟨b, off + k * 2, none⟩) hlt).trans h1, (hb.cell (p := ⟨b, off + k * 2 + 1, none⟩) hlt).trans h2⟩

/-- All behind each other. -/
def cat (xs : List BV) : List Bool := xs.flatMap fun x => lst x.N x.bs
def allGood (xs : List BV) : Bool := xs.all fun x => goodB x.N x.bs
/-- Join, by the document. -/
def joinS (xs : List BV) : Int × List Bool := if allGood xs = true then if 4096 < (cat xs).length then (3, []) else (0, cat xs) else (10, [])
theorem take_snoc_bv (xs : List BV) (k : Nat) (x : BV) (h : xs[k]? = some x) : xs.take (k + 1) = xs.take k ++ [x] := by
  rw [List.take_add_one, h]; rfl
theorem good_snoc (xs : List BV) (x : BV) : allGood (xs ++ [x]) = (allGood xs && goodB x.N x.bs) := by simp [allGood]
theorem good_not (xs : List BV) (k : Nat) (x : BV) (h : xs[k]? = some x) (hb : goodB x.N x.bs = false) : allGood xs = false := by
  unfold allGood
  rw [List.all_eq_false]
  exact ⟨x, List.mem_of_getElem? h, by simp [hb]⟩
theorem cat_snoc (xs : List BV) (x : BV) : cat (xs ++ [x]) = cat xs ++ lst x.N x.bs := by simp [cat]
theorem cat_take_le (xs : List BV) (k : Nat) : (cat (xs.take k)).length ≤ (cat xs).length := by
  have : cat xs = cat (xs.take k) ++ cat (xs.drop k) := by
    unfold cat; rw [← List.flatMap_append, List.take_append_drop]
  rw [this, List.length_append]; omega

/-! ### The marks that loops over sequences leave among a function's deferred calls -/
abbrev mark (D : Nat) : Deferred := { target := .collected D, args := #[] }
def Marks (B : Nat) (W : World) : List Nat → Prop
  | [] => True
  | D :: ds => (B ≤ D ∧ W.heap[D]? = some (.deferred (some [])) ∧ D ∉ ds) ∧ Marks B W ds
theorem Marks.kept {B : Nat} {W W' : World} : ∀ {ds : List Nat}, Marks B W ds → (∀ D ∈ ds, W'.heap[D]? = W.heap[D]?) → Marks B W' ds
  | [], _, _ => trivial
  | D :: ds, ⟨⟨h1, h2, h3⟩, h4⟩, hk => ⟨⟨h1, (hk D (by simp)).trans h2, h3⟩, h4.kept fun D' hD' => hk D' (by simp [hD'])⟩
theorem Marks.at_ {B : Nat} {W : World} : ∀ {ds : List Nat}, Marks B W ds → ∀ D ∈ ds, B ≤ D ∧ W.heap[D]? = some (.deferred (some []))
  | D :: ds, ⟨⟨h1, h2, _⟩, h4⟩, D', hD' => by
    rcases List.mem_cons.1 hD' with rfl | h
    · exact ⟨h1, h2⟩
    · exact h4.at_ D' h
theorem Marks.keeps {B : Nat} {W W' : World} {ds : List Nat} (h : Marks B W ds) (hk : KeepsOthers W W') : Marks B W' ds :=
  h.kept fun D hD => by
    have := (h.at_ D hD).2
    rw [hk.same D _ this rfl, this]
theorem Marks.grown {B : Nat} {W W' : World} {ds : List Nat} {row : Option Nat} (h : Marks B W ds) (hg : W.grownBy W' row) (hr : ∀ D ∈ ds, some D ≠ row) : Marks B W' ds :=
  h.kept fun D hD => hg.block D (Array.getElem?_eq_some_iff.1 (h.at_ D hD).2).1 (hr D hD)
theorem leaves_marks {B n : Nat} {fn : Func} {tmps : Array Value} {R : Ending → World → Prop} : ∀ {ds : List Nat} {W : World}, Marks B W ds → B ≤ W.heap.size →
    (∀ W', Below B W W' → ∃ v, (results fn tmps).run Tryd.prog W' = .ok v W' ∧ R (.returned v) W') → LeavesInM Fence.wide n Tryd.prog fn tmps R (ds.map mark) .returning W
  | [], W, _, _, h => h W (Below.refl _ _)
  | D :: ds, W, ⟨⟨h1, h2, h3⟩, h4⟩, hs, h => by
    have hg := grownBy_putObj' W D (.deferred none)
    refine ⟨by simp, .inl ⟨D, W.putObj D (.deferred none), rfl, run_takeDeferred h2, leaves_marks (h4.grown hg (fun D' hD' e => by injection e with e; subst e; exact h3 hD')) (Nat.le_trans hs hg.size) fun W' hB => h W' ?_⟩⟩
    exact ((Below.refl B W).grown hg hs (fun k e => by injection e with e; omega)).trans hB

/-- Bits under way while one string after the other is laid behind: what holds in each round. -/
structure JoinRel (w : World) (g ob m B : Nat) (T : List Bool) (cn : Nat) (ds : List Nat) (W : World) : Prop where
  len : ∃ bs, bs.length = m ∧ Blk W g 5 (encB bs) ∧ IsBits (paint T cn) bs
  box : Blk W ob 32 #[.int .i64 (T.length : Int), .slice (some ⟨g, 0, none⟩) m m]
  at_ : Boxed W (ob + 1) 3 (.int .i64 cn)
  res : Blk W w.heap.size 32 #[.int .i64 0, .slice none 0 0]
  low : Below w.heap.size w W
  marks : Marks B W ds
  size : B ≤ W.heap.size

/-- .. and what holds while one string is laid behind, bit by bit. -/
structure InnerRel (w : World) (g ob m B : Nat) (T : List Bool) (cn : Nat) (ds : List Nat) (bb : Nat) (bN bS : Value) (l : List Bool) (M : Nat) (pre : List (Nat × Bool)) (W : World) : Prop where
  len : ∃ bs, bs.length = m ∧ Blk W g 5 (encB bs) ∧ (pre = upto l pre.length → IsBits (paint T (cn + pre.length)) bs)
  box : Blk W ob 32 #[.int .i64 (T.length : Int), .slice (some ⟨g, 0, none⟩) m m]
  at_ : Boxed W (ob + 1) 3 (.int .i64 cn)
  res : Blk W w.heap.size 32 #[.int .i64 0, .slice none 0 0]
  low : Below w.heap.size w W
  marks : Marks B W ds
  bbox : Blk W bb 32 #[bN, bS]
  size : M ≤ W.heap.size
theorem InnerRel.kept {w : World} {g ob m B : Nat} {T : List Bool} {cn : Nat} {ds : List Nat} {bb : Nat} {bN bS : Value} {l : List Bool} {M : Nat} {pre : List (Nat × Bool)} {W W' : World} {row : Option Nat}
    (h : InnerRel w g ob m B T cn ds bb bN bS l M pre W) (hg : W.grownBy W' row) (hr : ∀ r, row = some r → M ≤ r) (h1 : g < M) (h2 : ob + 1 < M) (h3 : w.heap.size < M) (h4 : bb < M) (h5 : ∀ D ∈ ds, D < M) :
    InnerRel w g ob m B T cn ds bb bN bS l M pre W' := by
  have key : ∀ q, q < M → some q ≠ row := fun q hq e => by have := hr q e.symm; omega
  obtain ⟨bs, hb1, hb2, hb3⟩ := h.len
  exact ⟨⟨bs, hb1, hb2.grown hg (key _ h1), hb3⟩, h.box.grown hg (key _ (by omega)), h.at_.kept hg (key _ h2), h.res.grown hg (key _ h3), h.low.grown hg (by have := h.size; omega) (fun q e => by have := hr q e; omega), h.marks.grown hg (fun D hD => key D (h5 D hD)), h.bbox.grown hg (key _ h4), Nat.le_trans h.size hg.size⟩
theorem upto_snoc_inv {l : List Bool} {pre : List (Nat × Bool)} {x : Nat × Bool} (h : pre ++ [x] = upto l (pre ++ [x]).length) : pre = upto l pre.length ∧ x = (pre.length, l[pre.length]?.getD false) := by
  rw [List.length_append, List.length_singleton, upto_succ] at h
  have := List.append_inj' h rfl
  exact ⟨this.1, by simpa using this.2⟩
theorem InnerRel.turned {w : World} {g ob m B : Nat} {T : List Bool} {cn : Nat} {ds : List Nat} {bb : Nat} {bN bS : Value} {l : List Bool} {M : Nat} {pre : List (Nat × Bool)} {W W' : World} {bs : List UInt8} {i : Nat}
    (h : InnerRel w g ob m B T cn ds bb bN bS l M pre W) (hb1 : bs.length = m) (hb3 : pre = upto l pre.length → IsBits (paint T (cn + pre.length)) bs)
    (hr : Blk W' g 5 (encB (flipB bs (cn + i)))) (hg : W.grownBy W' (some g)) (hgc : ∃ cs, Blk W g 5 cs) (h2 : g ≠ ob ∧ g ≠ ob + 1 ∧ g ≠ w.heap.size ∧ g ≠ bb ∧ w.heap.size ≤ g)
    (hT : ∀ q, q < l.length → T[cn + q]?.getD false = l[q]?.getD false) (hlen : cn + l.length ≤ T.length) (hi : i < l.length) :
    InnerRel w g ob m B T cn ds bb bN bS l M (pre ++ [(i, true)]) W' := by
  obtain ⟨cs, hgc⟩ := hgc
  refine ⟨⟨_, by rw [flipB_length]; exact hb1, hr, fun hp => ?_⟩, h.box.grown hg (by simp; omega), h.at_.kept hg (by simp; omega), h.res.grown hg (by simp; omega), h.low.grown hg h.low.size (fun q e => by injection e with e; omega), h.marks.grown hg (fun D hD e => ?_), h.bbox.grown hg (by simp; omega), Nat.le_trans h.size hg.size⟩
  · obtain ⟨h1, h3⟩ := upto_snoc_inv hp
    injection h3 with h4 h5
    subst h4
    rw [List.length_append, List.length_singleton, ← Nat.add_assoc]
    exact paint_flip (hb3 h1) (by omega) (by rw [hT _ hi]; exact h5.symm)
  · injection e with e
    subst e
    have := (h.marks.at_ D hD).2
    rw [show W.heap[D]? = _ from hgc] at this
    cases this
theorem InnerRel.stayed {w : World} {g ob m B : Nat} {T : List Bool} {cn : Nat} {ds : List Nat} {bb : Nat} {bN bS : Value} {l : List Bool} {M : Nat} {pre : List (Nat × Bool)} {W : World} {i : Nat}
    (h : InnerRel w g ob m B T cn ds bb bN bS l M pre W)
    (hT : ∀ q, q < l.length → T[cn + q]?.getD false = l[q]?.getD false) (hlen : cn + l.length ≤ T.length) (hi : i < l.length) :
    InnerRel w g ob m B T cn ds bb bN bS l M (pre ++ [(i, false)]) W := by
  obtain ⟨bs, hb1, hb2, hb3⟩ := h.len
  refine ⟨⟨bs, hb1, hb2, fun hp => ?_⟩, h.box, h.at_, h.res, h.low, h.marks, h.bbox, h.size⟩
  obtain ⟨h1, h3⟩ := upto_snoc_inv hp
  injection h3 with h4 h5
  subst h4
  rw [List.length_append, List.length_singleton, ← Nat.add_assoc]
  exact paint_stay (hb3 h1) (by omega) (by rw [hT _ hi]; exact h5.symm)

end Go.Proofs.YtlmlbpnjkkfiaaaDoor
