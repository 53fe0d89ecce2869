/-
  Ones of package bits answers how many bits are 1, and 0 for bits that may not be. No condition but that the bytes can be read.
  All of package bits tells the places and bits, each place among those that there are. No condition but that the bytes can be read.
  Join of package bits answers as the document says, for all lists of bits. No condition but that the lists and the bytes can be read.
  Plain facts behind 'there and back': numbers in bits, bits turned twice, digits that are read, how many are 1. No condition but those that each theorem names.
-/
import Derived.Test.YtnmaelefcohogaaDoorQB
import Derived.Sort.LoopGhostIn
namespace Go.Proofs.YtnmaelefcohogaaDoor
open Go.RowKit Go.Shelf
attribute [local go_sem] Oper.semAt_some

/-- How many are 1. -/
def onesOf (l : List Bool) : Nat := l.countP (· == true)
theorem ones_snoc (pre : List (Nat × Bool)) (x : Nat × Bool) : onesOf ((pre ++ [x]).map (·.2)) = onesOf (pre.map (·.2)) + (if x.2 = true then 1 else 0) := by
  simp only [onesOf, List.map_append, List.countP_append, List.map_cons, List.map_nil, List.countP_singleton]
  cases x.2 <;> rfl
theorem ones_le (l : List Bool) : onesOf l ≤ l.length := List.countP_le_length

end Go.Proofs.YtnmaelefcohogaaDoor

namespace Go.Proofs.YtnmaelefcohogaaDoor
open Go.RowKit Go.Shelf
attribute [local go_sem] Oper.semAt_some

/-- A place among n, and a bit. -/
abbrev At (n : Nat) := { x : Nat × Bool // x.1 < n }
abbrev encS {n : Nat} (x : At n) : Array Value := #[Value.int .i64 (x.1.1 : Int), .bool x.1.2]
/-- A sequence that tells l, each place among its own. -/
abbrev TellsS (n gf : Nat) (lb : Array Value) (g ob : Nat) (l : List Bool) (w : World) : Prop :=
  SeqStopsK Fence.wide n Tryd.prog gf lb (encS (n := l.length)) (Keeps2 g ob) (fun ys => ys.map (·.1) = upto l l.length) (fun pre => ∃ k, k ≤ l.length ∧ pre.map (·.1) = upto l k) l.length w

/-- What All answers: a sequence that tells the truths. -/
def AllGivesS (w : World) (l : List Bool) (e : Ending) (w' : World) : Prop :=
  ∃ (gf : Nat) (lb : Array Value) (g ob : Nat), e = .returned (.func (.func gf) #[] lb) ∧ (∀ args w, (callFunc gf args).run Tryd.prog w = .ok (.enter gf args) w) ∧ (∀ n, 1 ≤ n → TellsS n gf lb g ob l w') ∧
    w.heap.size ≤ g ∧ w.heap.size ≤ ob ∧ g < w'.heap.size ∧ ob < w'.heap.size ∧ Below w.heap.size w w'

end Go.Proofs.YtnmaelefcohogaaDoor

namespace Go.Proofs.YtnmaelefcohogaaDoor
open Go.RowKit Go.Shelf
attribute [local go_sem] Oper.semAt_some

/-- Bits as a value: how many, and where their bytes lie. -/
structure BV where
  N : Int
  A : Option Addr
  n : Nat
  c : Nat
  bs : List UInt8
/-- The value's bytes can be read, in a block below n₀. -/
def BVok (n₀ : Nat) (W : World) (x : BV) : Prop := x.n = x.bs.length ∧ x.n ≤ maxLen ∧ Byt n₀ W x.A x.bs
theorem BVok.below {n₀ : Nat} {W W' : World} {x : BV} (h : BVok n₀ W x) (hb : Below n₀ W W') (hs : n₀ ≤ W'.heap.size) : BVok W'.heap.size W' x := ⟨h.1, h.2.1, (h.2.2.below hb).mono hs⟩
/-- The slice at X holds the bits xs, in a block below n₀ (nil or empty where there are none). -/
def BVs (n₀ : Nat) (W : World) (X : Option Addr) (xs : List BV) : Prop :=
  xs ≠ [] → ∃ b off, X = some ⟨b, off, none⟩ ∧ b < n₀ ∧ ∀ j x, xs[j]? = some x → W.cell? ⟨b, off + j * 2, none⟩ = some (.int .i64 x.N) ∧ W.cell? ⟨b, off + j * 2 + 1, none⟩ = some (.slice x.A x.n x.c)
theorem BVs.at_ {n₀ : Nat} {W W' : World} {X : Option Addr} {xs : List BV} (h : BVs n₀ W X xs) (hb : Below n₀ W W') {k : Nat} {x : BV} (hk : xs[k]? = some x) :
    ∃ b off, X = some ⟨b, off, none⟩ ∧ b < n₀ ∧ W'.cell? ⟨b, off + k * 2, none⟩ = some (.int .i64 x.N) ∧ W'.cell? ⟨b, off + k * 2 + 1, none⟩ = some (.slice x.A x.n x.c) := by
  obtain ⟨b, off, e, hlt, hc⟩ := h (by rintro rfl; simp at hk)
  obtain ⟨h1, h2⟩ := hc k x hk
  exact ⟨b, off, e, hlt, (hb.cell (p := ⟨b, off + k * 2, none⟩) hlt).trans h1, (hb.cell (p := ⟨b, off + k * 2 + 1, none⟩) hlt).trans h2⟩

/-- All behind each other. -/
def cat (xs : List BV) : List Bool := xs.flatMap fun x => lst x.N x.bs
def allGood (xs : List BV) : Bool := xs.all fun x => goodB x.N x.bs
/-- Join, by the document. -/
def joinS (xs : List BV) : Int × List Bool := if allGood xs = true then if 4096 < (cat xs).length then (3, []) else (0, cat xs) else (10, [])
theorem take_snoc_bv (xs : List BV) (k : Nat) (x : BV) (h : xs[k]? = some x) : xs.take (k + 1) = xs.take k ++ [x] := by
  rw [List.take_add_one, h]; rfl
theorem good_snoc (xs : List BV) (x : BV) : allGood (xs ++ [x]) = (allGood xs && goodB x.N x.bs) := by simp [allGood]
theorem good_not (xs : List BV) (k : Nat) (x : BV) (h : xs[k]? = some x) (hb : goodB x.N x.bs = false) : allGood xs = false := by
  unfold allGood
  rw [List.all_eq_false]
  exact ⟨x, List.mem_of_getElem? h, by simp [hb]⟩
theorem cat_snoc (xs : List BV) (x : BV) : cat (xs ++ [x]) = cat xs ++ lst x.N x.bs := by simp [cat]
theorem cat_take_le (xs : List BV) (k : Nat) : (cat (xs.take k)).length ≤ (cat xs).length := by
  have : cat xs = cat (xs.take k) ++ cat (xs.drop k) := by
    unfold cat; rw [← List.flatMap_append, List.take_append_drop]
  rw [this, List.length_append]; omega

/-! ### The marks that loops over sequences leave among a function's deferred calls -/
abbrev mark (D : Nat) : Deferred := { target := .collected D, args := #[] }
def Marks (B : Nat) (W : World) : List Nat → Prop
  | [] => True
  | D :: ds => (B ≤ D ∧ W.heap[D]? = some (.deferred (some [])) ∧ D ∉ ds) ∧ Marks B W ds
theorem Marks.kept {B : Nat} {W W' : World} : ∀ {ds : List Nat}, Marks B W ds → (∀ D ∈ ds, W'.heap[D]? = W.heap[D]?) → Marks B W' ds
  | [], _, _ => trivial
  | D :: ds, ⟨⟨h1, h2, h3⟩, h4⟩, hk => ⟨⟨h1, (hk D (by simp)).trans h2, h3⟩, h4.kept fun D' hD' => hk D' (by simp [hD'])⟩
theorem Marks.at_ {B : Nat} {W : World} : ∀ {ds : List Nat}, Marks B W ds → ∀ D ∈ ds, B ≤ D ∧ W.heap[D]? = some (.deferred (some []))
  | D :: ds, ⟨⟨h1, h2, _⟩, h4⟩, D', hD' => by
    rcases List.mem_cons.1 hD' with rfl | h
    · exact ⟨h1, h2⟩
    · exact h4.at_ D' h
theorem Marks.keeps {B : Nat} {W W' : World} {ds : List Nat} (h : Marks B W ds) (hk : KeepsOthers W W') : Marks B W' ds :=
  h.kept fun D hD => by
    have := (h.at_ D hD).2
    rw [hk.same D _ this rfl, this]
theorem Marks.grown {B : Nat} {W W' : World} {ds : List Nat} {row : Option Nat} (h : Marks B W ds) (hg : W.grownBy W' row) (hr : ∀ D ∈ ds, some D ≠ row) : Marks B W' ds :=
  h.kept fun D hD => hg.block D (Array.getElem?_eq_some_iff.1 (h.at_ D hD).2).1 (hr D hD)
theorem leaves_marks {B n : Nat} {fn : Func} {tmps : Array Value} {R : Ending → World → Prop} : ∀ {ds : List Nat} {W : World}, Marks B W ds → B ≤ W.heap.size →
    (∀ W', Below B W W' → ∃ v, (results fn tmps).run Tryd.prog W' = .ok v W' ∧ R (.returned v) W') → LeavesInM Fence.wide n Tryd.prog fn tmps R (ds.map mark) .returning W
  | [], W, _, _, h => h W (Below.refl _ _)
  | D :: ds, W, ⟨⟨h1, h2, h3⟩, h4⟩, hs, h => by
    have hg := grownBy_putObj' W D (.deferred none)
    refine ⟨by simp, .inl ⟨D, W.putObj D (.deferred none), rfl, run_takeDeferred h2, leaves_marks (h4.grown hg (fun D' hD' e => by injection e with e; subst e; exact h3 hD')) (Nat.le_trans hs hg.size) fun W' hB => h W' ?_⟩⟩
    exact ((Below.refl B W).grown hg hs (fun k e => by injection e with e; omega)).trans hB

/-- Bits under way while one string after the other is laid behind: what holds in each round. -/
structure JoinRel (w : World) (g ob m B : Nat) (T : List Bool) (cn : Nat) (ds : List Nat) (W : World) : Prop where
  len : ∃ bs, bs.length = m ∧ Blk W g 5 (encB bs) ∧ IsBits (paint T cn) bs
  box : Blk W ob 68 #[.int .i64 (T.length : Int), .slice (some ⟨g, 0, none⟩) m m]
  at_ : Boxed W (ob + 1) 3 (.int .i64 cn)
  res : Blk W w.heap.size 68 #[.int .i64 0, .slice none 0 0]
  low : Below w.heap.size w W
  marks : Marks B W ds
  size : B ≤ W.heap.size

/-- .. and what holds while one string is laid behind, bit by bit. -/
structure InnerRel (w : World) (g ob m B : Nat) (T : List Bool) (cn : Nat) (ds : List Nat) (bb : Nat) (bN bS : Value) (l : List Bool) (M : Nat) (pre : List (Nat × Bool)) (W : World) : Prop where
  len : ∃ bs, bs.length = m ∧ Blk W g 5 (encB bs) ∧ (pre = upto l pre.length → IsBits (paint T (cn + pre.length)) bs)
  box : Blk W ob 68 #[.int .i64 (T.length : Int), .slice (some ⟨g, 0, none⟩) m m]
  at_ : Boxed W (ob + 1) 3 (.int .i64 cn)
  res : Blk W w.heap.size 68 #[.int .i64 0, .slice none 0 0]
  low : Below w.heap.size w W
  marks : Marks B W ds
  bbox : Blk W bb 68 #[bN, bS]
  size : M ≤ W.heap.size
theorem InnerRel.kept {w : World} {g ob m B : Nat} {T : List Bool} {cn : Nat} {ds : List Nat} {bb : Nat} {bN bS : Value} {l : List Bool} {M : Nat} {pre : List (Nat × Bool)} {W W' : World} {row : Option Nat}
    (h : InnerRel w g ob m B T cn ds bb bN bS l M pre W) (hg : W.grownBy W' row) (hr : ∀ r, row = some r → M ≤ r) (h1 : g < M) (h2 : ob + 1 < M) (h3 : w.heap.size < M) (h4 : bb < M) (h5 : ∀ D ∈ ds, D < M) :
    InnerRel w g ob m B T cn ds bb bN bS l M pre W' := by
  have key : ∀ q, q < M → some q ≠ row := fun q hq e => by have := hr q e.symm; omega
  obtain ⟨bs, hb1, hb2, hb3⟩ := h.len
  exact ⟨⟨bs, hb1, hb2.grown hg (key _ h1), hb3⟩, h.box.grown hg (key _ (by omega)), h.at_.kept hg (key _ h2), h.res.grown hg (key _ h3), h.low.grown hg (by have := h.size; omega) (fun q e => by have := hr q e; omega), h.marks.grown hg (fun D hD => key D (h5 D hD)), h.bbox.grown hg (key _ h4), Nat.le_trans h.size hg.size⟩
theorem upto_snoc_inv {l : List Bool} {pre : List (Nat × Bool)} {x : Nat × Bool} (h : pre ++ [x] = upto l (pre ++ [x]).length) : pre = upto l pre.length ∧ x = (pre.length, l[pre.length]?.getD false) := by
  rw [List.length_append, List.length_singleton, upto_succ] at h
  have := List.append_inj' h rfl
  exact ⟨this.1, by simpa using this.2⟩
theorem InnerRel.turned {w : World} {g ob m B : Nat} {T : List Bool} {cn : Nat} {ds : List Nat} {bb : Nat} {bN bS : Value} {l : List Bool} {M : Nat} {pre : List (Nat × Bool)} {W W' : World} {bs : List UInt8} {i : Nat}
    (h : InnerRel w g ob m B T cn ds bb bN bS l M pre W) (hb1 : bs.length = m) (hb3 : pre = upto l pre.length → IsBits (paint T (cn + pre.length)) bs)
    (hr : Blk W' g 5 (encB (flipB bs (cn + i)))) (hg : W.grownBy W' (some g)) (hgc : ∃ cs, Blk W g 5 cs) (h2 : g ≠ ob ∧ g ≠ ob + 1 ∧ g ≠ w.heap.size ∧ g ≠ bb ∧ w.heap.size ≤ g)
    (hT : ∀ q, q < l.length → T[cn + q]?.getD false = l[q]?.getD false) (hlen : cn + l.length ≤ T.length) (hi : i < l.length) :
    InnerRel w g ob m B T cn ds bb bN bS l M (pre ++ [(i, true)]) W' := by
  obtain ⟨cs, hgc⟩ := hgc
  refine ⟨⟨_, by rw [flipB_length]; exact hb1, hr, fun hp => ?_⟩, h.box.grown hg (by simp; omega), h.at_.kept hg (by simp; omega), h.res.grown hg (by simp; omega), h.low.grown hg h.low.size (fun q e => by injection e with e; omega), h.marks.grown hg (fun D hD e => ?_), h.bbox.grown hg (by simp; omega), Nat.le_trans h.size hg.size⟩
  · obtain ⟨h1, h3⟩ := upto_snoc_inv hp
    injection h3 with h4 h5
    subst h4
    rw [List.length_append, List.length_singleton, ← Nat.add_assoc]
    exact paint_flip (hb3 h1) (by omega) (by rw [hT _ hi]; exact h5.symm)
  · injection e with e
    subst e
    have := (h.marks.at_ D hD).2
    rw [show W.heap[D]? = _ from hgc] at this
    cases this
theorem InnerRel.stayed {w : World} {g ob m B : Nat} {T : List Bool} {cn : Nat} {ds : List Nat} {bb : Nat} {bN bS : Value} {l : List Bool} {M : Nat} {pre : List (Nat × Bool)} {W : World} {i : Nat}
    (h : InnerRel w g ob m B T cn ds bb bN bS l M pre W)
    (hT : ∀ q, q < l.length → T[cn + q]?.getD false = l[q]?.getD false) (hlen : cn + l.length ≤ T.length) (hi : i < l.length) :
    InnerRel w g ob m B T cn ds bb bN bS l M (pre ++ [(i, false)]) W := by
  obtain ⟨bs, hb1, hb2, hb3⟩ := h.len
  refine ⟨⟨bs, hb1, hb2, fun hp => ?_⟩, h.box, h.at_, h.res, h.low, h.marks, h.bbox, h.size⟩
  obtain ⟨h1, h3⟩ := upto_snoc_inv hp
  injection h3 with h4 h5
  subst h4
  rw [List.length_append, List.length_singleton, ← Nat.add_assoc]
  exact paint_stay (hb3 h1) (by omega) (by rw [hT _ hi]; exact h5.symm)

end Go.Proofs.YtnmaelefcohogaaDoor

namespace Go.Proofs.YtnmaelefcohogaaDoor

theorem numBits_succ (v W : Nat) : numBits v (W + 1) = v.testBit W :: numBits v W := by
  unfold numBits
  rw [List.range_succ_eq_map, List.map_cons, List.map_map]
  congr 1
  apply List.map_congr_left
  intro i _
  show v.testBit (W + 1 - 1 - (i + 1)) = v.testBit (W - 1 - i)
  congr 1
  omega
theorem mod_pow_succ (x i : Nat) : x % 2 ^ (i + 1) = x % 2 ^ i + 2 ^ i * (x.testBit i).toNat := by
  rw [Nat.pow_succ, Nat.mod_mul, Nat.testBit_eq_decide_div_mod_eq]
  congr 2
  rcases Nat.mod_two_eq_zero_or_one (x / 2 ^ i) with h | h <;> rw [h] <;> rfl
theorem numBits_from (v W : Nat) : ∀ a : Nat, (numBits v W).foldl (fun a b => 2 * a + b.toNat) a = a * 2 ^ W + v % 2 ^ W := by
  induction W with
  | zero => intro a; simp [numBits, Nat.mod_one]
  | succ W ih =>
    intro a
    rw [numBits_succ, List.foldl_cons, ih, mod_pow_succ, Nat.pow_succ]
    rw [Nat.add_mul, Nat.mul_comm (2 ^ W) 2, ← Nat.mul_assoc, Nat.mul_comm a 2, Nat.mul_comm (2 ^ W) (v.testBit W).toNat]
    omega
theorem num_back (v W : Nat) (h : v / 2 ^ W = 0) : numOf (numBits v W) = v := by
  unfold numOf
  rw [numBits_from]
  have hp : 0 < 2 ^ W := Nat.pos_of_ne_zero (by simp)
  have hlt : v < 2 ^ W := by
    rcases Nat.lt_or_ge v (2 ^ W) with h1 | h1
    · exact h1
    · have := Nat.div_pos h1 hp; omega
  rw [Nat.mod_eq_of_lt hlt]; omega

theorem flip1_get (l : List Bool) (i : Int) (j : Nat) : (flip1 l i)[j]? = if i.toNat = j then (if j < l.length then some (!(l[j]?.getD false)) else none) else l[j]? := by
  unfold flip1
  rw [List.getElem?_set]
  by_cases e : i.toNat = j
  · subst e; simp
  · simp [e]
theorem flip1_twice (l : List Bool) (i : Int) : flip1 (flip1 l i) i = l := by
  apply List.ext_getElem?
  intro j
  rw [flip1_get, flip1_get, flip1_length]
  by_cases e : i.toNat = j
  · simp only [e, if_true]
    by_cases h : j < l.length
    · simp [h]
    · simp [h]
  · simp [e]
theorem flip1_comm (l : List Bool) (i j : Int) : flip1 (flip1 l i) j = flip1 (flip1 l j) i := by
  apply List.ext_getElem?
  intro q
  rw [flip1_get, flip1_get, flip1_get, flip1_get, flip1_length, flip1_length]
  by_cases e : i.toNat = q <;> by_cases e2 : j.toNat = q <;> simp [e, e2]
theorem flips_flip1 (zs : List Int) : ∀ (l : List Bool) (z : Int), flips (flip1 l z) zs = flip1 (flips l zs) z := by
  induction zs with
  | nil => intro l z; rfl
  | cons y zs ih =>
    intro l z
    show flips (flip1 (flip1 l z) y) zs = flip1 (flips (flip1 l y) zs) z
    rw [flip1_comm, ih]
theorem flips_twice (zs : List Int) : ∀ l : List Bool, flips (flips l zs) zs = l := by
  induction zs with
  | nil => intro l; rfl
  | cons z zs ih =>
    intro l
    show flips (flip1 (flips (flip1 l z) zs) z) zs = l
    rw [flips_flip1, ih, flip1_twice]

theorem text_back (l : List Bool) (h : l.length ≤ 4096) : parseS (textOf l).data.toList = (0, l) := by
  have e : (textOf l).data.toList = l.map dig := rfl
  have h1 : (l.map dig).all isDig = true := by
    rw [List.all_map, List.all_eq_true]
    intro b _
    cases b <;> rfl
  have h2 : (l.map dig).map (· == 49) = l := by
    rw [List.map_map]
    conv => rhs; rw [← List.map_id l]
    apply List.map_congr_left
    intro b _
    cases b <;> rfl
  unfold parseS
  rw [e, List.length_map, if_neg (by omega), h1, h2]
  rfl
theorem text_size (l : List Bool) : (textOf l).size = l.length := by
  show (l.map dig).toArray.size = _
  simp
theorem ones_append (l r : List Bool) : onesOf (l ++ r) = onesOf l + onesOf r := by simp [onesOf]

theorem put_zero {N : Int} {bs : List UInt8} {v : Nat} {width : Int} {R : Int × List Bool} (hR : R = putS N bs v width) (h : R.1 = 0) :
    goodB N bs = true ∧ 0 ≤ width ∧ width ≤ 64 ∧ v / 2 ^ width.toNat = 0 ∧ R.2 = listOf N bs ++ numBits v width.toNat := by
  subst hR
  unfold putS at h ⊢
  split at h
  · rename_i hg
    split at h
    · rename_i hw
      split at h
      · cases h
      · rename_i hl
        rw [if_pos hg, if_pos hw, if_neg hl]
        exact ⟨hg, hw.1.1, hw.1.2, hw.2, rfl⟩
    · cases h
  · cases h
theorem slice_more {l : List Bool} {bs : List UInt8} (h : IsBits l bs) (hl : l.length ≤ 4096) (f t : Nat) (hf : f ≤ t) (ht : t ≤ l.length) : sliceS l.length bs f t = (0, (l.drop f).take (t - f)) := by
  unfold sliceS
  rw [if_pos (isBits_good h hl), isBits_listOf h, if_pos ⟨by omega, by omega, by omega⟩, Int.toNat_natCast, Int.toNat_natCast]
theorem flip_zero {N : Int} {bs : List UInt8} {zs : List Int} {R : Int × List Bool} (hR : R = flipS N bs zs) (h : R.1 = 0) : goodB N bs = true ∧ okAt N zs = true ∧ R.2 = flips (listOf N bs) zs := by
  subst hR
  unfold flipS at h ⊢
  split at h
  · rename_i hg
    split at h
    · rename_i ho
      rw [if_pos hg, if_pos ho]
      exact ⟨hg, ho, rfl⟩
    · cases h
  · cases h
theorem flip_more {l : List Bool} {bs : List UInt8} (h : IsBits l bs) (hl : l.length ≤ 4096) (zs : List Int) (ho : okAt l.length zs = true) : flipS l.length bs zs = (0, flips l zs) := by
  unfold flipS
  rw [if_pos (isBits_good h hl), isBits_listOf h, if_pos ho]
theorem join_zero {xs : List BV} {R : Int × List Bool} (hR : R = joinS xs) (h : R.1 = 0) : allGood xs = true ∧ R.2 = cat xs := by
  subst hR
  unfold joinS at h ⊢
  split at h
  · rename_i hg
    split at h
    · cases h
    · rename_i hl
      rw [if_pos hg, if_neg hl]
      exact ⟨hg, rfl⟩
  · cases h
end Go.Proofs.YtnmaelefcohogaaDoor
