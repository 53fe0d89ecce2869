/-
  Join of package bits answers as the document says, for all lists of bits. No condition but that the lists and the bytes can be read.
-/
import Derived.Test.YtkiijnhpegbpnaaJ2
import Derived.Sort.LoopGhostIn
namespace Go.Proofs.Ytkiijnhpegbpnaa
open Go.RowKit Go.Shelf
attribute [local go_sem] Oper.semAt_some

/-- Bits as a value: how many, and where their bytes lie. -/
structure BV where
  N : Int
  A : Option Addr
  n : Nat
  c : Nat
  bs : List UInt8
/-- The value's bytes can be read, in a block below n₀. -/
def BVok (n₀ : Nat) (W : World) (x : BV) : Prop := x.n = x.bs.length ∧ x.n ≤ maxLen ∧ Byt n₀ W x.A x.bs
theorem BVok.below {n₀ : Nat} {W W' : World} {x : BV} (h : BVok n₀ W x) (hb : Below n₀ W W') (hs : n₀ ≤ W'.heap.size) : BVok W'.heap.size W' x := ⟨h.1, h.2.1, (h.2.2.below hb).mono hs⟩
/-- The slice at X holds the bits xs, in a block below n₀ (nil or empty where there are none). -/
def BVs (n₀ : Nat) (W : World) (X : Option Addr) (xs : List BV) : Prop :=
  xs ≠ [] → ∃ b off, X = some ⟨b, off, none⟩ ∧ b < n₀ ∧ ∀ j x, xs[j]? = some x → W.cell? ⟨b, off + j * 2, none⟩ = some (.int .i64 x.N) ∧ W.cell? ⟨b, off + j * 2 + 1, none⟩ = some (.slice x.A x.n x.c)
theorem BVs.at_ {n₀ : Nat} {W W' : World} {X : Option Addr} {xs : List BV} (h : BVs n₀ W X xs) (hb : Below n₀ W W') {k : Nat} {x : BV} (hk : xs[k]? = some x) :
    ∃ b off, X = some ⟨b, off, none⟩ ∧ b < n₀ ∧ W'.cell? ⟨b, off + k * 2, none⟩ = some (.int .i64 x.N) ∧ W'.cell? ⟨b, off + k * 2 + 1, none⟩ = some (.slice x.A x.n x.c) := by
  obtain ⟨b, off, e, hlt, hc⟩ := h (by rintro rfl; simp at hk)
  obtain ⟨h1, h2⟩ := hc k x hk
  exact ⟨b, off, e, hlt, (hb.cell (p := ⟨b, off + k * 2, none⟩) hlt).trans h1, (hb.cell (p := ⟨b, off + k * 2 + 1, none⟩) hlt).trans h2⟩

/-- All behind each other. -/
def cat (xs : List BV) : List Bool := xs.flatMap fun x => lst x.N x.bs
def allGood (xs : List BV) : Bool := xs.all fun x => goodB x.N x.bs
/-- Join, by the document. -/
def joinS (xs : List BV) : Int × List Bool := if allGood xs = true then if 4096 < (cat xs).length then (3, []) else (0, cat xs) else (10, [])
theorem take_snoc_bv (xs : List BV) (k : Nat) (x : BV) (h : xs[k]? = some x) : xs.take (k + 1) = xs.take k ++ [x] := by
  rw [List.take_add_one, h]; rfl
theorem good_snoc (xs : List BV) (x : BV) : allGood (xs ++ [x]) = (allGood xs && goodB x.N x.bs) := by simp [allGood]
theorem good_not (xs : List BV) (k : Nat) (x : BV) (h : xs[k]? = some x) (hb : goodB x.N x.bs = false) : allGood xs = false := by
  unfold allGood
  rw [List.all_eq_false]
  exact ⟨x, List.mem_of_getElem? h, by simp [hb]⟩
theorem cat_snoc (xs : List BV) (x : BV) : cat (xs ++ [x]) = cat xs ++ lst x.N x.bs := by simp [cat]
theorem cat_take_le (xs : List BV) (k : Nat) : (cat (xs.take k)).length ≤ (cat xs).length := by
  have : cat xs = cat (xs.take k) ++ cat (xs.drop k) := by
    unfold cat; rw [← List.flatMap_append, List.take_append_drop]
  rw [this, List.length_append]; omega

/-! ### The marks that loops over sequences leave among a function's deferred calls -/
abbrev mark (D : Nat) : Deferred := { target := .collected D, args := #[] }
def Marks (B : Nat) (W : World) : List Nat → Prop
  | [] => True
  | D :: ds => (B ≤ D ∧ W.heap[D]? = some (.deferred (some [])) ∧ D ∉ ds) ∧ Marks B W ds
theorem Marks.kept {B : Nat} {W W' : World} : ∀ {ds : List Nat}, Marks B W ds → (∀ D ∈ ds, W'.heap[D]? = W.heap[D]?) → Marks B W' ds
  | [], _, _ => trivial
  | D :: ds, ⟨⟨h1, h2, h3⟩, h4⟩, hk => ⟨⟨h1, (hk D (by simp)).trans h2, h3⟩, h4.kept fun D' hD' => hk D' (by simp [hD'])⟩
theorem Marks.at_ {B : Nat} {W : World} : ∀ {ds : List Nat}, Marks B W ds → ∀ D ∈ ds, B ≤ D ∧ W.heap[D]? = some (.deferred (some []))
  | D :: ds, ⟨⟨h1, h2, _⟩, h4⟩, D', hD' => by
    rcases List.mem_cons.1 hD' with rfl | h
    · exact ⟨h1, h2⟩
    · exact h4.at_ D' h
theorem Marks.keeps {B : Nat} {W W' : World} {ds : List Nat} (h : Marks B W ds) (hk : KeepsOthers W W') : Marks B W' ds :=
  h.kept fun D hD => by
    have := (h.at_ D hD).2
    rw [hk.same D _ this rfl, this]
theorem Marks.grown {B : Nat} {W W' : World} {ds : List Nat} {row : Option Nat} (h : Marks B W ds) (hg : W.grownBy W' row) (hr : ∀ D ∈ ds, some D ≠ row) : Marks B W' ds :=
  h.kept fun D hD => hg.block D (Array.getElem?_eq_some_iff.1 (h.at_ D hD).2).1 (hr D hD)
theorem leaves_marks {B n : Nat} {fn : Func} {tmps : Array Value} {R : Ending → World → Prop} : ∀ {ds : List Nat} {W : World}, Marks B W ds → B ≤ W.heap.size →
    (∀ W', Below B W W' → ∃ v, (results fn tmps).run Try.prog W' = .ok v W' ∧ R (.returned v) W') → LeavesInM Fence.wide n Try.prog fn tmps R (ds.map mark) .returning W
  | [], W, _, _, h => h W (Below.refl _ _)
  | D :: ds, W, ⟨⟨h1, h2, h3⟩, h4⟩, hs, h => by
    have hg := grownBy_putObj' W D (.deferred none)
    refine ⟨by simp, .inl ⟨D, W.putObj D (.deferred none), rfl, run_takeDeferred h2, leaves_marks (h4.grown hg (fun D' hD' e => by injection e with e; subst e; exact h3 hD')) (Nat.le_trans hs hg.size) fun W' hB => h W' ?_⟩⟩
    exact ((Below.refl B W).grown hg hs (fun k e => by injection e with e; omega)).trans hB

/-- Bits under way while one string after the other is laid behind: what holds in each round. -/
structure JoinRel (w : World) (g ob m B : Nat) (T : List Bool) (cn : Nat) (ds : List Nat) (W : World) : Prop where
  len : ∃ bs, bs.length = m ∧ Blk W g 5 (encB bs) ∧ IsBits (paint T cn) bs
  box : Blk W ob 24 #[.int .i64 (T.length : Int), .slice (some ⟨g, 0, none⟩) m m]
  at_ : Boxed W (ob + 1) 3 (.int .i64 cn)
  res : Blk W w.heap.size 24 #[.int .i64 0, .slice none 0 0]
  low : Below w.heap.size w W
  marks : Marks B W ds
  size : B ≤ W.heap.size

/-- .. and what holds while one string is laid behind, bit by bit. -/
structure InnerRel (w : World) (g ob m B : Nat) (T : List Bool) (cn : Nat) (ds : List Nat) (bb : Nat) (bN bS : Value) (l : List Bool) (M : Nat) (pre : List (Nat × Bool)) (W : World) : Prop where
  len : ∃ bs, bs.length = m ∧ Blk W g 5 (encB bs) ∧ (pre = upto l pre.length → IsBits (paint T (cn + pre.length)) bs)
  box : Blk W ob 24 #[.int .i64 (T.length : Int), .slice (some ⟨g, 0, none⟩) m m]
  at_ : Boxed W (ob + 1) 3 (.int .i64 cn)
  res : Blk W w.heap.size 24 #[.int .i64 0, .slice none 0 0]
  low : Below w.heap.size w W
  marks : Marks B W ds
  bbox : Blk W bb 24 #[bN, bS]
  size : M ≤ W.heap.size
theorem InnerRel.kept {w : World} {g ob m B : Nat} {T : List Bool} {cn : Nat} {ds : List Nat} {bb : Nat} {bN bS : Value} {l : List Bool} {M : Nat} {pre : List (Nat × Bool)} {W W' : World} {row : Option Nat}
    (h : InnerRel w g ob m B T cn ds bb bN bS l M pre W) (hg : W.grownBy W' row) (hr : ∀ r, row = some r → M ≤ r) (h1 : g < M) (h2 : ob + 1 < M) (h3 : w.heap.size < M) (h4 : bb < M) (h5 : ∀ D ∈ ds, D < M) :
    InnerRel w g ob m B T cn ds bb bN bS l M pre W' := by
  have key : ∀ q, q < M → some q ≠ row := fun q hq e => by have := hr q e.symm; omega
  obtain ⟨bs, hb1, hb2, hb3⟩ := h.len
  exact ⟨⟨bs, hb1, hb2.grown hg (key _ h1), hb3⟩, h.box.grown hg (key _ (by omega)), h.at_.kept hg (key _ h2), h.res.grown hg (key _ h3), h.low.grown hg (by have := h.size; omega) (fun q e => by have := hr q e; omega), h.marks.grown hg (fun D hD => key D (h5 D hD)), h.bbox.grown hg (key _ h4), Nat.le_trans h.size hg.size⟩
theorem upto_snoc_inv {l : List Bool} {pre : List (Nat × Bool)} {x : Nat × Bool} (h : pre ++ [x] = upto l (pre ++ [x]).length) : pre = upto l pre.length ∧ x = (pre.length, l[pre.length]?.getD false) := by
  rw [List.length_append, List.length_singleton, upto_succ] at h
  have := List.append_inj' h rfl
  exact ⟨this.1, by simpa using this.2⟩
theorem InnerRel.turned {w : World} {g ob m B : Nat} {T : List Bool} {cn : Nat} {ds : List Nat} {bb : Nat} {bN bS : Value} {l : List Bool} {M : Nat} {pre : List (Nat × Bool)} {W W' : World} {bs : List UInt8} {i : Nat}
    (h : InnerRel w g ob m B T cn ds bb bN bS l M pre W) (hb1 : bs.length = m) (hb3 : pre = upto l pre.length → IsBits (paint T (cn + pre.length)) bs)
    (hr : Blk W' g 5 (encB (flipB bs (cn + i)))) (hg : W.grownBy W' (some g)) (hgc : ∃ cs, Blk W g 5 cs) (h2 : g ≠ ob ∧ g ≠ ob + 1 ∧ g ≠ w.heap.size ∧ g ≠ bb ∧ w.heap.size ≤ g)
    (hT : ∀ q, q < l.length → T[cn + q]?.getD false = l[q]?.getD false) (hlen : cn + l.length ≤ T.length) (hi : i < l.length) :
    InnerRel w g ob m B T cn ds bb bN bS l M (pre ++ [(i, true)]) W' := by
  obtain ⟨cs, hgc⟩ := hgc
  refine ⟨⟨_, by rw [flipB_length]; exact hb1, hr, fun hp => ?_⟩, h.box.grown hg (by simp; omega), h.at_.kept hg (by simp; omega), h.res.grown hg (by simp; omega), h.low.grown hg h.low.size (fun q e => by injection e with e; omega), h.marks.grown hg (fun D hD e => ?_), h.bbox.grown hg (by simp; omega), Nat.le_trans h.size hg.size⟩
  · obtain ⟨h1, h3⟩ := upto_snoc_inv hp
    injection h3 with h4 h5
    subst h4
    rw [List.length_append, List.length_singleton, ← Nat.add_assoc]
    exact paint_flip (hb3 h1) (by omega) (by rw [hT _ hi]; exact h5.symm)
  · injection e with e
    subst e
    have := (h.marks.at_ D hD).2
    rw [show W.heap[D]? = _ from hgc] at this
    cases this
theorem InnerRel.stayed {w : World} {g ob m B : Nat} {T : List Bool} {cn : Nat} {ds : List Nat} {bb : Nat} {bN bS : Value} {l : List Bool} {M : Nat} {pre : List (Nat × Bool)} {W : World} {i : Nat}
    (h : InnerRel w g ob m B T cn ds bb bN bS l M pre W)
    (hT : ∀ q, q < l.length → T[cn + q]?.getD false = l[q]?.getD false) (hlen : cn + l.length ≤ T.length) (hi : i < l.length) :
    InnerRel w g ob m B T cn ds bb bN bS l M (pre ++ [(i, false)]) W := by
  obtain ⟨bs, hb1, hb2, hb3⟩ := h.len
  refine ⟨⟨bs, hb1, hb2, fun hp => ?_⟩, h.box, h.at_, h.res, h.low, h.marks, h.bbox, h.size⟩
  obtain ⟨h1, h3⟩ := upto_snoc_inv hp
  injection h3 with h4 h5
  subst h4
  rw [List.length_append, List.length_singleton, ← Nat.add_assoc]
  exact paint_stay (hb3 h1) (by omega) (by rw [hT _ hi]; exact h5.symm)

set_option maxRecDepth 100000 in
set_option maxHeartbeats 2000000 in
theorem join_any (X : Option Addr) (xn xc : Nat) (xs : List BV) (w : World) (hxn : xn = xs.length) (hxm : xn ≤ maxLen) (hX : BVs w.heap.size w X xs) (hok : ∀ x ∈ xs, BVok w.heap.size w x) :
    Calls Try.prog 27 #[.slice X xn xc] w (Res w (joinS xs)) := by
  unfold maxLen at hxm
  have HXN := Lib.hid hxn; have HX := Lib.hid hX; have HOK := Lib.hid hok; clear hxn hX hok
  obtain ⟨R, hR⟩ : ∃ R, R = joinS xs := ⟨_, rfl⟩
  rw [← hR]
  have HR := Lib.hid hR; clear hR
  refine (callsIn_wide (n := 5)).1 ?_
  refine callsIn_of_wp_marks Try.func27 rfl trivial ?_ rfl
  simp only [Try.ntmps27, List.size_toArray, List.length_cons, List.length_nil, Nat.reduceAdd, Nat.reduceSub, Array.replicate_succ, Array.replicate_zero, List.push_toArray, List.append_toArray, List.nil_append, List.cons_append]
  gi_wp2
  gi_loopw [17] (fun i wr => ∃ k : Nat, k ≤ xn ∧ i = .int .i64 k ∧ allGood (xs.take k) = true ∧ Blk wr w.heap.size 24 #[.int .i64 0, .slice none 0 0] ∧ Below w.heap.size w wr)
    (fun i _ => xn - (intOf i).toNat)
  case atStart => exact ⟨0, by omega, rfl, rfl, Blk.new w 24 _, (Below.refl _ _).alloc (Nat.le_refl _) _⟩
  case round =>
    obtain ⟨k, hk, rfl, hall, q1, hBr⟩ := hrel
    have HALL := Lib.hid hall; clear hall
    obtain ⟨c1, c2, f1, f2⟩ := q1.two
    have hlw := q1.lt
    by_cases hlt : k < xn
    · obtain ⟨x, hx⟩ : ∃ x, xs[k]? = some x := ⟨_, List.getElem?_eq_getElem (by have := HXN.out; omega)⟩
      obtain ⟨b, off, rfl, hbl, hc0, hc1⟩ := HX.out.at_ hBr hx
      have hts := take_snoc_bv xs k x hx
      have hgs := good_snoc (xs.take k) x
      rw [← hts] at hgs
      have hgn := good_not xs k x hx
      have hBa := fun o => hBr.alloc hBr.size o
      have hck := fun (o : Obj) => check_any x.N x.A x.n x.c x.bs (wr.alloc o) ((HOK.out x (List.mem_of_getElem? hx)).1) ((HOK.out x (List.mem_of_getElem? hx)).2.1) (((HOK.out x (List.mem_of_getElem? hx)).2.2.below (hBa o)).mono (hBa o).size)
      by_cases hgx : goodB x.N x.bs = true
      · rw [chk_yes hgx] at hck
        rw [hgx, HALL.out] at hgs
        have HCK := Lib.hid hck; have HGS := Lib.hid hgs
        clear hck hgs hgn hgx hts hx hBa
        gi_wp2_with (refine ⟨trivial, ?_⟩; gi_at_call 14; refine (callsIn_wide.2 (HCK.out _)).mono ?_; rintro e w2 ⟨rfl, hB2⟩; have q2 := (q1.alloc (.cells #[.int .i64 x.N, .slice x.A x.n x.c] 24)).below hB2 (by simp; omega))
        go_roundw
        case rel => exact ⟨k + 1, by omega, by go_num, HGS.out, q2, (hBr.alloc hBr.size _).trans (hB2.mono (by have := hBr.size; simp; omega))⟩
        case measure => simp [intOf]; omega
      · rw [chk_no (by simpa using hgx)] at hck
        have hr := hgn (by simpa using hgx)
        have HCK := Lib.hid hck; have HG := Lib.hid hr
        clear hck hgs hgn hgx hts hx hBa hr
        gi_wp2_with (refine ⟨trivial, ?_⟩; gi_at_call 14; refine (callsIn_wide.2 (HCK.out _)).mono ?_; rintro e w2 ⟨rfl, hB2⟩; have q2 := (q1.alloc (.cells #[.int .i64 x.N, .slice x.A x.n x.c] 24)).below hB2 (by simp; omega); obtain ⟨d1, d2, e1, e2⟩ := q2.two; have hlw2 := q2.lt)
        rw [HR.out, show joinS xs = (10, []) by unfold joinS; rw [HG.out]; rfl]
        exact ⟨.tuple #[.agg #[.int .i64 0, .slice none 0 0], .int .i64 10], by simp [results, Try.results27, go_sem, d1, d2], res_err 10 ((((hBr.alloc hBr.size _).trans (hB2.mono (by have := hBr.size; simp; omega))).setCell (p := ⟨w.heap.size, 0, none⟩) (by simp) _).setCell (p := ⟨w.heap.size, 1, none⟩) (by simp) _)⟩
    · have hgood := HALL.out
      rw [List.take_of_length_le (by have := HXN.out; omega)] at hgood
      have HGD := Lib.hid hgood; clear hgood
      gi_wp2
      gi_loopw [6, 28] (fun nv i wr2 => ∃ k : Nat, k ≤ xn ∧ i = .int .i64 k ∧ nv = .int .i64 ((cat (xs.take k)).length : Int) ∧ (cat (xs.take k)).length ≤ 4096 ∧ Blk wr2 w.heap.size 24 #[.int .i64 0, .slice none 0 0] ∧ Below w.heap.size w wr2)
        (fun _ i _ => xn - (intOf i).toNat)
      case atStart => exact ⟨0, by omega, rfl, rfl, by simp [cat], q1, hBr⟩
      case round =>
        clear c1 c2 f1 f2 q1 hBr hlw HALL hlt hk
        obtain ⟨k2, hk, rfl, rfl, hle, q1, hBr⟩ := hrel
        obtain ⟨c1, c2, f1, f2⟩ := q1.two
        have hlw := q1.lt
        by_cases hlt : k2 < xn
        · obtain ⟨x, hx⟩ : ∃ x, xs[k2]? = some x := ⟨_, List.getElem?_eq_getElem (by have := HXN.out; omega)⟩
          obtain ⟨b, off, rfl, hbl, hc0, hc1⟩ := HX.out.at_ hBr hx
          have hts := take_snoc_bv xs k2 x hx
          have hcs := cat_snoc (xs.take k2) x
          rw [← hts] at hcs
          have hgx : goodB x.N x.bs = true := by
            have := HGD.out; unfold allGood at this; rw [List.all_eq_true] at this; exact this x (List.mem_of_getElem? hx)
          have hlx : ((lst x.N x.bs).length : Int) = x.N := by unfold lst; rw [if_pos hgx]; exact good_length hgx
          have hcl : ((cat (xs.take (k2 + 1))).length : Int) = ((cat (xs.take k2)).length : Int) + x.N := by rw [hcs, List.length_append]; omega
          have hct := cat_take_le xs (k2 + 1)
          have hx0 : 0 ≤ x.N := by omega
          have hx1 : x.N ≤ 4096 := by have := lst_length x.N x.bs; omega
          generalize (cat (xs.take k2)).length = cn at *
          have HCL := Lib.hid hcl; clear hcl
          clear hcs hts hgx hlx hx
          by_cases hlong : 4096 - (cn : Int) < x.N
          · gi_wp2
            rw [HR.out, show joinS xs = (3, []) by unfold joinS; rw [HGD.out, if_pos rfl, if_pos (by have := HCL.out; omega)]]
            have hq : Blk (((wr.setCell ⟨w.heap.size, 0, none⟩ (.int .i64 0)).setCell ⟨w.heap.size, 1, none⟩ (.slice none 0 0)).alloc (.cells #[.int .i64 x.N, .slice x.A x.n x.c] 24)) w.heap.size 24 #[.int .i64 0, .slice none 0 0] := (q1.put2 _ _).alloc _
            obtain ⟨d1, d2, _, _⟩ := hq.two
            exact ⟨.tuple #[.agg #[.int .i64 0, .slice none 0 0], .int .i64 3], by simp [results, Try.results27, go_sem, d1, d2], res_err 3 ((((hBr.setCell (p := ⟨w.heap.size, 0, none⟩) (by simp) _).setCell (p := ⟨w.heap.size, 1, none⟩) (by simp) _)).alloc (by have := hBr.size; simp; omega) _)⟩
          · gi_wp2
            go_roundw
            case rel => exact ⟨k2 + 1, by omega, by go_num, by rw [HCL.out], by have := HCL.out; omega, q1.alloc _, hBr.alloc hBr.size _⟩
            case measure => simp [intOf]; omega
        · have htk : xs.take k2 = xs := List.take_of_length_le (by have := HXN.out; omega)
          rw [htk] at hle ⊢
          have hr : R = (0, cat xs) := by rw [HR.out]; unfold joinS; rw [HGD.out, if_pos rfl, if_neg (by omega)]
          have HRR := Lib.hid hr
          clear hr htk HR
          obtain ⟨T, hT⟩ : ∃ T, T = cat xs := ⟨_, rfl⟩
          have HT := Lib.hid hT
          rw [← hT] at hle ⊢
          clear hT
          gi_wp2_with (refine ⟨trivial, ?_⟩; gi_at_call 37; refine (callsIn_wide.2 (zeros_any _ _ (by omega) (by omega))).mono ?_; rintro e w3 ⟨g, m, hm, rfl, hg, hb, hB3⟩; have HM := Lib.hid hm; clear hm; have hgl := hb.lt)
          obtain ⟨k3, hs3, hBw3⟩ : Blk w3 w.heap.size 24 #[.int .i64 0, .slice none 0 0] ∧ w.heap.size + 1 ≤ w3.heap.size ∧ Below w.heap.size w w3 := ⟨q1.below hB3 hlw, by have := hB3.size; omega, hBr.trans (hB3.mono hBr.size)⟩
          have hwg : w.heap.size + 1 ≤ g := by omega
          have hj0 : JoinRel w g w3.heap.size m (w3.heap.size + 2) T 0 [] ((w3.alloc (.cells #[.int .i64 T.length, .slice (some ⟨g, 0, none⟩) m m] 24)).alloc (.cells #[.int .i64 0] 3)) := by
            have hz := isBits_zeros T.length
            have h2 := HM.out
            rw [Int.toNat_natCast] at h2
            refine ⟨⟨_, by simp, (hb.alloc _).alloc _, by rw [paint_zero, h2]; exact hz⟩, (Blk.new w3 24 _).alloc _, ?_, (k3.alloc _).alloc _, (hBw3.alloc hBw3.size _).alloc (by have := hBw3.size; simp; omega) _, trivial, by simp⟩
            simpa using Boxed.new (w3.alloc (.cells #[.int .i64 T.length, .slice (some ⟨g, 0, none⟩) m m] 24)) 3 (.int .i64 0)
          clear c1 c2 f1 f2 q1 hBr hlw hb hB3 hBw3 k3 hg
          generalize w3.heap.size = ob at *
          refine wpIn_loop_ghost_k (fun nn a W => ∃ (j : Nat) (ds : List Nat) (u : Nat → Value), nn = xn - j ∧ j ≤ xn ∧ JoinRel w g ob m (ob + 2) T (cat (xs.take j)).length ds W ∧
            a = { tmps := #[Value.slice X xn xc, undef, Value.pointer (some { block := w.heap.size, off := 0 }), u3, undef, u5,
                Value.int IntKind.i64 T.length, undef, u8, Value.pointer (some { block := ob, off := 0 }),
                Value.pointer (some { block := ob + 1, off := 0 }), undef, u 12, u 13, u 14, Value.slice X xn xc,
                Value.int IntKind.i64 xn, Value.int IntKind.i64 k, Value.bool false, u19, u20, u21, u22, u23, u24, u25,
                Value.slice X xn xc, Value.int IntKind.i64 xn, Value.int IntKind.i64 k2, Value.bool false, u30, u31, u32, u33,
                u34, u35, u36, u37, u38, u39, u40, u41, u42, Value.int IntKind.i64 T.length,
                Value.agg #[Value.int IntKind.i64 T.length, Value.slice (some { block := g, off := 0 }) m m],
                Value.slice X xn xc, Value.int IntKind.i64 xn, Value.int IntKind.i64 j, u 48, u 49, u 50, u 51, u 52,
                u 53, u 54, u 55, u 56, u 57, u 58, u 59, u 60, u 61, u 62, u 63, u 64, u 65, undef], defers := ds.map mark })
            xn ⟨0, [], fun _ => undef, by omega, by omega, hj0, rfl⟩ ?_
          rintro nn a W ⟨j, ds, u, hnn, hj, hJ, rfl⟩ J K hJI hK
          have HNN := Lib.hid hnn; have HJI := Lib.hid hJI; have HKK := Lib.hid hK
          clear hnn hJI hK hj0
          obtain ⟨r1, r2, r3, r4⟩ := hJ.res.two
          obtain ⟨o1, o2, o3, o4⟩ := hJ.box.two
          have a1 := hJ.at_.cell
          have hlw := hJ.res.lt
          by_cases hlt : j < xn
          · obtain ⟨x, hx⟩ : ∃ x, xs[j]? = some x := ⟨_, List.getElem?_eq_getElem (by have := HXN.out; omega)⟩
            obtain ⟨b, off, rfl, hbl, hc0, hc1⟩ := HX.out.at_ hJ.low hx
            have hcs := cat_snoc (xs.take j) x
            rw [← take_snoc_bv xs j x hx] at hcs
            have hgx : goodB x.N x.bs = true := by
              have := HGD.out; unfold allGood at this; rw [List.all_eq_true] at this; exact this x (List.mem_of_getElem? hx)
            have hlx : ((lst x.N x.bs).length : Int) = x.N := by unfold lst; rw [if_pos hgx]; exact good_length hgx
            have hct := cat_take_le xs (j + 1)
            have hpre : ∃ rest, T = cat (xs.take j) ++ lst x.N x.bs ++ rest := by
              refine ⟨cat (xs.drop (j + 1)), ?_⟩
              rw [HT.out, ← hcs]
              unfold cat
              rw [← List.flatMap_append, List.take_append_drop]
            rw [← HT.out] at hct
            have hall := fun o (ho : Below w.heap.size w (W.alloc o)) => allS_any x.N x.A x.n x.c x.bs (W.alloc o) ((HOK.out x (List.mem_of_getElem? hx)).1) ((HOK.out x (List.mem_of_getElem? hx)).2.1) (((HOK.out x (List.mem_of_getElem? hx)).2.2.below ho).mono ho.size)
            rw [hcs, List.length_append] at hct
            have hcl : (cat (xs.take (j + 1))).length = (cat (xs.take j)).length + (lst x.N x.bs).length := by rw [hcs, List.length_append]
            generalize hcn : cat (xs.take j) = cj at *
            generalize lst x.N x.bs = lx at *
            have HALL2 := Lib.hid hall; have HCL := Lib.hid hcl; have HPRE := Lib.hid hpre; have HLX := Lib.hid hlx
            clear hall hcl hpre hcs hgx hx hcn hlx
            gi_wp2_with (refine ⟨trivial, ?_⟩; gi_at_call 12; refine (callsIn_wide.2 (HALL2.out _ (hJ.low.alloc hJ.low.size _))).mono ?_; rintro e w4 ⟨gf, lb, g', ob', rfl, hent, htells, hg1, ho1, hg2, ho2, hB4⟩; have HTL := Lib.hid htells; clear htells; have HE := Lib.hid hent; clear hent)
            have hbx : Blk (W.alloc (.cells #[.int .i64 x.N, .slice x.A x.n x.c] 24)) W.heap.size 24 #[.int .i64 x.N, .slice x.A x.n x.c] := Blk.new W 24 _
            have hWs : W.heap.size + 1 ≤ w4.heap.size := by have := hB4.size; simpa using this
            have hg1' : W.heap.size + 1 ≤ g' := by simpa using hg1
            have ho1' : W.heap.size + 1 ≤ ob' := by simpa using ho1
            have hBW : Below W.heap.size W w4 := ((Below.refl _ _).alloc (Nat.le_refl _) _).trans (hB4.mono (by simp))
            have hJs := hJ.size
            have hmd : ∀ D ∈ ds, D < w4.heap.size := fun D hD => by have := (Array.getElem?_eq_some_iff.1 (hJ.marks.at_ D hD).2).1; omega
            have hI0 : InnerRel w g ob m (ob + 2) T cj.length ds W.heap.size (.int .i64 x.N) (.slice x.A x.n x.c) lx w4.heap.size [] w4 := by
              obtain ⟨bs, hb1, hb2, hb3⟩ := hJ.len
              exact ⟨⟨bs, hb1, hb2.below hBW hb2.lt, fun _ => hb3⟩, hJ.box.below hBW hJ.box.lt, (hBW.block _ hJ.at_.lt).trans hJ.at_, hJ.res.below hBW hJ.res.lt, hJ.low.trans (hBW.mono hJ.low.size), hJ.marks.kept (fun D hD => hBW.block D (Array.getElem?_eq_some_iff.1 (hJ.marks.at_ D hD).2).1), hbx.below hB4 hbx.lt, Nat.le_refl _⟩
            have hT : ∀ q, q < lx.length → T[cj.length + q]?.getD false = lx[q]?.getD false := fun q hq => by
              obtain ⟨rest, hrest⟩ := HPRE.out
              rw [hrest, List.append_assoc, List.getElem?_append_right (by omega), Nat.add_sub_cancel_left, List.getElem?_append_left hq]
            have HTT := Lib.hid hT; have HMD := Lib.hid hmd
            clear hT hmd hbx r1 r2 r3 r4 o1 o2 o3 o4 a1 hc0 hc1 hg1 ho1 hB4 hBW
            have hm8 := HM.out
            rw [Int.toNat_natCast] at hm8
            have HM8 := Lib.hid hm8; clear hm8
            refine wpIn_rangeFunc_ownG rfl (by omega) (gf := gf) (lb := lb) rfl trivial HE.out (HTL.out (5 - 1) (by omega)) Keeps2.trans (keeps2_b hg2 ho2) (Below.refl _ _) (fun _ => rfl)
              (fun (pre : List (At lx.length)) W' => InnerRel w g ob m (ob + 2) T cj.length ds W.heap.size (.int .i64 x.N) (.slice x.A x.n x.c) lx w4.heap.size (pre.map (fun y : At lx.length => y.1)) W')
              (fun _ _ _ => False)
              (fun s X' Y' row hs hgr hr => hs.kept hgr (fun r e => (hr r e).1) (by omega) (by omega) (by omega) (by omega) HMD.out)
              (fun _ _ _ _ _ hs _ _ => hs)
              hI0
              (fun y => { tmps := #[Value.slice (some { block := b, off := off }) xn xc, undef,
              Value.pointer (some { block := w.heap.size, off := 0 }), u3, undef, u5, Value.int IntKind.i64 T.length, undef,
              u8, Value.pointer (some { block := ob, off := 0 }), Value.pointer (some { block := ob + 1, off := 0 }), undef,
              Value.pointer (some { block := W.heap.size, off := 0 }), .int .i64 (y.1.1 : Int), .bool y.1.2,
              Value.slice (some { block := b, off := off }) xn xc, Value.int IntKind.i64 xn, Value.int IntKind.i64 k,
              Value.bool false, u19, u20, u21, u22, u23, u24, u25, Value.slice (some { block := b, off := off }) xn xc,
              Value.int IntKind.i64 xn, Value.int IntKind.i64 k2, Value.bool false, u30, u31, u32, u33, u34, u35, u36, u37,
              u38, u39, u40, u41, u42, Value.int IntKind.i64 T.length,
              Value.agg #[Value.int IntKind.i64 T.length, Value.slice (some { block := g, off := 0 }) m m],
              Value.slice (some { block := b, off := off }) xn xc, Value.int IntKind.i64 xn, Value.int IntKind.i64 j,
              Value.bool true, Value.pointer (some { block := b, off := off + j * 2 }),
              Value.agg #[Value.int IntKind.i64 x.N, Value.slice x.A x.n x.c],
              Value.agg #[Value.int IntKind.i64 x.N, Value.slice x.A x.n x.c], Value.func (Fn.func gf) #[] lb, .int .i64 (y.1.1 : Int), .bool y.1.2,
              u 55, u 56, u 57, u 58, u 59, u 60, u 61, u 62, u 63, u 64, u 65, undef], defers := [] }) ?assign ?body ?done ?stop
            case assign =>
              intro l y W K hK
              gi_wp2
              exact hK
            case body =>
              rintro lp pre ⟨⟨i, bb⟩, hi⟩ W2 hI hpl
              obtain ⟨bs, hb1, hb2, hb3⟩ := hI.len
              obtain ⟨o1, o2, o3, o4⟩ := hI.box.two
              have a1 := hI.at_.cell
              have hWs2 := hI.size
              dsimp only at hi ⊢
              cases bb with
              | true =>
                have hturn := turn_any T.length ((cj.length : Int) + i) g m m bs W2 (by omega) (by omega) hb1.symm (by have := HM8.out; omega) hb2
                rw [show ((cj.length : Int) + i).toNat = cj.length + i by omega] at hturn
                have HTN := Lib.hid hturn; have HB3 := Lib.hid hb3
                clear hturn hb3
                gi_wp2_with (refine ⟨trivial, ?_⟩; gi_at_call 38; refine (CallsIn.inRound lp (callsIn_wide.2 HTN.out)).mono ?_; rintro e W3 ⟨rfl, hr3, hg3⟩)
                refine ⟨(KeepsOthers.of_grownBy hg3 (fun q o eq hq => ?_)).from _, ⟨hg3.block g' (by omega) (by simp; omega), hg3.block ob' (by omega) (by simp; omega)⟩, ?_⟩
                · injection eq with eq
                  subst eq
                  rw [show W2.heap[g]? = _ from hb2] at hq
                  injection hq with hq
                  subst hq
                  rfl
                · dsimp only
                  rw [List.map_append]
                  exact hI.turned hb1 HB3.out hr3 hg3 ⟨_, hb2⟩ ⟨by omega, by omega, by omega, by omega, by omega⟩ HTT.out (by omega) hi
              | false =>
                have HB3 := Lib.hid hb3; clear hb3
                gi_wp2
                refine ⟨(KeepsOthers.refl _).from _, Keeps2.refl _ _ _, ?_⟩
                dsimp only
                rw [List.map_append]
                exact hI.stayed HTT.out (by omega) hi
            case done =>
              rintro D ys W2 hD hys hI hK
              have hys' : ys.map (fun y : At lx.length => y.1) = upto lx lx.length := hys
              rw [hys'] at hI
              obtain ⟨bs, hb1, hb2, hb3⟩ := hI.len
              rw [upto_length] at hb3
              have his := hb3 rfl
              have a1 := hI.at_.cell
              have a2 := hI.at_.frozen
              obtain ⟨e1, e2, e3, e4⟩ := hI.bbox.two
              have hWs2 := hI.size
              have hxb : x.N ≤ 4096 ∧ 0 ≤ x.N := by have := HLX.out; omega
              obtain ⟨hxb1, hxb2⟩ := hxb
              have HIS := Lib.hid his
              clear hb3 his hys hys'
              gi_wp2
              have hgs := grownBy_setCell' W2 (ob + 1) (.int .i64 ((cj.length : Int) + x.N))
              have hj1 : JoinRel w g ob m (ob + 2) T (cat (xs.take (j + 1))).length (D :: ds) (W2.setCell ⟨ob + 1, 0, none⟩ (.int .i64 ((cj.length : Int) + x.N))) := by
                have hmg : Marks (ob + 2) (W2.setCell ⟨ob + 1, 0, none⟩ (.int .i64 ((cj.length : Int) + x.N))) (D :: ds) := by
                  refine ⟨⟨by omega, (Below.heap_setCell _ _ _ _ (by dsimp only; omega)).trans hK, fun hD2 => ?_⟩, hI.marks.keeps (KeepsOthers.setCell _ _ _)⟩
                  have := HMD.out D hD2
                  omega
                refine ⟨⟨bs, hb1, hb2.far (p := ⟨ob + 1, 0, none⟩) (by dsimp only; omega) _, ?_⟩, hI.box.far (p := ⟨ob + 1, 0, none⟩) (by dsimp only; omega) _, ?_, hI.res.far (p := ⟨ob + 1, 0, none⟩) (by dsimp only; omega) _, hI.low.setCell (p := ⟨ob + 1, 0, none⟩) (by dsimp only; omega) _, hmg, by have := hgs.size; omega⟩
                · rw [HCL.out]; exact HIS.out
                · have := hI.at_.set (.int .i64 ((cj.length : Int) + x.N))
                  rw [HCL.out]
                  have e : (((cj.length + lx.length : Nat)) : Int) = (cj.length : Int) + x.N := by have := HLX.out; omega
                  rw [e]
                  exact this
              refine HKK.out _ _ ⟨xn - (j + 1), by have := HNN.out; omega, HJI.out _ _ _ ⟨j + 1, D :: ds, fun i => match i with
                | 12 => .pointer (some ⟨W.heap.size, 0, none⟩)
                | 48 => .bool true
                | 49 => .pointer (some ⟨b, off + j * 2, none⟩)
                | 50 => .agg #[.int .i64 x.N, .slice x.A x.n x.c]
                | 51 => .agg #[.int .i64 x.N, .slice x.A x.n x.c]
                | 52 => .func (.func gf) #[] lb
                | 61 => .int .i64 cj.length
                | 62 => .pointer (some ⟨W.heap.size, 0, none⟩)
                | 63 => .int .i64 x.N
                | 64 => .int .i64 ((cj.length : Int) + x.N)
                | 65 => .int .i64 ((j : Int) + 1)
                | i => u i, rfl, by omega, hj1, rfl⟩⟩
            case stop =>
              rintro D c pre W _ _ h _
              exact h.elim
          · have htk : xs.take j = xs := List.take_of_length_le (by have := HXN.out; omega)
            have hJ2 := hJ
            rw [htk, ← HT.out] at hJ2
            obtain ⟨bs, hbl, hrow, his⟩ := hJ2.len
            rw [paint_full] at his
            clear htk
            gi_wp2
            have hp2 := hJ2.res.put2 (.int .i64 T.length) (.slice (some ⟨g, 0, none⟩) m m)
            have hro2 : Blk ((W.setCell ⟨w.heap.size, 0, none⟩ (.int .i64 T.length)).setCell ⟨w.heap.size, 1, none⟩ (.slice (some ⟨g, 0, none⟩) m m)) g 5 (encB bs) := (hrow.far (p := ⟨w.heap.size, 0, none⟩) (by simp; omega) _).far (p := ⟨w.heap.size, 1, none⟩) (by simp; omega) _
            refine leaves_marks (B := ob + 2) (hJ2.marks.keeps ((KeepsOthers.setCell _ _ _).trans (KeepsOthers.setCell _ _ _))) (by have := hJ2.size; simpa using this) fun W' hB => ?_
            obtain ⟨d1, d2, _, _⟩ := (hp2.below hB (by omega)).two
            refine ⟨.tuple #[.agg #[.int .i64 T.length, .slice (some ⟨g, 0, none⟩) m m], .int .i64 0], by simp [results, Try.results27, go_sem, d1, d2], ?_⟩
            rw [HRR.out, ← HT.out]
            exact ⟨some ⟨g, 0, none⟩, m, m, bs, rfl, hbl.symm, his, hle, byt_of_blk (hro2.below hB (by omega)), (((hJ2.low.setCell (p := ⟨w.heap.size, 0, none⟩) (by simp) _).setCell (p := ⟨w.heap.size, 1, none⟩) (by simp) _)).trans (hB.mono (by omega)), fun a ha _ => by injection ha with ha; subst ha; dsimp only; omega⟩
end Go.Proofs.Ytkiijnhpegbpnaa
