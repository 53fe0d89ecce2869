/-
  Ones of package bits answers how many bits are 1, and 0 for bits that may not be. No condition but that the bytes can be read.
  All of package bits tells the places and bits, each place among those that there are. No condition but that the bytes can be read.
  Join of package bits answers as the document says, for all lists of bits. No condition but that the lists and the bytes can be read.
  Plain facts behind 'there and back': numbers in bits, bits turned twice, digits that are read, how many are 1. No condition but those that each theorem names.
  The document itself: Join. No condition but that the lists and the bytes can be read.
-/
import Derived.Test.YtcfbeelljhjnoaaDoorQB
import Derived.Sort.LoopGhostIn
import Derived.Laws.AppendOwnNone
namespace Go.Proofs.YtcfbeelljhjnoaaDoor
open Go.RowKit Go.Shelf
attribute [local go_sem] Oper.semAt_some

/-- How many are 1. -/
def onesOf (l : List Bool) : Nat := l.countP (· == true)
theorem ones_snoc (pre : List (Nat × Bool)) (x : Nat × Bool) : onesOf ((pre ++ [x]).map (·.2)) = onesOf (pre.map (·.2)) + (if x.2 = true then 1 else 0) := by
  simp only [onesOf, List.map_append, List.countP_append, List.map_cons, List.map_nil, List.countP_singleton]
  cases x.2 <;> rfl
theorem ones_le (l : List Bool) : onesOf l ≤ l.length := List.countP_le_length

end Go.Proofs.YtcfbeelljhjnoaaDoor

namespace Go.Proofs.YtcfbeelljhjnoaaDoor
open Go.RowKit Go.Shelf
attribute [local go_sem] Oper.semAt_some

set_option maxRecDepth 100000 in
set_option maxHeartbeats 2000000 in
theorem all2S_in (n lp g ob m : Nat) (hn : 1 ≤ n) (l : List Bool) (bs : List UInt8) (his : IsBits l bs) (hl : l.length ≤ 4096) (hm : m = bs.length) (J Jx : List (Nat × Bool) → World → Prop) (W : World)
    (hJ : AbidesFrom W.heap.size J)
    (hY : ∀ pre x W1, J pre W1 → pre.length < l.length → x.1 < l.length → YieldAt Fence.wide (n - 1) Tryd.prog lp #[.int .i64 (x.1 : Int), .bool x.2] W1 fun e W' =>
      (e = .returned (.bool true) ∧ J (pre ++ [x]) W' ∧ Keeps2 g ob W1 W') ∨ (e = .returned (.bool false) ∧ Jx (pre ++ [x]) W'))
    (hrow : Blk W g 5 (encB bs)) (hbox : Blk W ob 28 #[.int .i64 (l.length : Int), .slice (some ⟨g, 0, none⟩) m m]) (h0 : J [] W) :
    CallsIn Fence.wide n Tryd.prog 85 #[.func (.yield lp) #[] #[], .pointer (some ⟨ob, 0, none⟩)] W fun e W' => (∃ v, e = .returned v) ∧
      ((∃ ys, ys = upto l l.length ∧ J ys W') ∨ (∃ pre, (∃ k, k ≤ l.length ∧ pre = upto l k) ∧ Jx pre W')) := by
  have HIS := Lib.hid his; clear his
  have HM := Lib.hid hm; clear hm
  have HJ := Lib.hid hJ; clear hJ
  have HY := Lib.hid hY; clear hY
  have H0 := Lib.hid h0; clear h0
  obtain ⟨c1, c2, f1, f2⟩ := hbox.two
  refine callsIn_of_wp Tryd.func85 rfl trivial ?_ rfl
  simp only [Tryd.ntmps85, List.size_toArray, List.length_cons, List.length_nil, Nat.reduceAdd, Nat.reduceSub, Array.replicate_succ, Array.replicate_zero, List.push_toArray, List.append_toArray, List.nil_append, List.cons_append]
  gi_wp2
  gi_loopw [6] (fun i wr => ∃ k : Nat, k ≤ l.length ∧ i = .int .i64 k ∧ J (upto l k) wr ∧ Blk wr g 5 (encB bs) ∧ Blk wr ob 28 #[.int .i64 (l.length : Int), .slice (some ⟨g, 0, none⟩) m m])
    (fun i _ => l.length - (intOf i).toNat)
  case atStart => exact ⟨0, Nat.zero_le _, rfl, H0.out, hrow, hbox⟩
  case round =>
    obtain ⟨k, hk, rfl, hJs, r1, r2⟩ := hrel
    obtain ⟨c3, c4, f3, f4⟩ := r2.two
    by_cases hlt : k < l.length
    · have hone := isOne_any l.length k (some ⟨g, 0, none⟩) m m bs wr (by omega) (by omega) HM.out (by have := HIS.out.1; omega) (byt_of_blk r1)
      rw [Int.toNat_natCast, HIS.out.2] at hone
      obtain ⟨bk, hbk⟩ : ∃ bk, bk = l[k]?.getD false := ⟨_, rfl⟩
      rw [← hbk] at hone
      have HO := Lib.hid hone; have HBK := Lib.hid hbk; clear hone hbk
      gi_wp2_with (refine ⟨trivial, ?_⟩; gi_at_call 72; refine (callsIn_wide.2 HO.out).mono ?_; rintro e w3 ⟨rfl, hb3⟩; obtain ⟨fn, tmps, assign, body, hy, hR⟩ := HY.out (upto l k) (k, bk) w3 (HJ.out _ _ _ none hJs (only_of_below hb3 none) (fun r e => by cases e)) (by rw [upto_length]; exact hlt) hlt; dsimp only at hy)
      refine hR.mono ?_
      rintro e W3 (⟨rfl, hJ3, hk3⟩ | ⟨rfl, hJx3⟩)
      · gi_wp2
        go_roundw
        case rel =>
          refine ⟨k + 1, by omega, by go_num, by rw [upto_succ, ← HBK.out]; exact hJ3, ?_, ?_⟩
          · exact hk3.1.trans (r1.below hb3 r1.lt)
          · exact hk3.2.trans (r2.below hb3 r2.lt)
        case measure => simp [intOf]; omega
      · gi_wp2
        refine bodyPost_ret (results_none rfl _ _ _) rfl ?_
        exact ⟨⟨_, rfl⟩, .inr ⟨_, ⟨k + 1, by omega, by rw [upto_succ, ← HBK.out]⟩, hJx3⟩⟩
    · obtain rfl : k = l.length := by omega
      gi_wp2
      go_end0
      exact ⟨⟨_, rfl⟩, .inl ⟨_, rfl, hJs⟩⟩

/-- A place among n, and a bit. -/
abbrev At (n : Nat) := { x : Nat × Bool // x.1 < n }
abbrev encS {n : Nat} (x : At n) : Array Value := #[Value.int .i64 (x.1.1 : Int), .bool x.1.2]
/-- A sequence that tells l, each place among its own. -/
abbrev TellsS (n gf : Nat) (lb : Array Value) (g ob : Nat) (l : List Bool) (w : World) : Prop :=
  SeqStopsK Fence.wide n Tryd.prog gf lb (encS (n := l.length)) (Keeps2 g ob) (fun ys => ys.map (·.1) = upto l l.length) (fun pre => ∃ k, k ≤ l.length ∧ pre.map (·.1) = upto l k) l.length w

theorem allS_stops (n g ob m : Nat) (hn : 1 ≤ n) (l : List Bool) (bs : List UInt8) (his : IsBits l bs) (hl : l.length ≤ 4096) (hm : m = bs.length) (w : World) (hrow : Blk w g 5 (encB bs)) (hbox : Blk w ob 28 #[.int .i64 (l.length : Int), .slice (some ⟨g, 0, none⟩) m m]) :
    TellsS n 85 #[.pointer (some ⟨ob, 0, none⟩)] g ob l w := fun lp J Jx W hW hJ hJx hY h0 => by
  refine (all2S_in n lp g ob m hn l bs his hl hm (fun pre W' => ∃ pre' : List (At l.length), pre'.map (·.1) = pre ∧ J pre' W') (fun pre W' => ∃ pre' : List (At l.length), pre'.map (·.1) = pre ∧ Jx pre' W') W ?_ ?_ (hrow.below hW hrow.lt) (hbox.below hW hbox.lt) ⟨[], rfl, h0⟩).mono ?_
  · rintro s X Y row ⟨pre', hp, hj⟩ hg hr
    exact ⟨pre', hp, hJ pre' X Y row hj hg hr⟩
  · rintro pre x W1 ⟨pre', rfl, hj⟩ hlen hx
    refine (hY pre' ⟨x, hx⟩ W1 hj (by simpa using hlen)).mono ?_
    rintro e W' (⟨he, hj', hk⟩ | ⟨he, hj'⟩)
    · exact .inl ⟨he, ⟨_, by simp, hj'⟩, hk⟩
    · exact .inr ⟨he, ⟨_, by simp, hj'⟩⟩
  · rintro e W' ⟨he, ⟨ys, rfl, pre', hp, hj⟩ | ⟨pre, ⟨k, hk, rfl⟩, pre', hp, hj⟩⟩
    · exact ⟨he, .inl ⟨pre', hp, hj⟩⟩
    · exact ⟨he, .inr ⟨pre', ⟨k, hk, hp⟩, hj⟩⟩

set_option maxHeartbeats 1000000 in
theorem noneS_stops (n g ob : Nat) (w : World) : TellsS n 84 #[] g ob [] w := fun lp J Jx W _ _ _ _ h0 => by
  refine callsIn_of_wp Tryd.func84 rfl trivial ?_ rfl
  simp only [Tryd.ntmps84, List.size_toArray, List.length_cons, List.length_nil, Nat.reduceAdd, Nat.reduceSub, Array.replicate_succ, Array.replicate_zero, List.push_toArray, List.append_toArray, List.nil_append, List.cons_append]
  gi_wp2
  go_end0
  exact ⟨⟨_, rfl⟩, .inl ⟨[], rfl, h0⟩⟩

/-- What All answers: a sequence that tells the truths. -/
def AllGivesS (w : World) (l : List Bool) (e : Ending) (w' : World) : Prop :=
  ∃ (gf : Nat) (lb : Array Value) (g ob : Nat), e = .returned (.func (.func gf) #[] lb) ∧ (∀ args w, (callFunc gf args).run Tryd.prog w = .ok (.enter gf args) w) ∧ (∀ n, 1 ≤ n → TellsS n gf lb g ob l w') ∧
    w.heap.size ≤ g ∧ w.heap.size ≤ ob ∧ g < w'.heap.size ∧ ob < w'.heap.size ∧ Below w.heap.size w w'

set_option maxHeartbeats 1000000 in
theorem allS_any (N : Int) (A : Option Addr) (n c : Nat) (bs : List UInt8) (w : World) (hn : n = bs.length) (hm : n ≤ maxLen) (hA : Byt w.heap.size w A bs) :
    Calls Tryd.prog 62 #[.agg #[.int .i64 N, .slice A n c]] w (AllGivesS w (lst N bs)) := by
  have hck := fun w1 (h : Below w.heap.size w w1) => check_any N A n c bs w1 hn hm ((hA.below h).mono h.size)
  by_cases hgood : goodB N bs = true
  · obtain ⟨hg0, hg1, hg2, hg3⟩ := (good_iff N bs).1 hgood
    rw [chk_yes hgood] at hck
    have hgr := fun w1 (h : Below w.heap.size w w1) => grown_any N 0 A n c bs w1 hg0 hg1 (by omega) (by omega) hn (by omega) ((hA.below h).mono h.size)
    have hls : lst N bs = listOf N bs := by simp [lst, hgood]
    rw [hls]
    have hib := good_isBits hgood
    have hgl := good_length hgood
    have HCK := Lib.hid hck; have HGR := Lib.hid hgr; have HL := Lib.hid hg2; have HIB := Lib.hid hib; have HGL := Lib.hid hgl
    clear hck hgr hg2 hg3 hgood hA hn hls hib hgl
    unfold maxLen at hm
    go_enter Tryd.func62, Tryd.ntmps62
    go_wp2_with (first
      | (go_at_call 43; refine (HCK.out _ ((Below.refl _ _).alloc (Nat.le_refl _) _)).mono ?_; rintro e w1 ⟨rfl, hB⟩; obtain ⟨k1, hs, hBw⟩ := boxes1 hB; obtain ⟨c1, c2, f1, f2⟩ := k1.two)
      | (go_at_call 82; refine (HGR.out _ hBw).mono ?_; rintro e w2 ⟨g, m, hmm, rfl, hgg, hgb, hgB⟩; have HM := Lib.hid hmm; clear hmm))
    go_ret
    have hgl := hgb.lt
    have e1 : (N.toNat + Int.toNat 0 + 7) / 8 - bs.length = 0 := by have := HL.out; omega
    rw [e1, List.replicate_zero, List.append_nil] at hgb
    refine ⟨85, _, g, w2.heap.size, rfl, enters_of Tryd.func85 (by kernel_rfl) rfl, fun q hq => ?_, by omega, by have := hgB.size; omega, by simp; omega, by simp, (hBw.trans (hgB.mono hBw.size)).alloc (by have := hgB.size; omega) _⟩
    refine allS_stops q g w2.heap.size m hq _ bs HIB.out ?_ (by have := HM.out; have := HL.out; omega) _ (hgb.alloc _) ?_
    · have := HGL.out; omega
    · rw [HGL.out]; exact Blk.new w2 28 _
  · have hls : lst N bs = [] := by simp [lst, hgood]
    rw [chk_no (by simpa using hgood)] at hck
    rw [hls]
    have HCK := Lib.hid hck
    clear hck hgood hA hn hls
    unfold maxLen at hm
    go_enter Tryd.func62, Tryd.ntmps62
    go_wp2_with (go_at_call 43; refine (HCK.out _ ((Below.refl _ _).alloc (Nat.le_refl _) _)).mono ?_; rintro e w1 ⟨rfl, hB⟩; obtain ⟨k1, hs, hBw⟩ := boxes1 hB; obtain ⟨c1, c2, f1, f2⟩ := k1.two)
    go_ret
    exact ⟨84, #[], w.heap.size, w.heap.size, rfl, enters_of Tryd.func84 (by kernel_rfl) rfl, fun q _ => noneS_stops q _ _ _, Nat.le_refl _, Nat.le_refl _, by omega, by omega, hBw⟩
end Go.Proofs.YtcfbeelljhjnoaaDoor

namespace Go.Proofs.YtcfbeelljhjnoaaDoor
open Go.RowKit Go.Shelf
attribute [local go_sem] Oper.semAt_some

/-- Bits as a value: how many, and where their bytes lie. -/
structure BV where
  N : Int
  A : Option Addr
  n : Nat
  c : Nat
  bs : List UInt8
/-- The value's bytes can be read, in a block below n₀. -/
def BVok (n₀ : Nat) (W : World) (x : BV) : Prop := x.n = x.bs.length ∧ x.n ≤ maxLen ∧ Byt n₀ W x.A x.bs
theorem BVok.below {n₀ : Nat} {W W' : World} {x : BV} (h : BVok n₀ W x) (hb : Below n₀ W W') (hs : n₀ ≤ W'.heap.size) : BVok W'.heap.size W' x := ⟨h.1, h.2.1, (h.2.2.below hb).mono hs⟩
/-- The slice at X holds the bits xs, in a block below n₀ (nil or empty where there are none). -/
def BVs (n₀ : Nat) (W : World) (X : Option Addr) (xs : List BV) : Prop :=
  xs ≠ [] → ∃ b off, X = some ⟨b, off, none⟩ ∧ b < n₀ ∧ ∀ j x, xs[j]? = some x → W.cell? ⟨b, off + j * 2, none⟩ = some (.int .i64 x.N) ∧ W.cell? ⟨b, off + j * 2 + 1, none⟩ = some (.slice x.A x.n x.c)
theorem BVs.at_ {n₀ : Nat} {W W' : World} {X : Option Addr} {xs : List BV} (h : BVs n₀ W X xs) (hb : Below n₀ W W') {k : Nat} {x : BV} (hk : xs[k]? = some x) :
    ∃ b off, X = some ⟨b, off, none⟩ ∧ b < n₀ ∧ W'.cell? ⟨b, off + k * 2, none⟩ = some (.int .i64 x.N) ∧ W'.cell? ⟨b, off + k * 2 + 1, none⟩ = some (.slice x.A x.n x.c) := by
  obtain ⟨b, off, e, hlt, hc⟩ := h (by rintro rfl; simp at hk)
  obtain ⟨h1, h2⟩ := hc k x hk
  exact ⟨b, off, e, hlt, (hb.cell (p := ⟨b, off + k * 2, none⟩) hlt).trans h1, (hb.cell (p := ⟨b, off + k * 2 + 1, none⟩) hlt).trans h2⟩

/-- All behind each other. -/
def cat (xs : List BV) : List Bool := xs.flatMap fun x => lst x.N x.bs
def allGood (xs : List BV) : Bool := xs.all fun x => goodB x.N x.bs
/-- Join, by the document. -/
def joinS (xs : List BV) : Int × List Bool := if allGood xs = true then if 4096 < (cat xs).length then (3, []) else (0, cat xs) else (10, [])
theorem take_snoc_bv (xs : List BV) (k : Nat) (x : BV) (h : xs[k]? = some x) : xs.take (k + 1) = xs.take k ++ [x] := by
  rw [List.take_add_one, h]; rfl
theorem good_snoc (xs : List BV) (x : BV) : allGood (xs ++ [x]) = (allGood xs && goodB x.N x.bs) := by simp [allGood]
theorem good_not (xs : List BV) (k : Nat) (x : BV) (h : xs[k]? = some x) (hb : goodB x.N x.bs = false) : allGood xs = false := by
  unfold allGood
  rw [List.all_eq_false]
  exact ⟨x, List.mem_of_getElem? h, by simp [hb]⟩
theorem cat_snoc (xs : List BV) (x : BV) : cat (xs ++ [x]) = cat xs ++ lst x.N x.bs := by simp [cat]
theorem cat_take_le (xs : List BV) (k : Nat) : (cat (xs.take k)).length ≤ (cat xs).length := by
  have : cat xs = cat (xs.take k) ++ cat (xs.drop k) := by
    unfold cat; rw [← List.flatMap_append, List.take_append_drop]
  rw [this, List.length_append]; omega

/-! ### The marks that loops over sequences leave among a function's deferred calls -/
abbrev mark (D : Nat) : Deferred := { target := .collected D, args := #[] }
def Marks (B : Nat) (W : World) : List Nat → Prop
  | [] => True
  | D :: ds => (B ≤ D ∧ W.heap[D]? = some (.deferred (some [])) ∧ D ∉ ds) ∧ Marks B W ds
theorem Marks.kept {B : Nat} {W W' : World} : ∀ {ds : List Nat}, Marks B W ds → (∀ D ∈ ds, W'.heap[D]? = W.heap[D]?) → Marks B W' ds
  | [], _, _ => trivial
  | D :: ds, ⟨⟨h1, h2, h3⟩, h4⟩, hk => ⟨⟨h1, (hk D (by simp)).trans h2, h3⟩, h4.kept fun D' hD' => hk D' (by simp [hD'])⟩
theorem Marks.at_ {B : Nat} {W : World} : ∀ {ds : List Nat}, Marks B W ds → ∀ D ∈ ds, B ≤ D ∧ W.heap[D]? = some (.deferred (some []))
  | D :: ds, ⟨⟨h1, h2, _⟩, h4⟩, D', hD' => by
    rcases List.mem_cons.1 hD' with rfl | h
    · exact ⟨h1, h2⟩
    · exact h4.at_ D' h
theorem Marks.keeps {B : Nat} {W W' : World} {ds : List Nat} (h : Marks B W ds) (hk : KeepsOthers W W') : Marks B W' ds :=
  h.kept fun D hD => by
    have := (h.at_ D hD).2
    rw [hk.same D _ this rfl, this]
theorem Marks.grown {B : Nat} {W W' : World} {ds : List Nat} {row : Option Nat} (h : Marks B W ds) (hg : W.grownBy W' row) (hr : ∀ D ∈ ds, some D ≠ row) : Marks B W' ds :=
  h.kept fun D hD => hg.block D (Array.getElem?_eq_some_iff.1 (h.at_ D hD).2).1 (hr D hD)
theorem leaves_marks {B n : Nat} {fn : Func} {tmps : Array Value} {R : Ending → World → Prop} : ∀ {ds : List Nat} {W : World}, Marks B W ds → B ≤ W.heap.size →
    (∀ W', Below B W W' → ∃ v, (results fn tmps).run Tryd.prog W' = .ok v W' ∧ R (.returned v) W') → LeavesInM Fence.wide n Tryd.prog fn tmps R (ds.map mark) .returning W
  | [], W, _, _, h => h W (Below.refl _ _)
  | D :: ds, W, ⟨⟨h1, h2, h3⟩, h4⟩, hs, h => by
    have hg := grownBy_putObj' W D (.deferred none)
    refine ⟨by simp, .inl ⟨D, W.putObj D (.deferred none), rfl, run_takeDeferred h2, leaves_marks (h4.grown hg (fun D' hD' e => by injection e with e; subst e; exact h3 hD')) (Nat.le_trans hs hg.size) fun W' hB => h W' ?_⟩⟩
    exact ((Below.refl B W).grown hg hs (fun k e => by injection e with e; omega)).trans hB

/-- Bits under way while one string after the other is laid behind: what holds in each round. -/
structure JoinRel (w : World) (g ob m B : Nat) (T : List Bool) (cn : Nat) (ds : List Nat) (W : World) : Prop where
  len : ∃ bs, bs.length = m ∧ Blk W g 5 (encB bs) ∧ IsBits (paint T cn) bs
  box : Blk W ob 28 #[.int .i64 (T.length : Int), .slice (some ⟨g, 0, none⟩) m m]
  at_ : Boxed W (ob + 1) 3 (.int .i64 cn)
  res : Blk W w.heap.size 28 #[.int .i64 0, .slice none 0 0]
  low : Below w.heap.size w W
  marks : Marks B W ds
  size : B ≤ W.heap.size

/-- .. and what holds while one string is laid behind, bit by bit. -/
structure InnerRel (w : World) (g ob m B : Nat) (T : List Bool) (cn : Nat) (ds : List Nat) (bb : Nat) (bN bS : Value) (l : List Bool) (M : Nat) (pre : List (Nat × Bool)) (W : World) : Prop where
  len : ∃ bs, bs.length = m ∧ Blk W g 5 (encB bs) ∧ (pre = upto l pre.length → IsBits (paint T (cn + pre.length)) bs)
  box : Blk W ob 28 #[.int .i64 (T.length : Int), .slice (some ⟨g, 0, none⟩) m m]
  at_ : Boxed W (ob + 1) 3 (.int .i64 cn)
  res : Blk W w.heap.size 28 #[.int .i64 0, .slice none 0 0]
  low : Below w.heap.size w W
  marks : Marks B W ds
  bbox : Blk W bb 28 #[bN, bS]
  size : M ≤ W.heap.size
theorem InnerRel.kept {w : World} {g ob m B : Nat} {T : List Bool} {cn : Nat} {ds : List Nat} {bb : Nat} {bN bS : Value} {l : List Bool} {M : Nat} {pre : List (Nat × Bool)} {W W' : World} {row : Option Nat}
    (h : InnerRel w g ob m B T cn ds bb bN bS l M pre W) (hg : W.grownBy W' row) (hr : ∀ r, row = some r → M ≤ r) (h1 : g < M) (h2 : ob + 1 < M) (h3 : w.heap.size < M) (h4 : bb < M) (h5 : ∀ D ∈ ds, D < M) :
    InnerRel w g ob m B T cn ds bb bN bS l M pre W' := by
  have key : ∀ q, q < M → some q ≠ row := fun q hq e => by have := hr q e.symm; omega
  obtain ⟨bs, hb1, hb2, hb3⟩ := h.len
  exact ⟨⟨bs, hb1, hb2.grown hg (key _ h1), hb3⟩, h.box.grown hg (key _ (by omega)), h.at_.kept hg (key _ h2), h.res.grown hg (key _ h3), h.low.grown hg (by have := h.size; omega) (fun q e => by have := hr q e; omega), h.marks.grown hg (fun D hD => key D (h5 D hD)), h.bbox.grown hg (key _ h4), Nat.le_trans h.size hg.size⟩
theorem upto_snoc_inv {l : List Bool} {pre : List (Nat × Bool)} {x : Nat × Bool} (h : pre ++ [x] = upto l (pre ++ [x]).length) : pre = upto l pre.length ∧ x = (pre.length, l[pre.length]?.getD false) := by
  rw [List.length_append, List.length_singleton, upto_succ] at h
  have := List.append_inj' h rfl
  exact ⟨this.1, by simpa using this.2⟩
theorem InnerRel.turned {w : World} {g ob m B : Nat} {T : List Bool} {cn : Nat} {ds : List Nat} {bb : Nat} {bN bS : Value} {l : List Bool} {M : Nat} {pre : List (Nat × Bool)} {W W' : World} {bs : List UInt8} {i : Nat}
    (h : InnerRel w g ob m B T cn ds bb bN bS l M pre W) (hb1 : bs.length = m) (hb3 : pre = upto l pre.length → IsBits (paint T (cn + pre.length)) bs)
    (hr : Blk W' g 5 (encB (flipB bs (cn + i)))) (hg : W.grownBy W' (some g)) (hgc : ∃ cs, Blk W g 5 cs) (h2 : g ≠ ob ∧ g ≠ ob + 1 ∧ g ≠ w.heap.size ∧ g ≠ bb ∧ w.heap.size ≤ g)
    (hT : ∀ q, q < l.length → T[cn + q]?.getD false = l[q]?.getD false) (hlen : cn + l.length ≤ T.length) (hi : i < l.length) :
    InnerRel w g ob m B T cn ds bb bN bS l M (pre ++ [(i, true)]) W' := by
  obtain ⟨cs, hgc⟩ := hgc
  refine ⟨⟨_, by rw [flipB_length]; exact hb1, hr, fun hp => ?_⟩, h.box.grown hg (by simp; omega), h.at_.kept hg (by simp; omega), h.res.grown hg (by simp; omega), h.low.grown hg h.low.size (fun q e => by injection e with e; omega), h.marks.grown hg (fun D hD e => ?_), h.bbox.grown hg (by simp; omega), Nat.le_trans h.size hg.size⟩
  · obtain ⟨h1, h3⟩ := upto_snoc_inv hp
    injection h3 with h4 h5
    subst h4
    rw [List.length_append, List.length_singleton, ← Nat.add_assoc]
    exact paint_flip (hb3 h1) (by omega) (by rw [hT _ hi]; exact h5.symm)
  · injection e with e
    subst e
    have := (h.marks.at_ D hD).2
    rw [show W.heap[D]? = _ from hgc] at this
    cases this
theorem InnerRel.stayed {w : World} {g ob m B : Nat} {T : List Bool} {cn : Nat} {ds : List Nat} {bb : Nat} {bN bS : Value} {l : List Bool} {M : Nat} {pre : List (Nat × Bool)} {W : World} {i : Nat}
    (h : InnerRel w g ob m B T cn ds bb bN bS l M pre W)
    (hT : ∀ q, q < l.length → T[cn + q]?.getD false = l[q]?.getD false) (hlen : cn + l.length ≤ T.length) (hi : i < l.length) :
    InnerRel w g ob m B T cn ds bb bN bS l M (pre ++ [(i, false)]) W := by
  obtain ⟨bs, hb1, hb2, hb3⟩ := h.len
  refine ⟨⟨bs, hb1, hb2, fun hp => ?_⟩, h.box, h.at_, h.res, h.low, h.marks, h.bbox, h.size⟩
  obtain ⟨h1, h3⟩ := upto_snoc_inv hp
  injection h3 with h4 h5
  subst h4
  rw [List.length_append, List.length_singleton, ← Nat.add_assoc]
  exact paint_stay (hb3 h1) (by omega) (by rw [hT _ hi]; exact h5.symm)

set_option maxRecDepth 100000 in
set_option maxHeartbeats 2000000 in
theorem join_any (X : Option Addr) (xn xc : Nat) (xs : List BV) (w : World) (hxn : xn = xs.length) (hxm : xn ≤ maxLen) (hX : BVs w.heap.size w X xs) (hok : ∀ x ∈ xs, BVok w.heap.size w x) :
    Calls Tryd.prog 30 #[.slice X xn xc] w (Res w (joinS xs)) := by
  unfold maxLen at hxm
  have HXN := Lib.hid hxn; have HX := Lib.hid hX; have HOK := Lib.hid hok; clear hxn hX hok
  obtain ⟨R, hR⟩ : ∃ R, R = joinS xs := ⟨_, rfl⟩
  rw [← hR]
  have HR := Lib.hid hR; clear hR
  refine (callsIn_wide (n := 5)).1 ?_
  refine callsIn_of_wp_marks Tryd.func30 rfl trivial ?_ rfl
  simp only [Tryd.ntmps30, List.size_toArray, List.length_cons, List.length_nil, Nat.reduceAdd, Nat.reduceSub, Array.replicate_succ, Array.replicate_zero, List.push_toArray, List.append_toArray, List.nil_append, List.cons_append]
  gi_wp2
  gi_loopw [17] (fun i wr => ∃ k : Nat, k ≤ xn ∧ i = .int .i64 k ∧ allGood (xs.take k) = true ∧ Blk wr w.heap.size 28 #[.int .i64 0, .slice none 0 0] ∧ Below w.heap.size w wr)
    (fun i _ => xn - (intOf i).toNat)
  case atStart => exact ⟨0, by omega, rfl, rfl, Blk.new w 28 _, (Below.refl _ _).alloc (Nat.le_refl _) _⟩
  case round =>
    obtain ⟨k, hk, rfl, hall, q1, hBr⟩ := hrel
    have HALL := Lib.hid hall; clear hall
    obtain ⟨c1, c2, f1, f2⟩ := q1.two
    have hlw := q1.lt
    by_cases hlt : k < xn
    · obtain ⟨x, hx⟩ : ∃ x, xs[k]? = some x := ⟨_, List.getElem?_eq_getElem (by have := HXN.out; omega)⟩
      obtain ⟨b, off, rfl, hbl, hc0, hc1⟩ := HX.out.at_ hBr hx
      have hts := take_snoc_bv xs k x hx
      have hgs := good_snoc (xs.take k) x
      rw [← hts] at hgs
      have hgn := good_not xs k x hx
      have hBa := fun o => hBr.alloc hBr.size o
      have hck := fun (o : Obj) => check_any x.N x.A x.n x.c x.bs (wr.alloc o) ((HOK.out x (List.mem_of_getElem? hx)).1) ((HOK.out x (List.mem_of_getElem? hx)).2.1) (((HOK.out x (List.mem_of_getElem? hx)).2.2.below (hBa o)).mono (hBa o).size)
      by_cases hgx : goodB x.N x.bs = true
      · rw [chk_yes hgx] at hck
        rw [hgx, HALL.out] at hgs
        have HCK := Lib.hid hck; have HGS := Lib.hid hgs
        clear hck hgs hgn hgx hts hx hBa
        gi_wp2_with (refine ⟨trivial, ?_⟩; gi_at_call 43; refine (callsIn_wide.2 (HCK.out _)).mono ?_; rintro e w2 ⟨rfl, hB2⟩; have q2 := (q1.alloc (.cells #[.int .i64 x.N, .slice x.A x.n x.c] 28)).below hB2 (by simp; omega))
        go_roundw
        case rel => exact ⟨k + 1, by omega, by go_num, HGS.out, q2, (hBr.alloc hBr.size _).trans (hB2.mono (by have := hBr.size; simp; omega))⟩
        case measure => simp [intOf]; omega
      · rw [chk_no (by simpa using hgx)] at hck
        have hr := hgn (by simpa using hgx)
        have HCK := Lib.hid hck; have HG := Lib.hid hr
        clear hck hgs hgn hgx hts hx hBa hr
        gi_wp2_with (refine ⟨trivial, ?_⟩; gi_at_call 43; refine (callsIn_wide.2 (HCK.out _)).mono ?_; rintro e w2 ⟨rfl, hB2⟩; have q2 := (q1.alloc (.cells #[.int .i64 x.N, .slice x.A x.n x.c] 28)).below hB2 (by simp; omega); obtain ⟨d1, d2, e1, e2⟩ := q2.two; have hlw2 := q2.lt)
        rw [HR.out, show joinS xs = (10, []) by unfold joinS; rw [HG.out]; rfl]
        exact ⟨.tuple #[.agg #[.int .i64 0, .slice none 0 0], .int .i64 10], by simp [results, Tryd.results30, go_sem, d1, d2], res_err 10 ((((hBr.alloc hBr.size _).trans (hB2.mono (by have := hBr.size; simp; omega))).setCell (p := ⟨w.heap.size, 0, none⟩) (by simp) _).setCell (p := ⟨w.heap.size, 1, none⟩) (by simp) _)⟩
    · have hgood := HALL.out
      rw [List.take_of_length_le (by have := HXN.out; omega)] at hgood
      have HGD := Lib.hid hgood; clear hgood
      gi_wp2
      gi_loopw [6, 28] (fun nv i wr2 => ∃ k : Nat, k ≤ xn ∧ i = .int .i64 k ∧ nv = .int .i64 ((cat (xs.take k)).length : Int) ∧ (cat (xs.take k)).length ≤ 4096 ∧ Blk wr2 w.heap.size 28 #[.int .i64 0, .slice none 0 0] ∧ Below w.heap.size w wr2)
        (fun _ i _ => xn - (intOf i).toNat)
      case atStart => exact ⟨0, by omega, rfl, rfl, by simp [cat], q1, hBr⟩
      case round =>
        clear c1 c2 f1 f2 q1 hBr hlw HALL hlt hk
        obtain ⟨k2, hk, rfl, rfl, hle, q1, hBr⟩ := hrel
        obtain ⟨c1, c2, f1, f2⟩ := q1.two
        have hlw := q1.lt
        by_cases hlt : k2 < xn
        · obtain ⟨x, hx⟩ : ∃ x, xs[k2]? = some x := ⟨_, List.getElem?_eq_getElem (by have := HXN.out; omega)⟩
          obtain ⟨b, off, rfl, hbl, hc0, hc1⟩ := HX.out.at_ hBr hx
          have hts := take_snoc_bv xs k2 x hx
          have hcs := cat_snoc (xs.take k2) x
          rw [← hts] at hcs
          have hgx : goodB x.N x.bs = true := by
            have := HGD.out; unfold allGood at this; rw [List.all_eq_true] at this; exact this x (List.mem_of_getElem? hx)
          have hlx : ((lst x.N x.bs).length : Int) = x.N := by unfold lst; rw [if_pos hgx]; exact good_length hgx
          have hcl : ((cat (xs.take (k2 + 1))).length : Int) = ((cat (xs.take k2)).length : Int) + x.N := by rw [hcs, List.length_append]; omega
          have hct := cat_take_le xs (k2 + 1)
          have hx0 : 0 ≤ x.N := by omega
          have hx1 : x.N ≤ 4096 := by have := lst_length x.N x.bs; omega
          generalize (cat (xs.take k2)).length = cn at *
          have HCL := Lib.hid hcl; clear hcl
          clear hcs hts hgx hlx hx
          by_cases hlong : 4096 - (cn : Int) < x.N
          · gi_wp2
            rw [HR.out, show joinS xs = (3, []) by unfold joinS; rw [HGD.out, if_pos rfl, if_pos (by have := HCL.out; omega)]]
            have hq : Blk (((wr.setCell ⟨w.heap.size, 0, none⟩ (.int .i64 0)).setCell ⟨w.heap.size, 1, none⟩ (.slice none 0 0)).alloc (.cells #[.int .i64 x.N, .slice x.A x.n x.c] 28)) w.heap.size 28 #[.int .i64 0, .slice none 0 0] := (q1.put2 _ _).alloc _
            obtain ⟨d1, d2, _, _⟩ := hq.two
            exact ⟨.tuple #[.agg #[.int .i64 0, .slice none 0 0], .int .i64 3], by simp [results, Tryd.results30, go_sem, d1, d2], res_err 3 ((((hBr.setCell (p := ⟨w.heap.size, 0, none⟩) (by simp) _).setCell (p := ⟨w.heap.size, 1, none⟩) (by simp) _)).alloc (by have := hBr.size; simp; omega) _)⟩
          · gi_wp2
            go_roundw
            case rel => exact ⟨k2 + 1, by omega, by go_num, by rw [HCL.out], by have := HCL.out; omega, q1.alloc _, hBr.alloc hBr.size _⟩
            case measure => simp [intOf]; omega
        · have htk : xs.take k2 = xs := List.take_of_length_le (by have := HXN.out; omega)
          rw [htk] at hle ⊢
          have hr : R = (0, cat xs) := by rw [HR.out]; unfold joinS; rw [HGD.out, if_pos rfl, if_neg (by omega)]
          have HRR := Lib.hid hr
          clear hr htk HR
          obtain ⟨T, hT⟩ : ∃ T, T = cat xs := ⟨_, rfl⟩
          have HT := Lib.hid hT
          rw [← hT] at hle ⊢
          clear hT
          gi_wp2_with (refine ⟨trivial, ?_⟩; gi_at_call 61; refine (callsIn_wide.2 (zeros_any _ _ (by omega) (by omega))).mono ?_; rintro e w3 ⟨g, m, hm, rfl, hg, hb, hB3⟩; have HM := Lib.hid hm; clear hm; have hgl := hb.lt)
          obtain ⟨k3, hs3, hBw3⟩ : Blk w3 w.heap.size 28 #[.int .i64 0, .slice none 0 0] ∧ w.heap.size + 1 ≤ w3.heap.size ∧ Below w.heap.size w w3 := ⟨q1.below hB3 hlw, by have := hB3.size; omega, hBr.trans (hB3.mono hBr.size)⟩
          have hwg : w.heap.size + 1 ≤ g := by omega
          have hj0 : JoinRel w g w3.heap.size m (w3.heap.size + 2) T 0 [] ((w3.alloc (.cells #[.int .i64 T.length, .slice (some ⟨g, 0, none⟩) m m] 28)).alloc (.cells #[.int .i64 0] 3)) := by
            have hz := isBits_zeros T.length
            have h2 := HM.out
            rw [Int.toNat_natCast] at h2
            refine ⟨⟨_, by simp, (hb.alloc _).alloc _, by rw [paint_zero, h2]; exact hz⟩, (Blk.new w3 28 _).alloc _, ?_, (k3.alloc _).alloc _, (hBw3.alloc hBw3.size _).alloc (by have := hBw3.size; simp; omega) _, trivial, by simp⟩
            simpa using Boxed.new (w3.alloc (.cells #[.int .i64 T.length, .slice (some ⟨g, 0, none⟩) m m] 28)) 3 (.int .i64 0)
          clear c1 c2 f1 f2 q1 hBr hlw hb hB3 hBw3 k3 hg
          generalize w3.heap.size = ob at *
          refine wpIn_loop_ghost_k (fun nn a W => ∃ (j : Nat) (ds : List Nat) (u : Nat → Value), nn = xn - j ∧ j ≤ xn ∧ JoinRel w g ob m (ob + 2) T (cat (xs.take j)).length ds W ∧
            a = { tmps := #[Value.slice X xn xc, undef, Value.pointer (some { block := w.heap.size, off := 0 }), u3, undef, u5,
                Value.int IntKind.i64 T.length, undef, u8, Value.pointer (some { block := ob, off := 0 }),
                Value.pointer (some { block := ob + 1, off := 0 }), undef, u 12, u 13, u 14, Value.slice X xn xc,
                Value.int IntKind.i64 xn, Value.int IntKind.i64 k, Value.bool false, u19, u20, u21, u22, u23, u24, u25,
                Value.slice X xn xc, Value.int IntKind.i64 xn, Value.int IntKind.i64 k2, Value.bool false, u30, u31, u32, u33,
                u34, u35, u36, u37, u38, u39, u40, u41, u42, Value.int IntKind.i64 T.length,
                Value.agg #[Value.int IntKind.i64 T.length, Value.slice (some { block := g, off := 0 }) m m],
                Value.slice X xn xc, Value.int IntKind.i64 xn, Value.int IntKind.i64 j, u 48, u 49, u 50, u 51, u 52,
                u 53, u 54, u 55, u 56, u 57, u 58, u 59, u 60, u 61, u 62, u 63, u 64, u 65, undef], defers := ds.map mark })
            xn ⟨0, [], fun _ => undef, by omega, by omega, hj0, rfl⟩ ?_
          rintro nn a W ⟨j, ds, u, hnn, hj, hJ, rfl⟩ J K hJI hK
          have HNN := Lib.hid hnn; have HJI := Lib.hid hJI; have HKK := Lib.hid hK
          clear hnn hJI hK hj0
          obtain ⟨r1, r2, r3, r4⟩ := hJ.res.two
          obtain ⟨o1, o2, o3, o4⟩ := hJ.box.two
          have a1 := hJ.at_.cell
          have hlw := hJ.res.lt
          by_cases hlt : j < xn
          · obtain ⟨x, hx⟩ : ∃ x, xs[j]? = some x := ⟨_, List.getElem?_eq_getElem (by have := HXN.out; omega)⟩
            obtain ⟨b, off, rfl, hbl, hc0, hc1⟩ := HX.out.at_ hJ.low hx
            have hcs := cat_snoc (xs.take j) x
            rw [← take_snoc_bv xs j x hx] at hcs
            have hgx : goodB x.N x.bs = true := by
              have := HGD.out; unfold allGood at this; rw [List.all_eq_true] at this; exact this x (List.mem_of_getElem? hx)
            have hlx : ((lst x.N x.bs).length : Int) = x.N := by unfold lst; rw [if_pos hgx]; exact good_length hgx
            have hct := cat_take_le xs (j + 1)
            have hpre : ∃ rest, T = cat (xs.take j) ++ lst x.N x.bs ++ rest := by
              refine ⟨cat (xs.drop (j + 1)), ?_⟩
              rw [HT.out, ← hcs]
              unfold cat
              rw [← List.flatMap_append, List.take_append_drop]
            rw [← HT.out] at hct
            have hall := fun o (ho : Below w.heap.size w (W.alloc o)) => allS_any x.N x.A x.n x.c x.bs (W.alloc o) ((HOK.out x (List.mem_of_getElem? hx)).1) ((HOK.out x (List.mem_of_getElem? hx)).2.1) (((HOK.out x (List.mem_of_getElem? hx)).2.2.below ho).mono ho.size)
            rw [hcs, List.length_append] at hct
            have hcl : (cat (xs.take (j + 1))).length = (cat (xs.take j)).length + (lst x.N x.bs).length := by rw [hcs, List.length_append]
            generalize hcn : cat (xs.take j) = cj at *
            generalize lst x.N x.bs = lx at *
            have HALL2 := Lib.hid hall; have HCL := Lib.hid hcl; have HPRE := Lib.hid hpre; have HLX := Lib.hid hlx
            clear hall hcl hpre hcs hgx hx hcn hlx
            gi_wp2_with (refine ⟨trivial, ?_⟩; gi_at_call 62; refine (callsIn_wide.2 (HALL2.out _ (hJ.low.alloc hJ.low.size _))).mono ?_; rintro e w4 ⟨gf, lb, g', ob', rfl, hent, htells, hg1, ho1, hg2, ho2, hB4⟩; have HTL := Lib.hid htells; clear htells; have HE := Lib.hid hent; clear hent)
            have hbx : Blk (W.alloc (.cells #[.int .i64 x.N, .slice x.A x.n x.c] 28)) W.heap.size 28 #[.int .i64 x.N, .slice x.A x.n x.c] := Blk.new W 28 _
            have hWs : W.heap.size + 1 ≤ w4.heap.size := by have := hB4.size; simpa using this
            have hg1' : W.heap.size + 1 ≤ g' := by simpa using hg1
            have ho1' : W.heap.size + 1 ≤ ob' := by simpa using ho1
            have hBW : Below W.heap.size W w4 := ((Below.refl _ _).alloc (Nat.le_refl _) _).trans (hB4.mono (by simp))
            have hJs := hJ.size
            have hmd : ∀ D ∈ ds, D < w4.heap.size := fun D hD => by have := (Array.getElem?_eq_some_iff.1 (hJ.marks.at_ D hD).2).1; omega
            have hI0 : InnerRel w g ob m (ob + 2) T cj.length ds W.heap.size (.int .i64 x.N) (.slice x.A x.n x.c) lx w4.heap.size [] w4 := by
              obtain ⟨bs, hb1, hb2, hb3⟩ := hJ.len
              exact ⟨⟨bs, hb1, hb2.below hBW hb2.lt, fun _ => hb3⟩, hJ.box.below hBW hJ.box.lt, (hBW.block _ hJ.at_.lt).trans hJ.at_, hJ.res.below hBW hJ.res.lt, hJ.low.trans (hBW.mono hJ.low.size), hJ.marks.kept (fun D hD => hBW.block D (Array.getElem?_eq_some_iff.1 (hJ.marks.at_ D hD).2).1), hbx.below hB4 hbx.lt, Nat.le_refl _⟩
            have hT : ∀ q, q < lx.length → T[cj.length + q]?.getD false = lx[q]?.getD false := fun q hq => by
              obtain ⟨rest, hrest⟩ := HPRE.out
              rw [hrest, List.append_assoc, List.getElem?_append_right (by omega), Nat.add_sub_cancel_left, List.getElem?_append_left hq]
            have HTT := Lib.hid hT; have HMD := Lib.hid hmd
            clear hT hmd hbx r1 r2 r3 r4 o1 o2 o3 o4 a1 hc0 hc1 hg1 ho1 hB4 hBW
            have hm8 := HM.out
            rw [Int.toNat_natCast] at hm8
            have HM8 := Lib.hid hm8; clear hm8
            refine wpIn_rangeFunc_ownG rfl (by omega) (gf := gf) (lb := lb) rfl trivial HE.out (HTL.out (5 - 1) (by omega)) Keeps2.trans (keeps2_b hg2 ho2) (Below.refl _ _) (fun _ => rfl)
              (fun (pre : List (At lx.length)) W' => InnerRel w g ob m (ob + 2) T cj.length ds W.heap.size (.int .i64 x.N) (.slice x.A x.n x.c) lx w4.heap.size (pre.map (fun y : At lx.length => y.1)) W')
              (fun _ _ _ => False)
              (fun s X' Y' row hs hgr hr => hs.kept hgr (fun r e => (hr r e).1) (by omega) (by omega) (by omega) (by omega) HMD.out)
              (fun _ _ _ _ _ hs _ _ => hs)
              hI0
              (fun y => { tmps := #[Value.slice (some { block := b, off := off }) xn xc, undef,
              Value.pointer (some { block := w.heap.size, off := 0 }), u3, undef, u5, Value.int IntKind.i64 T.length, undef,
              u8, Value.pointer (some { block := ob, off := 0 }), Value.pointer (some { block := ob + 1, off := 0 }), undef,
              Value.pointer (some { block := W.heap.size, off := 0 }), .int .i64 (y.1.1 : Int), .bool y.1.2,
              Value.slice (some { block := b, off := off }) xn xc, Value.int IntKind.i64 xn, Value.int IntKind.i64 k,
              Value.bool false, u19, u20, u21, u22, u23, u24, u25, Value.slice (some { block := b, off := off }) xn xc,
              Value.int IntKind.i64 xn, Value.int IntKind.i64 k2, Value.bool false, u30, u31, u32, u33, u34, u35, u36, u37,
              u38, u39, u40, u41, u42, Value.int IntKind.i64 T.length,
              Value.agg #[Value.int IntKind.i64 T.length, Value.slice (some { block := g, off := 0 }) m m],
              Value.slice (some { block := b, off := off }) xn xc, Value.int IntKind.i64 xn, Value.int IntKind.i64 j,
              Value.bool true, Value.pointer (some { block := b, off := off + j * 2 }),
              Value.agg #[Value.int IntKind.i64 x.N, Value.slice x.A x.n x.c],
              Value.agg #[Value.int IntKind.i64 x.N, Value.slice x.A x.n x.c], Value.func (Fn.func gf) #[] lb, .int .i64 (y.1.1 : Int), .bool y.1.2,
              u 55, u 56, u 57, u 58, u 59, u 60, u 61, u 62, u 63, u 64, u 65, undef], defers := [] }) ?assign ?body ?done ?stop
            case assign =>
              intro l y W K hK
              gi_wp2
              exact hK
            case body =>
              rintro lp pre ⟨⟨i, bb⟩, hi⟩ W2 hI hpl
              obtain ⟨bs, hb1, hb2, hb3⟩ := hI.len
              obtain ⟨o1, o2, o3, o4⟩ := hI.box.two
              have a1 := hI.at_.cell
              have hWs2 := hI.size
              dsimp only at hi ⊢
              cases bb with
              | true =>
                have hturn := turn_any T.length ((cj.length : Int) + i) g m m bs W2 (by omega) (by omega) hb1.symm (by have := HM8.out; omega) hb2
                rw [show ((cj.length : Int) + i).toNat = cj.length + i by omega] at hturn
                have HTN := Lib.hid hturn; have HB3 := Lib.hid hb3
                clear hturn hb3
                gi_wp2_with (refine ⟨trivial, ?_⟩; gi_at_call 63; refine (CallsIn.inRound lp (callsIn_wide.2 HTN.out)).mono ?_; rintro e W3 ⟨rfl, hr3, hg3⟩)
                refine ⟨(KeepsOthers.of_grownBy hg3 (fun q o eq hq => ?_)).from _, ⟨hg3.block g' (by omega) (by simp; omega), hg3.block ob' (by omega) (by simp; omega)⟩, ?_⟩
                · injection eq with eq
                  subst eq
                  rw [show W2.heap[g]? = _ from hb2] at hq
                  injection hq with hq
                  subst hq
                  rfl
                · dsimp only
                  rw [List.map_append]
                  exact hI.turned hb1 HB3.out hr3 hg3 ⟨_, hb2⟩ ⟨by omega, by omega, by omega, by omega, by omega⟩ HTT.out (by omega) hi
              | false =>
                have HB3 := Lib.hid hb3; clear hb3
                gi_wp2
                refine ⟨(KeepsOthers.refl _).from _, Keeps2.refl _ _ _, ?_⟩
                dsimp only
                rw [List.map_append]
                exact hI.stayed HTT.out (by omega) hi
            case done =>
              rintro D ys W2 hD hys hI hK
              have hys' : ys.map (fun y : At lx.length => y.1) = upto lx lx.length := hys
              rw [hys'] at hI
              obtain ⟨bs, hb1, hb2, hb3⟩ := hI.len
              rw [upto_length] at hb3
              have his := hb3 rfl
              have a1 := hI.at_.cell
              have a2 := hI.at_.frozen
              obtain ⟨e1, e2, e3, e4⟩ := hI.bbox.two
              have hWs2 := hI.size
              have hxb : x.N ≤ 4096 ∧ 0 ≤ x.N := by have := HLX.out; omega
              obtain ⟨hxb1, hxb2⟩ := hxb
              have HIS := Lib.hid his
              clear hb3 his hys hys'
              gi_wp2
              have hgs := grownBy_setCell' W2 (ob + 1) (.int .i64 ((cj.length : Int) + x.N))
              have hj1 : JoinRel w g ob m (ob + 2) T (cat (xs.take (j + 1))).length (D :: ds) (W2.setCell ⟨ob + 1, 0, none⟩ (.int .i64 ((cj.length : Int) + x.N))) := by
                have hmg : Marks (ob + 2) (W2.setCell ⟨ob + 1, 0, none⟩ (.int .i64 ((cj.length : Int) + x.N))) (D :: ds) := by
                  refine ⟨⟨by omega, (Below.heap_setCell _ _ _ _ (by dsimp only; omega)).trans hK, fun hD2 => ?_⟩, hI.marks.keeps (KeepsOthers.setCell _ _ _)⟩
                  have := HMD.out D hD2
                  omega
                refine ⟨⟨bs, hb1, hb2.far (p := ⟨ob + 1, 0, none⟩) (by dsimp only; omega) _, ?_⟩, hI.box.far (p := ⟨ob + 1, 0, none⟩) (by dsimp only; omega) _, ?_, hI.res.far (p := ⟨ob + 1, 0, none⟩) (by dsimp only; omega) _, hI.low.setCell (p := ⟨ob + 1, 0, none⟩) (by dsimp only; omega) _, hmg, by have := hgs.size; omega⟩
                · rw [HCL.out]; exact HIS.out
                · have := hI.at_.set (.int .i64 ((cj.length : Int) + x.N))
                  rw [HCL.out]
                  have e : (((cj.length + lx.length : Nat)) : Int) = (cj.length : Int) + x.N := by have := HLX.out; omega
                  rw [e]
                  exact this
              refine HKK.out _ _ ⟨xn - (j + 1), by have := HNN.out; omega, HJI.out _ _ _ ⟨j + 1, D :: ds, fun i => match i with
                | 12 => .pointer (some ⟨W.heap.size, 0, none⟩)
                | 48 => .bool true
                | 49 => .pointer (some ⟨b, off + j * 2, none⟩)
                | 50 => .agg #[.int .i64 x.N, .slice x.A x.n x.c]
                | 51 => .agg #[.int .i64 x.N, .slice x.A x.n x.c]
                | 52 => .func (.func gf) #[] lb
                | 61 => .int .i64 cj.length
                | 62 => .pointer (some ⟨W.heap.size, 0, none⟩)
                | 63 => .int .i64 x.N
                | 64 => .int .i64 ((cj.length : Int) + x.N)
                | 65 => .int .i64 ((j : Int) + 1)
                | i => u i, rfl, by omega, hj1, rfl⟩⟩
            case stop =>
              rintro D c pre W _ _ h _
              exact h.elim
          · have htk : xs.take j = xs := List.take_of_length_le (by have := HXN.out; omega)
            have hJ2 := hJ
            rw [htk, ← HT.out] at hJ2
            obtain ⟨bs, hbl, hrow, his⟩ := hJ2.len
            rw [paint_full] at his
            clear htk
            gi_wp2
            have hp2 := hJ2.res.put2 (.int .i64 T.length) (.slice (some ⟨g, 0, none⟩) m m)
            have hro2 : Blk ((W.setCell ⟨w.heap.size, 0, none⟩ (.int .i64 T.length)).setCell ⟨w.heap.size, 1, none⟩ (.slice (some ⟨g, 0, none⟩) m m)) g 5 (encB bs) := (hrow.far (p := ⟨w.heap.size, 0, none⟩) (by simp; omega) _).far (p := ⟨w.heap.size, 1, none⟩) (by simp; omega) _
            refine leaves_marks (B := ob + 2) (hJ2.marks.keeps ((KeepsOthers.setCell _ _ _).trans (KeepsOthers.setCell _ _ _))) (by have := hJ2.size; simpa using this) fun W' hB => ?_
            obtain ⟨d1, d2, _, _⟩ := (hp2.below hB (by omega)).two
            refine ⟨.tuple #[.agg #[.int .i64 T.length, .slice (some ⟨g, 0, none⟩) m m], .int .i64 0], by simp [results, Tryd.results30, go_sem, d1, d2], ?_⟩
            rw [HRR.out, ← HT.out]
            exact ⟨some ⟨g, 0, none⟩, m, m, bs, rfl, hbl.symm, his, hle, byt_of_blk (hro2.below hB (by omega)), (((hJ2.low.setCell (p := ⟨w.heap.size, 0, none⟩) (by simp) _).setCell (p := ⟨w.heap.size, 1, none⟩) (by simp) _)).trans (hB.mono (by omega)), fun a ha _ => by injection ha with ha; subst ha; dsimp only; omega⟩
end Go.Proofs.YtcfbeelljhjnoaaDoor

namespace Go.Proofs.YtcfbeelljhjnoaaDoor

theorem numBits_succ (v W : Nat) : numBits v (W + 1) = v.testBit W :: numBits v W := by
  unfold numBits
  rw [List.range_succ_eq_map, List.map_cons, List.map_map]
  congr 1
  apply List.map_congr_left
  intro i _
  show v.testBit (W + 1 - 1 - (i + 1)) = v.testBit (W - 1 - i)
  congr 1
  omega
theorem mod_pow_succ (x i : Nat) : x % 2 ^ (i + 1) = x % 2 ^ i + 2 ^ i * (x.testBit i).toNat := by
  rw [Nat.pow_succ, Nat.mod_mul, Nat.testBit_eq_decide_div_mod_eq]
  congr 2
  rcases Nat.mod_two_eq_zero_or_one (x / 2 ^ i) with h | h <;> rw [h] <;> rfl
theorem numBits_from (v W : Nat) : ∀ a : Nat, (numBits v W).foldl (fun a b => 2 * a + b.toNat) a = a * 2 ^ W + v % 2 ^ W := by
  induction W with
  | zero => intro a; simp [numBits, Nat.mod_one]
  | succ W ih =>
    intro a
    rw [numBits_succ, List.foldl_cons, ih, mod_pow_succ, Nat.pow_succ]
    rw [Nat.add_mul, Nat.mul_comm (2 ^ W) 2, ← Nat.mul_assoc, Nat.mul_comm a 2, Nat.mul_comm (2 ^ W) (v.testBit W).toNat]
    omega
theorem num_back (v W : Nat) (h : v / 2 ^ W = 0) : numOf (numBits v W) = v := by
  unfold numOf
  rw [numBits_from]
  have hp : 0 < 2 ^ W := Nat.pos_of_ne_zero (by simp)
  have hlt : v < 2 ^ W := by
    rcases Nat.lt_or_ge v (2 ^ W) with h1 | h1
    · exact h1
    · have := Nat.div_pos h1 hp; omega
  rw [Nat.mod_eq_of_lt hlt]; omega

theorem flip1_get (l : List Bool) (i : Int) (j : Nat) : (flip1 l i)[j]? = if i.toNat = j then (if j < l.length then some (!(l[j]?.getD false)) else none) else l[j]? := by
  unfold flip1
  rw [List.getElem?_set]
  by_cases e : i.toNat = j
  · subst e; simp
  · simp [e]
theorem flip1_twice (l : List Bool) (i : Int) : flip1 (flip1 l i) i = l := by
  apply List.ext_getElem?
  intro j
  rw [flip1_get, flip1_get, flip1_length]
  by_cases e : i.toNat = j
  · simp only [e, if_true]
    by_cases h : j < l.length
    · simp [h]
    · simp [h]
  · simp [e]
theorem flip1_comm (l : List Bool) (i j : Int) : flip1 (flip1 l i) j = flip1 (flip1 l j) i := by
  apply List.ext_getElem?
  intro q
  rw [flip1_get, flip1_get, flip1_get, flip1_get, flip1_length, flip1_length]
  by_cases e : i.toNat = q <;> by_cases e2 : j.toNat = q <;> simp [e, e2]
theorem flips_flip1 (zs : List Int) : ∀ (l : List Bool) (z : Int), flips (flip1 l z) zs = flip1 (flips l zs) z := by
  induction zs with
  | nil => intro l z; rfl
  | cons y zs ih =>
    intro l z
    show flips (flip1 (flip1 l z) y) zs = flip1 (flips (flip1 l y) zs) z
    rw [flip1_comm, ih]
theorem flips_twice (zs : List Int) : ∀ l : List Bool, flips (flips l zs) zs = l := by
  induction zs with
  | nil => intro l; rfl
  | cons z zs ih =>
    intro l
    show flips (flip1 (flips (flip1 l z) zs) z) zs = l
    rw [flips_flip1, ih, flip1_twice]

theorem text_back (l : List Bool) (h : l.length ≤ 4096) : parseS (textOf l).data.toList = (0, l) := by
  have e : (textOf l).data.toList = l.map dig := rfl
  have h1 : (l.map dig).all isDig = true := by
    rw [List.all_map, List.all_eq_true]
    intro b _
    cases b <;> rfl
  have h2 : (l.map dig).map (· == 49) = l := by
    rw [List.map_map]
    conv => rhs; rw [← List.map_id l]
    apply List.map_congr_left
    intro b _
    cases b <;> rfl
  unfold parseS
  rw [e, List.length_map, if_neg (by omega), h1, h2]
  rfl
theorem text_size (l : List Bool) : (textOf l).size = l.length := by
  show (l.map dig).toArray.size = _
  simp
theorem ones_append (l r : List Bool) : onesOf (l ++ r) = onesOf l + onesOf r := by simp [onesOf]

theorem put_zero {N : Int} {bs : List UInt8} {v : Nat} {width : Int} {R : Int × List Bool} (hR : R = putS N bs v width) (h : R.1 = 0) :
    goodB N bs = true ∧ 0 ≤ width ∧ width ≤ 64 ∧ v / 2 ^ width.toNat = 0 ∧ R.2 = listOf N bs ++ numBits v width.toNat := by
  subst hR
  unfold putS at h ⊢
  split at h
  · rename_i hg
    split at h
    · rename_i hw
      split at h
      · cases h
      · rename_i hl
        rw [if_pos hg, if_pos hw, if_neg hl]
        exact ⟨hg, hw.1.1, hw.1.2, hw.2, rfl⟩
    · cases h
  · cases h
theorem slice_more {l : List Bool} {bs : List UInt8} (h : IsBits l bs) (hl : l.length ≤ 4096) (f t : Nat) (hf : f ≤ t) (ht : t ≤ l.length) : sliceS l.length bs f t = (0, (l.drop f).take (t - f)) := by
  unfold sliceS
  rw [if_pos (isBits_good h hl), isBits_listOf h, if_pos ⟨by omega, by omega, by omega⟩, Int.toNat_natCast, Int.toNat_natCast]
theorem flip_zero {N : Int} {bs : List UInt8} {zs : List Int} {R : Int × List Bool} (hR : R = flipS N bs zs) (h : R.1 = 0) : goodB N bs = true ∧ okAt N zs = true ∧ R.2 = flips (listOf N bs) zs := by
  subst hR
  unfold flipS at h ⊢
  split at h
  · rename_i hg
    split at h
    · rename_i ho
      rw [if_pos hg, if_pos ho]
      exact ⟨hg, ho, rfl⟩
    · cases h
  · cases h
theorem flip_more {l : List Bool} {bs : List UInt8} (h : IsBits l bs) (hl : l.length ≤ 4096) (zs : List Int) (ho : okAt l.length zs = true) : flipS l.length bs zs = (0, flips l zs) := by
  unfold flipS
  rw [if_pos (isBits_good h hl), isBits_listOf h, if_pos ho]
theorem join_zero {xs : List BV} {R : Int × List Bool} (hR : R = joinS xs) (h : R.1 = 0) : allGood xs = true ∧ R.2 = cat xs := by
  subst hR
  unfold joinS at h ⊢
  split at h
  · rename_i hg
    split at h
    · cases h
    · rename_i hl
      rw [if_pos hg, if_neg hl]
      exact ⟨hg, rfl⟩
  · cases h
end Go.Proofs.YtcfbeelljhjnoaaDoor

namespace Go.Proofs.YtcfbeelljhjnoaaDoor
open Go.RowKit

theorem join_of (xs : List BV) (k : Nat) (hg : allGood xs = true) (hk : k = xs.length ∨ 4096 < (cat (xs.take k)).length) : joinS xs = ofS (cat (xs.take k)) := by
  unfold joinS ofS
  rw [if_pos hg]
  rcases hk with rfl | hk
  · rw [List.take_length]
  · have := cat_take_le xs k
    rw [if_pos (by omega), if_pos hk]
theorem map_app (l r : List Bool) : (l ++ r).map Value.bool = l.map Value.bool ++ r.map Value.bool := List.map_append
theorem bool_one (l : List Bool) : ∀ u ∈ l.map Value.bool, u.oneCell' = true := by
  intro u hu
  obtain ⟨b, _, rfl⟩ := List.mem_map.1 hu
  rfl

set_option maxRecDepth 100000 in
set_option maxHeartbeats 2000000 in
theorem rjoin_any (X : Option Addr) (xn xc : Nat) (xs : List BV) (w : World) (hxn : xn = xs.length) (hxm : xn ≤ maxLen) (hX : BVs w.heap.size w X xs) (hok : ∀ x ∈ xs, BVok w.heap.size w x) :
    Calls Tryd.prog 36 #[.slice X xn xc] w (Res w (joinS xs)) := by
  unfold maxLen at hxm
  have HXN := Lib.hid hxn; have HX := Lib.hid hX; have HOK := Lib.hid hok; clear hxn hX hok
  obtain ⟨R, hR⟩ : ∃ R, R = joinS xs := ⟨_, rfl⟩
  rw [← hR]
  have HR := Lib.hid hR; clear hR
  obtain ⟨i0, hi, hz0, hz1, hz2⟩ := info_parts Tryd.info4
  go_enter Tryd.func36, Tryd.ntmps36
  go_wp2
  go_loopw [5] (fun i wr => ∃ k : Nat, k ≤ xn ∧ i = .int .i64 k ∧ allGood (xs.take k) = true ∧ Blk wr w.heap.size 28 #[.int .i64 0, .slice none 0 0] ∧ Below w.heap.size w wr)
    (fun i _ => xn - (intOf i).toNat)
  case atStart => exact ⟨0, by omega, rfl, rfl, Blk.new w 28 _, (Below.refl _ _).alloc (Nat.le_refl _) _⟩
  case round =>
    obtain ⟨k, hk, rfl, hall, q1, hBr⟩ := hrel
    have HALL := Lib.hid hall; clear hall
    obtain ⟨c1, c2, f1, f2⟩ := q1.two
    have hlw := q1.lt
    by_cases hlt : k < xn
    · obtain ⟨x, hx⟩ : ∃ x, xs[k]? = some x := ⟨_, List.getElem?_eq_getElem (by have := HXN.out; omega)⟩
      obtain ⟨b, off, rfl, hbl, hc0, hc1⟩ := HX.out.at_ hBr hx
      have hgs := good_snoc (xs.take k) x
      rw [← take_snoc_bv xs k x hx] at hgs
      have hgn := good_not xs k x hx
      have hxo := HOK.out x (List.mem_of_getElem? hx)
      have hck := rcheck_any x.N x.A x.n x.c x.bs wr hxo.1 hxo.2.1 ((hxo.2.2.below hBr).mono hBr.size)
      by_cases hgx : goodB x.N x.bs = true
      · rw [chk_yes hgx] at hck
        rw [hgx, HALL.out] at hgs
        have HCK := Lib.hid hck; have HGS := Lib.hid hgs
        clear hck hgs hgn hgx hx hxo
        go_wp2_with (go_at_call 49; refine HCK.out.mono ?_; rintro e w2 ⟨rfl, hB2⟩; have q2 := q1.below hB2 hlw)
        go_roundw
        case rel => exact ⟨k + 1, by omega, by go_num, HGS.out, q2, hBr.trans (hB2.mono hBr.size)⟩
        case measure => simp [intOf]; omega
      · rw [chk_no (by simpa using hgx)] at hck
        have hr := hgn (by simpa using hgx)
        have HCK := Lib.hid hck; have HG := Lib.hid hr
        clear hck hgs hgn hgx hx hr hxo
        go_wp2_with (go_at_call 49; refine HCK.out.mono ?_; rintro e w2 ⟨rfl, hB2⟩; have q2 := q1.below hB2 hlw; obtain ⟨d1, d2, e1, e2⟩ := q2.two; have hlw2 := q2.lt)
        rw [HR.out, show joinS xs = (10, []) by unfold joinS; rw [HG.out]; rfl]
        exact bodyPost_ret (v := .tuple #[.agg #[.int .i64 0, .slice none 0 0], .int .i64 10]) (by simp [results, Tryd.results36, go_sem, d1, d2]) rfl (res_err 10 (((hBr.trans (hB2.mono hBr.size)).setCell (p := ⟨w.heap.size, 0, none⟩) (by simp) _).setCell (p := ⟨w.heap.size, 1, none⟩) (by simp) _))
    · have hgood := HALL.out
      rw [List.take_of_length_le (by have := HXN.out; omega)] at hgood
      have HGD := Lib.hid hgood; clear hgood
      go_wp2
      go_loopw [4, 6] (fun lv i wr2 => ∃ k : Nat, k ≤ xn ∧ i = .int .i64 k ∧ (cat (xs.take k)).length ≤ 8192 ∧ wr2.ownsRow (w.heap.size + 1) 4 1 lv (cat (xs.take k)).length ((cat (xs.take k)).map Value.bool) ∧ Blk wr2 w.heap.size 28 #[.int .i64 0, .slice none 0 0] ∧ Below w.heap.size w wr2)
        (fun _ i _ => xn - (intOf i).toNat)
      case atStart => exact ⟨0, by omega, rfl, by simp [cat], World.ownsRow_nil _ _ _ _, q1, hBr⟩
      case round =>
        clear c1 c2 f1 f2 q1 hBr hlw HALL hlt hk
        obtain ⟨k2, hk, rfl, hle, hrow, q1, hBr⟩ := hrel
        obtain ⟨c1, c2, f1, f2⟩ := q1.two
        have hlw := q1.lt
        obtain ⟨VA, vc, rfl, hVA⟩ := bools_of_own hrow
        by_cases hgo : k2 < xn ∧ (cat (xs.take k2)).length ≤ 4096
        · obtain ⟨hlt, hl4⟩ := hgo
          obtain ⟨x, hx⟩ : ∃ x, xs[k2]? = some x := ⟨_, List.getElem?_eq_getElem (by have := HXN.out; omega)⟩
          obtain ⟨b, off, rfl, hbl, hc0, hc1⟩ := HX.out.at_ hBr hx
          have hcs := cat_snoc (xs.take k2) x
          rw [← take_snoc_bv xs k2 x hx] at hcs
          have hxo := HOK.out x (List.mem_of_getElem? hx)
          have hli := list_any x.N x.A x.n x.c x.bs wr hxo.1 hxo.2.1 ((hxo.2.2.below hBr).mono hBr.size)
          have hll := lst_length x.N x.bs
          generalize lst x.N x.bs = lx at *
          generalize hcj : cat (xs.take k2) = cj at *
          have HLI := Lib.hid hli; have HCS := Lib.hid hcs
          clear hli hcs hx hxo hcj hVA
          have hl4i : (cj.length : Int) ≤ 4096 := by omega
          have hd1 : decide ((cj.length : Int) ≤ 4096) = true := by simpa using hl4i
          go_wp2_with fail
          refine HLI.out.mono ?_
          rintro e w2 ⟨lv2, rfl, hown2, hB2⟩
          have q2 := q1.below hB2 hlw
          have hBr2 := hBr.trans (hB2.mono hBr.size)
          have hrow2 : w2.ownsRow (w.heap.size + 1) 4 1 (.slice VA cj.length vc) cj.length (cj.map Value.bool) := hrow.kept (only_of_below hB2 none) (by
            rcases hrow.2 with ⟨h1, _⟩ | ⟨g, cap, cur, h1, _⟩
            · rw [h1]; exact .inl rfl
            · exact .inr (by rw [h1]; simp [Value.ownBlock]))
          rcases own_bools hown2 with ⟨rfl, hl0⟩ | ⟨g2, cap2, rfl, hgb2, hgl2, hlc2, hcm2, hcell2, _⟩
          · subst hl0
            go_wp2_with (at_builtin; refine wpList_append_own_none rfl _ _ 96 rfl (w.heap.size + 1) 4 i0 1 Tryd.underlying96 hi _ _ _ rfl hrow2 rfl ?_)
            go_roundw
            case rel => exact ⟨k2 + 1, by omega, by go_num, by rw [HCS.out]; simpa using hle, by rw [HCS.out]; simpa using hrow2, q2, hBr2⟩
            case measure => simp [intOf]; omega
          · have hq2l := q2.lt
            go_wp2_with (at_builtin; refine wpList_append_own _ rfl _ _ 96 rfl (w.heap.size + 1) 4 i0 (.bool false) 1 1 Tryd.underlying96 hi hz0 hz1 hz2 rfl (by decide) _ _ _ rfl hrow2 ⟨g2, 0, none⟩ lx.length cap2 (lx.map Value.bool) rfl (by simp) (fun j u hj => hown2.cells (g := g2) rfl j u hj) (bool_one lx) (by unfold maxLen; omega) (by omega) (by omega) ?_; intro v' w3 hown3 hgrow3 _)
            have q3 := q2.grown hgrow3 (fun e => by have := (hrow2.lt _ e.symm).1; omega)
            have hBr3 := hBr2.grown hgrow3 hBr2.size (fun k ek => by have := (hrow2.lt k ek).1; omega)
            rw [← map_app, ← List.length_append] at hown3
            go_roundw
            case rel => exact ⟨k2 + 1, by omega, by go_num, by rw [HCS.out, List.length_append]; omega, by rw [HCS.out]; exact hown3, q3, hBr3⟩
            case measure => simp [intOf]; omega
        · have hro : R = ofS (cat (xs.take k2)) := by
            rw [HR.out]; exact join_of xs k2 HGD.out (by have := HXN.out; omega)
          have hof := rof_any VA _ vc _ wr rfl (by unfold maxLen; omega) hVA
          rw [← hro] at hof
          have HOF := Lib.hid hof
          generalize (cat (xs.take k2)).length = LL at *
          clear hof hro HR hVA hrow HX HOK HGD
          by_cases hlt : k2 < xn
          · have hl4 : ¬ LL ≤ 4096 := fun h => hgo ⟨hlt, h⟩
            have hd1 : decide ((LL : Int) ≤ 4096) = false := by simp; omega
            clear hgo
            go_wp2_with (go_at_call 68; refine HOF.out.mono ?_; rintro e w3 ⟨A3, n3, c5, bs3, rfl, hn3, his3, hl3, hA3, hB3, hF3⟩; have HN3 := Lib.hid hn3; clear hn3; have q3 := q1.below hB3 hlw; obtain ⟨d1, d2, g1, g2⟩ := q3.two)
            have hBf := (hBr.trans (hB3.mono hBr.size))
            refine bodyPost_ret (v := .tuple #[.agg #[.int .i64 R.2.length, .slice A3 n3 c5], .int .i64 R.1]) (by simp [results, Tryd.results36, go_sem, d1, d2]) rfl
              ⟨A3, n3, c5, bs3, rfl, HN3.out, his3, hl3, ?_, (hBf.setCell (p := ⟨w.heap.size, 0, none⟩) (by simp) _).setCell (p := ⟨w.heap.size, 1, none⟩) (by simp) _, fun a ha hb => Nat.le_trans hBr.size (hF3 a ha hb)⟩
            have h2 := (hA3.set_low hF3 (p := ⟨w.heap.size, 0, none⟩) hlw (.int .i64 R.2.length)).set_low hF3 (p := ⟨w.heap.size, 1, none⟩) hlw (.slice A3 n3 c5)
            simpa using h2
          · clear hgo
            go_wp2_with (go_at_call 68; refine HOF.out.mono ?_; rintro e w3 ⟨A3, n3, c5, bs3, rfl, hn3, his3, hl3, hA3, hB3, hF3⟩; have HN3 := Lib.hid hn3; clear hn3; have q3 := q1.below hB3 hlw; obtain ⟨d1, d2, g1, g2⟩ := q3.two)
            have hBf := (hBr.trans (hB3.mono hBr.size))
            refine bodyPost_ret (v := .tuple #[.agg #[.int .i64 R.2.length, .slice A3 n3 c5], .int .i64 R.1]) (by simp [results, Tryd.results36, go_sem, d1, d2]) rfl
              ⟨A3, n3, c5, bs3, rfl, HN3.out, his3, hl3, ?_, (hBf.setCell (p := ⟨w.heap.size, 0, none⟩) (by simp) _).setCell (p := ⟨w.heap.size, 1, none⟩) (by simp) _, fun a ha hb => Nat.le_trans hBr.size (hF3 a ha hb)⟩
            have h2 := (hA3.set_low hF3 (p := ⟨w.heap.size, 0, none⟩) hlw (.int .i64 R.2.length)).set_low hF3 (p := ⟨w.heap.size, 1, none⟩) hlw (.slice A3 n3 c5)
            simpa using h2
end Go.Proofs.YtcfbeelljhjnoaaDoor
