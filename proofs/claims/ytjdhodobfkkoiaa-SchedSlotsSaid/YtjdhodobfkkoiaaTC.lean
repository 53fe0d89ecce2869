/-
  Slots of package sched, whole, and what is told of it, up to so many. Conditions: those that each theorem names.
-/
import Derived.Test.YtjdhodobfkkoiaaTB
namespace Go.Proofs.Ytjdhodobfkkoiaa
open Go.RowKit Go.Shelf
attribute [local go_sem] Oper.semAt_some

/-- A sequence that tells the first C slots from k0 on. -/
abbrev TellsSl (gf : Nat) (lb : Array Value) (sb : Nat) (g : Gr) (k0 : Int) (C : Nat) (w : World) : Prop :=
  ∀ q, SeqOwn Fence.wide (q + 3) Try.prog gf lb (encSl g k0) (KeepB sb) (fun pre x => pre = List.range x) (fun _ _ => True) (fun ys => ys = List.range C) (fun pre => ∃ m, m < C ∧ pre = List.range (m + 1)) w
def SlGives (w : World) (g : Gr) (k0 : Int) (C : Nat) (e : Ending) (w' : World) : Prop :=
  ∃ (gf : Nat) (lb : Array Value) (sb : Nat), e = .returned (.func (.func gf) #[] lb) ∧ (∀ args w, (callFunc gf args).run Try.prog w = .ok (.enter gf args) w) ∧ (∀ w'', Below w'.heap.size w' w'' → TellsSl gf lb sb g k0 C w'') ∧ w.heap.size ≤ sb ∧ sb < w'.heap.size ∧ Below w.heap.size w w'

set_option maxRecDepth 100000 in
set_option maxHeartbeats 1000000 in
theorem slots1_own (sb : Nat) (g : Gr) (k0 : Int) (w : World) : TellsSl 47 #[] sb g k0 0 w := fun q lp J Jx W _ _ _ _ _ h0 => by
  refine callsIn_of_wp Try.func47 rfl trivial ?_ rfl
  simp only [Try.ntmps47, List.size_toArray, List.length_cons, List.length_nil, Nat.reduceAdd, Nat.reduceSub, Array.replicate_succ, Array.replicate_zero, List.push_toArray, List.append_toArray, List.nil_append, List.cons_append]
  gi_wp2
  go_end0
  exact ⟨⟨_, rfl⟩, h0⟩

/-- The first slot told. -/
def k0S (g : Gr) (s : Sp) : Int := if okG g ∧ okS s then firstS g s.1 else 0
/-- How many slots are told of a grid within a span. -/
def IsCount (g : Gr) (s : Sp) (C : Nat) : Prop := if okG g ∧ okS s then ((∀ j, isIn g (firstS g s.1) s.2 j ↔ j < C) ∧ (C : Int) * g.2.1 ≤ 1099511627776) else C = 0
theorem count_is (g : Gr) (s : Sp) : ∃ C, IsCount g s C := by
  unfold IsCount
  split
  · rename_i h
    obtain ⟨⟨⟨a1, a2⟩, ⟨b1, b2⟩, _⟩, o0, o1, o2⟩ := h
    exact in_count g (firstS g s.1) s.2 a1 b1 b2 (first_bound (a := g.1) (b := g.2.1) (n := g.2.2) (t := s.1) a1 b1 (by omega)).1
  · exact ⟨0, rfl⟩

set_option maxRecDepth 8000 in
set_option maxHeartbeats 2000000 in
theorem slots_any (a b n x y : Int) (C : Nat) (w : World) (hC : IsCount (a, b, n) (x, y) C) : Calls Try.prog 36 #[vG a b n, vS x y] w (SlGives w (a, b, n) (k0S (a, b, n) (x, y)) C) := by
  have h1 := fun W => checkG_any a b n W
  have h2 := fun W => scheck_any x y W
  simp only [chkG_if] at h1
  simp only [chkS_if] at h2
  unfold IsCount at hC
  obtain ⟨kg, ks, bc⟩ := bx2 w #[.int .i64 a, .int .i64 b, .int .i64 n] #[.int .i64 x, .int .i64 y] 41 23
  by_cases hg : okG (a, b, n)
  · simp only [hg, if_true] at h1
    by_cases hs : okS (x, y)
    · simp only [hs, if_true] at h2
      rw [if_pos ⟨hg, hs⟩] at hC
      rw [show k0S (a, b, n) (x, y) = firstS (a, b, n) x from if_pos ⟨hg, hs⟩]
      have H1 := Lib.hid h1; have H2 := Lib.hid h2; have HC := Lib.hid hC; have HG := Lib.hid hg; have HS := Lib.hid hs; clear h1 h2 hC hg hs
      go_enter Try.func36, Try.ntmps36
      go_wp2_with fail
      generalize (w.alloc _).alloc _ = u0 at *
      refine (H1.out _).mono ?_
      rintro e w1 ⟨rfl, hD⟩
      dsimp only
      replace kg := kg.on hD; replace ks := ks.on hD; replace bc := below_then bc hD; clear hD
      obtain ⟨p0, p1, -, -⟩ := ks.two
      go_wp2_with fail
      clear p0 p1
      refine (H2.out _).mono ?_
      rintro e w2 ⟨rfl, hD⟩
      dsimp only
      replace kg := kg.on hD; replace ks := ks.on hD; replace bc := below_then bc hD; clear hD
      go_wp2
      go_ret
      exact ⟨48, _, w.heap.size + 1, rfl, enters_of Try.func48 (by kernel_rfl) rfl, fun w'' hD q => slots2_own q _ _ C a b n x y HG.out (by have := HS.out; unfold okS at this; dsimp only at this; omega) HC.out.1 HC.out.2 w'' (kg.on hD) (ks.on hD), by omega, ks.lt, bc⟩
    · simp only [hs, if_false] at h2
      rw [if_neg (fun h => hs h.2)] at hC
      subst hC
      have H1 := Lib.hid h1; have H2 := Lib.hid h2; clear h1 h2 hg hs
      go_enter Try.func36, Try.ntmps36
      go_wp2_with fail
      generalize (w.alloc _).alloc _ = u0 at *
      refine (H1.out _).mono ?_
      rintro e w1 ⟨rfl, hD⟩
      dsimp only
      replace kg := kg.on hD; replace ks := ks.on hD; replace bc := below_then bc hD; clear hD
      obtain ⟨p0, p1, -, -⟩ := ks.two
      go_wp2_with fail
      clear p0 p1
      refine (H2.out _).mono ?_
      rintro e w2 ⟨rfl, hD⟩
      dsimp only
      replace ks := ks.on hD; replace bc := below_then bc hD; clear hD
      go_wp2
      go_ret
      exact ⟨47, #[], w.heap.size + 1, rfl, enters_of Try.func47 (by kernel_rfl) rfl, fun w'' _ => slots1_own _ _ _ w'', by omega, ks.lt, bc⟩
  · simp only [hg, if_false] at h1
    rw [if_neg (fun h => hg h.1)] at hC
    subst hC
    have H1 := Lib.hid h1; clear h1 h2 hg
    go_enter Try.func36, Try.ntmps36
    go_wp2_with fail
    generalize (w.alloc _).alloc _ = u0 at *
    refine (H1.out _).mono ?_
    rintro e w1 ⟨rfl, hD⟩
    dsimp only
    replace ks := ks.on hD; replace bc := below_then bc hD; clear hD
    go_wp2
    go_ret
    exact ⟨47, #[], w.heap.size + 1, rfl, enters_of Try.func47 (by kernel_rfl) rfl, fun w'' _ => slots1_own _ _ _ w'', by omega, ks.lt, bc⟩
end Go.Proofs.Ytjdhodobfkkoiaa
