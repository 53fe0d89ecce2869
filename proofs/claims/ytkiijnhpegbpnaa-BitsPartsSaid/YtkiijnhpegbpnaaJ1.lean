/-
  Ones of package bits answers how many bits are 1, and 0 for bits that may not be. No condition but that the bytes can be read.
-/
import Derived.Test.YtkiijnhpegbpnaaH4
namespace Go.Proofs.Ytkiijnhpegbpnaa
open Go.RowKit Go.Shelf
attribute [local go_sem] Oper.semAt_some

/-- How many are 1. -/
def onesOf (l : List Bool) : Nat := l.countP (· == true)
theorem ones_snoc (pre : List (Nat × Bool)) (x : Nat × Bool) : onesOf ((pre ++ [x]).map (·.2)) = onesOf (pre.map (·.2)) + (if x.2 = true then 1 else 0) := by
  simp only [onesOf, List.map_append, List.countP_append, List.map_cons, List.map_nil, List.countP_singleton]
  cases x.2 <;> rfl
theorem ones_le (l : List Bool) : onesOf l ≤ l.length := List.countP_le_length

set_option maxRecDepth 100000 in
set_option maxHeartbeats 2000000 in
theorem ones_any (N : Int) (A : Option Addr) (n c : Nat) (bs : List UInt8) (w : World) (hn : n = bs.length) (hm : n ≤ maxLen) (hA : Byt w.heap.size w A bs) :
    Calls Try.prog 17 #[.agg #[.int .i64 N, .slice A n c]] w fun e w' => e = .returned (.int .i64 (onesOf (lst N bs))) ∧ Below w.heap.size w w' := by
  have hall := fun w1 (h : Below w.heap.size w w1) => all_any N A n c bs w1 hn hm ((hA.below h).mono h.size)
  have hlen := lst_length N bs
  generalize lst N bs = l at *
  have HALL := Lib.hid hall; clear hall hA hn
  unfold maxLen at hm
  refine (callsIn_wide (n := 5)).1 ?_
  refine callsIn_of_wp_marks Try.func17 rfl trivial ?_ rfl
  simp only [Try.ntmps17, List.size_toArray, List.length_cons, List.length_nil, Nat.reduceAdd, Nat.reduceSub, Array.replicate_succ, Array.replicate_zero, List.push_toArray, List.append_toArray, List.nil_append, List.cons_append]
  gi_wp2_with (refine ⟨trivial, ?_⟩; gi_at_call 12; refine (callsIn_wide.2 (HALL.out _ (((Below.refl _ _).alloc (Nat.le_refl _) _).alloc (by simp) _))).mono ?_; rintro e w1 ⟨gf, lb, g, ob, rfl, hent, htells, hg1, ho1, hg2, ho2, hB⟩; have HT := Lib.hid htells; clear htells; have HE := Lib.hid hent; clear hent)
  have bD : Boxed w1 (w.heap.size + 1) 3 (.int .i64 0) := by
    have h2 : Boxed ((w.alloc (.cells #[.int .i64 N, .slice A n c] 24)).alloc (.cells #[.int .i64 0] 3)) (w.heap.size + 1) 3 (.int .i64 0) := by
      simpa using Boxed.new (w.alloc (.cells #[.int .i64 N, .slice A n c] 24)) 3 (.int .i64 0)
    exact (hB.block _ (by simp)).trans h2
  have hBw : Below w.heap.size w w1 := (((Below.refl _ _).alloc (Nat.le_refl _) _).alloc (by simp) _).trans (hB.mono (by simp; omega))
  have hg3 : w.heap.size + 2 ≤ g := by simpa using hg1
  have ho3 : w.heap.size + 2 ≤ ob := by simpa using ho1
  have hs0 := hBw.size
  clear hg1 ho1 hB
  refine wpIn_rangeFunc_ownG rfl (by omega) (gf := gf) (lb := lb) rfl trivial HE.out (HT.out (5 - 1) (by omega)) Keeps2.trans (keeps2_b hg2 ho2) (Below.refl _ _) (fun _ => rfl)
    (fun pre W => Boxed W (w.heap.size + 1) 3 (.int .i64 (onesOf (pre.map (·.2)))) ∧ Below w.heap.size w W)
    (fun _ _ _ => False)
    (OwnFrom.and (Own.from (boxed_own _ _ (fun pre : List (Nat × Bool) => Value.int .i64 (onesOf (pre.map (·.2))))) _) (ownFrom_below (Nat.le_refl _) (by omega)))
    (fun _ _ _ _ _ hs _ _ => hs)
    ⟨bD, hBw⟩
    (fun x => { tmps := #[.agg #[.int .i64 N, .slice A n c], .pointer (some ⟨w.heap.size, 0, none⟩), .int .i64 0, .pointer (some ⟨w.heap.size + 1, 0, none⟩), undef, .bool x.2, .agg #[.int .i64 N, .slice A n c], .func (.func gf) #[] lb, .int .i64 (x.1 : Int), .bool x.2, undef, undef, undef, undef], defers := [] }) ?assign ?body ?done ?stop
  case assign =>
    intro l x W K hK
    gi_wp2
    exact hK
  case body =>
    rintro lp pre ⟨j, b⟩ W ⟨hv, hBb⟩ hlt
    have hc := hv.cell
    have hf := hv.frozen
    have hon := ones_snoc pre (j, b)
    have hle := ones_le (pre.map (·.2))
    rw [List.length_map] at hle
    generalize onesOf (pre.map (·.2)) = x at *
    have HON := Lib.hid hon; clear hon
    cases b with
    | true =>
      dsimp only
      gi_wp2
      refine ⟨(KeepsOthers.setCell _ _ _).from _, ⟨Below.heap_setCell _ _ _ _ (by simp; omega), Below.heap_setCell _ _ _ _ (by simp; omega)⟩, ?_, hBb.setCell (p := ⟨w.heap.size + 1, 0, none⟩) (by simp) _⟩
      rw [HON.out]
      exact hv.set _
    | false =>
      dsimp only
      gi_wp2
      refine ⟨(KeepsOthers.refl _).from _, Keeps2.refl _ _ _, ?_, hBb⟩
      rw [HON.out]
      exact hv
  case done =>
    rintro D ys W hD rfl ⟨hv, hBb⟩ hK
    rw [upto_snd] at hv
    have hc := hv.cell
    gi_wp2
    refine ⟨by simp, .inl ⟨_, _, rfl, run_takeDeferred hK, ?_⟩⟩
    exact ⟨_, results_tmp rfl _ _ _, rfl, hBb.trans (belowK_b (w := w) (Nat.le_refl _) W D _ _ (by omega) hK rfl rfl)⟩
  case stop =>
    rintro D c pre W _ _ h _
    exact h.elim
end Go.Proofs.Ytkiijnhpegbpnaa
