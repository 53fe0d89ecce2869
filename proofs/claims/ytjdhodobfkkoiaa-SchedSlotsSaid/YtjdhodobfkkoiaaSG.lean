/-
  slices.SortFunc over spans, by where they begin: what the row holds is a sorted permutation; all below the call's own memory stays. Condition: a row of the call's own, of one span or more.
-/
import Derived.Test.YtjdhodobfkkoiaaSF
import Derived.Test.YtjdhodobfkkoiaaSL
namespace Go.Proofs.Ytjdhodobfkkoiaa
open Go.RowKit Go.Shelf Go.Lib Go.Sort

def encSp (x : Sp) : List Value := [.int .i64 x.1, .int .i64 x.2]
def cfSp (x y : Sp) : Int := Lib.compareInt x.1 y.1
theorem ltSp (x y : Sp) : ltOf cfSp x y = decide (x.1 < y.1) := by
  unfold ltOf cfSp Lib.compareInt
  by_cases h1 : x.1 < y.1
  · simp [h1]
  · by_cases h2 : y.1 < x.1 <;> simp [h1, h2]
theorem swoSp : SWO (ltOf cfSp) where
  irrefl x := by rw [ltSp]; simp
  trans x y z h1 h2 := by rw [ltSp] at *; simp at *; omega
  ntrans x y z h1 h2 := by rw [ltSp] at *; simp at *; omega

set_option maxHeartbeats 1000000 in
theorem closure_any (x y : Sp) (W : World) : Calls Try.prog 41 #[.agg #[.int .i64 x.1, .int .i64 x.2], .agg #[.int .i64 y.1, .int .i64 y.2]] W fun e w' => e = .returned (.int .i64 (cfSp x y)) ∧ ∃ q os', w' = grow (W.drewN q) os' := by
  have hcon := fun W' => AnyG.cmp_Compare_int Try.cmpSp x.1 y.1 W'
  change ∀ W', Calls Try.prog 42 _ _ _ at hcon
  unfold cfSp
  generalize Lib.compareInt x.1 y.1 = r at hcon ⊢
  go_enter Try.func41, Try.ntmps41
  go_wp2_with (go_at_call 42; refine (hcon _).mono ?_; rintro e w' ⟨rfl, rfl⟩)
  go_ret
  exact ⟨rfl, 0, _, by rw [alloc_eq_grow, alloc_eq_grow, grow_grow]; rfl⟩
theorem cmpLaysSp (blk off size : Nat) (w : World) : CmpLays Try.prog 41 #[] encSp 2 cfSp blk off size w := fun _ _ _ _ x y => closure_any x y _

theorem holds_own {w : World} {base g cap : Nat} {d : List Sp} (h : w.ownsRow base 23 2 (.slice (some ⟨g, 0, none⟩) d.length cap) d.length (cellsS d)) : HoldsK encSp 2 w g 0 d.toArray := by
  intro j hj
  rw [size_flatK] at hj
  have hj2 : j / 2 < d.length := by simp at hj; omega
  obtain ⟨g1, g2⟩ := cellsS_get d (j / 2) hj2
  have hg : d[j / 2]?.getD (0, 0) = d.toArray[j / 2]! := by simp [hj2]
  rw [hg] at g1 g2
  have hfz : w.frozen? ⟨g, 0 + j, none⟩ = false := by
    rcases h.2 with ⟨h1, _⟩ | ⟨g', cap', cur, h1, _, hh, _⟩
    · cases h1
    · injection h1 with h1 _ _
      injection h1 with h1
      injection h1 with h1
      subst h1
      have hb : Blk w g 23 cur := hh
      exact hb.frozen _
  refine ⟨?_, hfz⟩
  rw [get_flatK _ _ _ _ hj]
  rcases Nat.mod_two_eq_zero_or_one j with hm | hm
  · have e2 : j / 2 * 2 = j := by omega
    rw [e2] at g1
    have := h.cells (g := g) rfl _ _ g1
    rw [addr_add] at this
    rw [this, hm]; rfl
  · have e2 : j / 2 * 2 + 1 = j := by omega
    rw [e2] at g2
    have := h.cells (g := g) rfl _ _ g2
    rw [addr_add] at this
    rw [this, hm]; rfl

theorem sort_any (g cap base : Nat) (d : List Sp) (w : World) (h : w.ownsRow base 23 2 (.slice (some ⟨g, 0, none⟩) d.length cap) d.length (cellsS d)) (hm : d.length ≤ 65536) :
    Calls Try.prog 40 #[.slice (some ⟨g, 0, none⟩) d.length cap, .func (.func 41) #[] #[]] w fun e w' =>
      e = .returned (.tuple #[]) ∧ ∃ d' : List Sp, (∀ s, s ∈ d' ↔ s ∈ d) ∧ d'.Pairwise (fun a b => a.1 ≤ b.1) ∧ d'.length = d.length ∧ Smps w'.heap.size w' (some ⟨g, 0, none⟩) d' ∧ Below base w w' := by
  have hH := holds_own h
  obtain ⟨hbg, hgl⟩ := h.lt g rfl
  have eg : ∀ args w, (callFunc 41 args).run Try.prog w = .ok (.enter 41 args) w := enters_of Try.func41 (by kernel_rfl) rfl
  have hcon := AnyQ.slices_SortFunc Try.sortSp 2 Try.isAgg23 Try.sizeOf23 encSp (fun _ => rfl) (fun x v hv => by simp [encSp] at hv; rcases hv with rfl | rfl <;> rfl) cfSp swoSp 41 #[] g 0 cap d.toArray w eg (cmpLaysSp g 0 d.toArray.size w) hH hgl (by simp; omega)
  change Calls Try.prog 40 #[.slice (some ⟨g, 0, none⟩) d.length cap, _] w _ at hcon
  refine hcon.mono ?_
  rintro e w' ⟨rfl, d', n, os, hp, hs, rfl⟩
  obtain ⟨hsz, -, hperm⟩ := hp
  have hdl : d'.size = d.length := by simpa using hsz
  have hp2 : d'.toList.Perm d := by
    have e1 : d'.extract 0 d.toArray.size = d' := by rw [← hsz]; simp
    have e2 : d.toArray.extract 0 d.toArray.size = d.toArray := by simp
    rw [e1, e2] at hperm
    simpa using hperm
  refine ⟨rfl, d'.toList, fun s => hp2.mem_iff, ?_, by simpa using hdl, fun hne => ⟨g, 0, rfl, ?_, fun j hj => ?_⟩, ?_⟩
  · rw [List.pairwise_iff_getElem]
    intro i j hi hj hij
    have := hs i j (Nat.zero_le _) hij (by simp at hj ⊢; omega)
    rw [ltSp, decide_eq_false_iff_not] at this
    have e1 : d'[i]! = d'.toList[i] := by simp at hi; simp [hi]
    have e2 : d'[j]! = d'.toList[j] := by simp at hj; simp [hj]
    rw [e1, e2] at this
    omega
  · show g < (grow _ os).heap.size
    have : (putRowK encSp 2 (Sort.ahead w n) g 0 d').heap.size = w.heap.size := size_putRowK encSp 2 (Sort.ahead w n) g 0 d'
    simp [grow]; omega
  · have hj' : j < d'.size := by simpa using hj
    have hk := holdsK_grow encSp 2 (putRowK encSp 2 (Sort.ahead w n) g 0 d') os g 0 d' (by rw [size_putRowK]; exact hgl) (holdsK_putRowK encSp 2 (Sort.ahead w n) g 0 d.toArray d' (holdsK_ahead encSp 2 w n g 0 d.toArray hH) hsz)
    have hg : d'.toList[j]?.getD (0, 0) = d'[j]! := by simp [hj']
    rw [hg]
    have c0 := (hk.cell (i := j) (c := 0) hj' (by omega)).1
    have c1 := (hk.cell (i := j) (c := 1) hj' (by omega)).1
    simp only [Nat.zero_add, Nat.add_zero] at c0 c1 ⊢
    exact ⟨c0, c1⟩
  · refine ⟨rfl, rfl, rfl, ?_, fun k hk => ?_⟩
    · have : (putRowK encSp 2 (Sort.ahead w n) g 0 d').heap.size = w.heap.size := size_putRowK encSp 2 (Sort.ahead w n) g 0 d'
      show w.heap.size ≤ (grow _ os).heap.size
      simp [grow]; omega
    · have hk2 : k < (putRowK encSp 2 (Sort.ahead w n) g 0 d').heap.size := by rw [size_putRowK]; show k < w.heap.size; omega
      refine (heap_grow_old _ os hk2).trans ?_
      show (w.heap.modify g _)[k]? = _
      rw [Array.getElem?_modify, if_neg (by omega)]
end Go.Proofs.Ytjdhodobfkkoiaa
