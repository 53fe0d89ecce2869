/-
  Midpoint and Spread of package fta, and what the statements begin with. Conditions: those that each theorem names.
-/
import Derived.Test.YtfncccjiiipfoaaFG
namespace Go.Proofs.Ytfncccjiiipfoaa
open Go.RowKit

set_option maxRecDepth 4000 in
set_option maxHeartbeats 1000000 in
theorem mid_any (A : Option Addr) (n c : Nat) (l : List Int) (w : World) (hn : n = l.length) (hm : n ≤ 65536) (hA : Ints w.heap.size w A l) :
    Calls Try.prog 13 #[.slice A n c] w fun e w' => e = .returned (midV (midS l)) ∧ Below w.heap.size w w' := by
  have hk := kept_any A n c l w hn hm hA
  have hb := keptS_bound l
  unfold midV midS
  unfold keptV at hk
  generalize keptS l = r at *
  obtain ⟨a, b, e⟩ := r
  dsimp only at *
  unfold mOff at hb
  have HK := Lib.hid hk; clear hk hA hn
  have e1 : IntKind.i64.wrap (a + b) = a + b := IntWalk.i64_in _ (by omega)
  have e2 : IntKind.i64.wrap ((a + b) / 2) = (a + b) / 2 := IntWalk.i64_in _ (by omega)
  go_enter Try.func13, Try.ntmps13
  go_wp2_with (go_at_call 11; refine HK.out.mono ?_; rintro e w1 ⟨rfl, hB⟩)
  go_ret2
  exact ⟨rfl, hB⟩

set_option maxRecDepth 4000 in
set_option maxHeartbeats 1000000 in
theorem spread_any (A : Option Addr) (n c : Nat) (l : List Int) (w : World) (hn : n = l.length) (hm : n ≤ 65536) (hA : Ints w.heap.size w A l) :
    Calls Try.prog 16 #[.slice A n c] w fun e w' => e = .returned (.int .i64 (wrap64 (spreadS l))) ∧ w' = w := by
  by_cases h0 : n = 0
  · subst h0
    have : spreadS l = 0 := by unfold spreadS; rw [if_pos hn.symm]
    rw [this, IntWalk.wrap64_in 0 (by omega)]
    clear hA hn this
    go_enter Try.func16, Try.ntmps16
    go_wp2
    go_ret
    exact ⟨rfl, rfl⟩
  have d0 : decide ((n : Int) = 0) = false := by simp; omega
  have d0' : ((n : Int) == 0) = false := by simp; omega
  have hlo := jmin_any A n c l w hn (by unfold maxLen; omega) (by omega) hA
  have hhi := jmax_any A n c l w hn (by unfold maxLen; omega) (by omega) hA
  have : spreadS l = nth (sortI l) (l.length - 1) - nth (sortI l) 0 := by unfold spreadS; rw [if_neg (by omega)]
  rw [this]; clear this
  generalize nth (sortI l) 0 = lo at *
  generalize nth (sortI l) (l.length - 1) = hi at *
  have HLO := Lib.hid hlo; have HHI := Lib.hid hhi; clear hlo hhi hA hn
  go_enter Try.func16, Try.ntmps16
  go_wp2_with (first | (go_at_call 28; refine HLO.out.mono ?_; rintro e w1 ⟨rfl, rfl⟩) | (go_at_call 27; refine HHI.out.mono ?_; rintro e w1 ⟨rfl, rfl⟩))
  go_ret
  exact ⟨rfl, rfl⟩

theorem nth_is {l : List Int} {i : Nat} {a : Int} (hi : i < l.length) (h1 : i < cntL a l) (h2 : cntL (a - 1) l ≤ i) : nth (sortI l) i = a := by
  have e1 := (sort_nth l a i hi).2 h1
  have e2 := sort_nth l (a - 1) i hi
  have : ¬ nth (sortI l) i ≤ a - 1 := fun h => by have := e2.1 h; omega
  omega
theorem mid_four : midS [5, 1, 9, 2] = (3, 0) := by
  have a0 : nth (sortI [5, 1, 9, 2]) 0 = 1 := nth_is (by decide) (by decide) (by decide)
  have a1 : nth (sortI [5, 1, 9, 2]) 1 = 2 := nth_is (by decide) (by decide) (by decide)
  have a2 : nth (sortI [5, 1, 9, 2]) 2 = 5 := nth_is (by decide) (by decide) (by decide)
  have a3 : nth (sortI [5, 1, 9, 2]) 3 = 9 := nth_is (by decide) (by decide) (by decide)
  have h := keptS_fit (l := [5, 1, 9, 2]) (by decide) (by rw [a0]; show ¬ (_ ∨ mOff < nth _ 3); rw [a3]; decide)
  have l1 : keptLo [5, 1, 9, 2] = 2 := a1
  have l2 : keptHi [5, 1, 9, 2] = 5 := a2
  unfold midS
  rw [h, l1, l2]; rfl
theorem mid_two : midS [5, -4] = (0, 0) := by
  have a0 : nth (sortI [5, -4]) 0 = -4 := nth_is (by decide) (by decide) (by decide)
  have a1 : nth (sortI [5, -4]) 1 = 5 := nth_is (by decide) (by decide) (by decide)
  have h := keptS_fit (l := [5, -4]) (by decide) (by rw [a0]; show ¬ (_ ∨ mOff < nth _ 1); rw [a1]; decide)
  have l1 : keptLo [5, -4] = -4 := a0
  have l2 : keptHi [5, -4] = 5 := a1
  unfold midS
  rw [h, l1, l2]; rfl
theorem ints_new (w : World) (l : List Int) (T : TypeId) (cs : Array Value) (h : cs = (l.map (Value.int .i64)).toArray) : Ints (w.alloc (.cells cs T)).heap.size (w.alloc (.cells cs T)) (some ⟨w.heap.size, 0, none⟩) l := by
  subst h
  refine fun _ => ⟨w.heap.size, 0, rfl, by simp, fun j hj => ?_⟩
  rw [Nat.zero_add, (Blk.new w T _).cell]
  simp [hj]
set_option maxRecDepth 4000 in
set_option maxHeartbeats 1000000 in
theorem begun_any (w : World) : Calls Try.prog 15 #[] w fun e w' => e = .returned (.bool true) ∧ Below w.heap.size w w' := by
  have h1 := mid_any (some ⟨w.heap.size, 0, none⟩) 4 4 [5, 1, 9, 2] (w.alloc (.cells #[.int .i64 5, .int .i64 1, .int .i64 9, .int .i64 2] 2)) rfl (by decide) (ints_new w _ _ _ rfl)
  have h2 := fun w1 => mid_any (some ⟨w1.heap.size, 0, none⟩) 2 2 [5, -4] (w1.alloc (.cells #[.int .i64 5, .int .i64 (-4)] 2)) rfl (by decide) (ints_new w1 _ _ _ rfl)
  rw [mid_four] at h1
  rw [mid_two] at h2
  unfold midV at h1 h2
  dsimp only at h1 h2
  have H1 := Lib.hid h1; have H2 := Lib.hid h2; clear h1 h2
  go_enter Try.func15, Try.ntmps15
  go_wp2_with (first
    | (have _ := hB; go_at_call 13; refine (H2.out _).mono ?_; rintro e w2 ⟨rfl, hB2⟩)
    | (go_at_call 13; refine H1.out.mono ?_; rintro e w1 ⟨rfl, hB⟩))
  go_ret
  exact ⟨rfl, ((Below.refl _ _).alloc (Nat.le_refl _) _).trans ((hB.mono (by simp)).trans (((Below.refl _ _).alloc (Nat.le_refl _) _).trans (hB2.mono (by simp)) |>.mono (by have := hB.size; simp at this; omega)))⟩
end Go.Proofs.Ytfncccjiiipfoaa
