/-
  The document's quarters of a product, and Find. Conditions: a product that a match can have; rows that can be read, of up to 65,536 samples.
-/
import Derived.Test.YtdmedhklcicpeaaS5
import Derived.Deep.QuietTactic
import Derived.BigQuiet
namespace Go.Proofs.Ytdmedhklcicpeaa
open Go.RowKit

def absS (n : Int) : Int := if n < 0 then -n else n
/-- By how many quarters a product is turned. -/
def quartS (c : Sp) : Int := if 0 < c.1 ∧ absS c.2 ≤ c.1 then 0 else if 0 < c.2 ∧ absS c.1 ≤ c.2 then 1 else if c.1 < 0 ∧ absS c.2 ≤ -c.1 then 2 else 3

set_option maxRecDepth 4000 in
set_option maxHeartbeats 4000000 in
theorem rquarters_any (x y : Int) (w : World) (hx0 : -4194304 ≤ x) (hx1 : x ≤ 4194304) (hy0 : -4194304 ≤ y) (hy1 : y ≤ 4194304) :
    Calls Try.prog 54 #[.agg #[.int .i64 x, .int .i64 y]] w fun e w' => e = .returned (.int .i64 (quartS (x, y))) ∧ Below w.heap.size w w' := by
  have h1 := fun (w1 : World) => rabs_any x w1 (by omega) (by omega)
  have h2 := fun (w1 : World) => rabs_any y w1 (by omega) (by omega)
  change ∀ w1, Calls _ _ _ _ fun e w' => e = .returned (.int .i64 (absS x)) ∧ w1 = w' at h1
  change ∀ w1, Calls _ _ _ _ fun e w' => e = .returned (.int .i64 (absS y)) ∧ w1 = w' at h2
  unfold quartS
  dsimp only
  have hax : 0 ≤ absS x ∧ absS x ≤ 4194304 := by unfold absS; split <;> omega
  have hay : 0 ≤ absS y ∧ absS y ≤ 4194304 := by unfold absS; split <;> omega
  generalize absS x = ax at *
  generalize absS y = ay at *
  have H1 := Lib.hid h1; have H2 := Lib.hid h2; clear h1 h2
  have fin : ∀ m, Below w.heap.size w ((w.alloc (.cells #[.int .i64 x, .int .i64 y] 38)).drewN m) := fun m => below_drewN ((Below.refl _ _).alloc (Nat.le_refl _) _) m
  have HF := Lib.hid fin; clear fin
  have hwn : IntKind.i64.wrap (-x) = -x := IntWalk.i64_in _ (by omega)
  by_cases a1 : 0 < x
  · have d1 : decide (0 < x) = true := by simpa using a1
    have d3 : decide (x < 0) = false := by simp; omega
    by_cases b1 : ay ≤ x
    · have d2 : decide (ay ≤ x) = true := by simpa using b1
      rw [if_pos ⟨a1, b1⟩]
      go_enter Try.func54, Try.ntmps54
      go_wp2
      go_quiet ((go_at_call 74; exact Calls.quiet_of_same ((H2.out _).mono fun _ _ ⟨a, b⟩ => ⟨a, b.symm⟩)))
      go_wp2
      go_ret
      exact ⟨rfl, HF.out _⟩
    · have d2 : decide (ay ≤ x) = false := by simpa using b1
      rw [if_neg (fun h => b1 h.2)]
      by_cases c1 : 0 < y
      · have d4 : decide (0 < y) = true := by simpa using c1
        by_cases e1 : ax ≤ y
        · have d5 : decide (ax ≤ y) = true := by simpa using e1
          rw [if_pos ⟨c1, e1⟩]
          go_enter Try.func54, Try.ntmps54
          go_wp2
          go_quiet ((go_at_call 74; exact Calls.quiet_of_same ((H2.out _).mono fun _ _ ⟨a, b⟩ => ⟨a, b.symm⟩)))
          go_wp2
          have kq : Blk ((w.alloc (.cells #[.int .i64 x, .int .i64 y] 38)).drewN nq) w.heap.size 38 #[.int .i64 x, .int .i64 y] := (Blk.new w 38 _).drewN nq
          have bq := HF.out nq
          generalize (w.alloc (.cells #[.int .i64 x, .int .i64 y] 38)).drewN nq = w2 at *
          obtain ⟨m1, m2, m3, m4⟩ := kq.two
          have m5 := kq.lt
          go_quiet ((go_at_call 74; exact Calls.quiet_of_same ((H1.out _).mono fun _ _ ⟨a, b⟩ => ⟨a, b.symm⟩)))
          go_wp2
          go_ret
          exact ⟨rfl, below_drewN bq _⟩
        · have d5 : decide (ax ≤ y) = false := by simpa using e1
          rw [if_neg (fun h => e1 h.2)]
          rw [if_neg (fun h => by have := h.1; omega)]
          go_enter Try.func54, Try.ntmps54
          go_wp2
          go_quiet ((go_at_call 74; exact Calls.quiet_of_same ((H2.out _).mono fun _ _ ⟨a, b⟩ => ⟨a, b.symm⟩)))
          go_wp2
          have kq : Blk ((w.alloc (.cells #[.int .i64 x, .int .i64 y] 38)).drewN nq) w.heap.size 38 #[.int .i64 x, .int .i64 y] := (Blk.new w 38 _).drewN nq
          have bq := HF.out nq
          generalize (w.alloc (.cells #[.int .i64 x, .int .i64 y] 38)).drewN nq = w2 at *
          obtain ⟨m1, m2, m3, m4⟩ := kq.two
          have m5 := kq.lt
          go_quiet ((go_at_call 74; exact Calls.quiet_of_same ((H1.out _).mono fun _ _ ⟨a, b⟩ => ⟨a, b.symm⟩)))
          go_wp2
          replace kq := kq.drewN nq; replace bq := below_drewN bq nq; clear m1 m2 m3 m4 m5
          generalize w2.drewN nq = w3 at *
          obtain ⟨m1, m2, m3, m4⟩ := kq.two
          have m5 := kq.lt
          go_quiet (fail)
          go_wp2
          go_ret
          exact ⟨rfl, below_drewN bq _⟩
      · have d4 : decide (0 < y) = false := by simpa using c1
        rw [if_neg (fun h => c1 h.1)]
        rw [if_neg (fun h => by have := h.1; omega)]
        go_enter Try.func54, Try.ntmps54
        go_wp2
        go_quiet ((go_at_call 74; exact Calls.quiet_of_same ((H2.out _).mono fun _ _ ⟨a, b⟩ => ⟨a, b.symm⟩)))
        go_wp2
        have kq : Blk ((w.alloc (.cells #[.int .i64 x, .int .i64 y] 38)).drewN nq) w.heap.size 38 #[.int .i64 x, .int .i64 y] := (Blk.new w 38 _).drewN nq
        have bq := HF.out nq
        generalize (w.alloc (.cells #[.int .i64 x, .int .i64 y] 38)).drewN nq = w2 at *
        obtain ⟨m1, m2, m3, m4⟩ := kq.two
        have m5 := kq.lt
        go_quiet (fail)
        go_wp2
        replace kq := kq.drewN nq; replace bq := below_drewN bq nq; clear m1 m2 m3 m4 m5
        generalize w2.drewN nq = w3 at *
        obtain ⟨m1, m2, m3, m4⟩ := kq.two
        have m5 := kq.lt
        go_quiet (fail)
        go_wp2
        go_ret
        exact ⟨rfl, below_drewN bq _⟩
  · have d1 : decide (0 < x) = false := by simpa using a1
    rw [if_neg (fun h => a1 h.1)]
    by_cases c1 : 0 < y
    · have d4 : decide (0 < y) = true := by simpa using c1
      by_cases e1 : ax ≤ y
      · have d5 : decide (ax ≤ y) = true := by simpa using e1
        rw [if_pos ⟨c1, e1⟩]
        go_enter Try.func54, Try.ntmps54
        go_wp2
        go_quiet (fail)
        go_wp2
        have kq : Blk ((w.alloc (.cells #[.int .i64 x, .int .i64 y] 38)).drewN nq) w.heap.size 38 #[.int .i64 x, .int .i64 y] := (Blk.new w 38 _).drewN nq
        have bq := HF.out nq
        generalize (w.alloc (.cells #[.int .i64 x, .int .i64 y] 38)).drewN nq = w2 at *
        obtain ⟨m1, m2, m3, m4⟩ := kq.two
        have m5 := kq.lt
        go_quiet ((go_at_call 74; exact Calls.quiet_of_same ((H1.out _).mono fun _ _ ⟨a, b⟩ => ⟨a, b.symm⟩)))
        go_wp2
        go_ret
        exact ⟨rfl, below_drewN bq _⟩
      · have d5 : decide (ax ≤ y) = false := by simpa using e1
        rw [if_neg (fun h => e1 h.2)]
        by_cases g1 : x < 0
        · have d6 : decide (x < 0) = true := by simpa using g1
          by_cases k1 : ay ≤ -x
          · have d7 : decide (ay ≤ -x) = true := by simpa using k1
            rw [if_pos ⟨g1, k1⟩]
            go_enter Try.func54, Try.ntmps54
            go_wp2
            go_quiet (fail)
            go_wp2
            have kq : Blk ((w.alloc (.cells #[.int .i64 x, .int .i64 y] 38)).drewN nq) w.heap.size 38 #[.int .i64 x, .int .i64 y] := (Blk.new w 38 _).drewN nq
            have bq := HF.out nq
            generalize (w.alloc (.cells #[.int .i64 x, .int .i64 y] 38)).drewN nq = w2 at *
            obtain ⟨m1, m2, m3, m4⟩ := kq.two
            have m5 := kq.lt
            go_quiet ((go_at_call 74; exact Calls.quiet_of_same ((H1.out _).mono fun _ _ ⟨a, b⟩ => ⟨a, b.symm⟩)))
            go_wp2
            replace kq := kq.drewN nq; replace bq := below_drewN bq nq; clear m1 m2 m3 m4 m5
            generalize w2.drewN nq = w3 at *
            obtain ⟨m1, m2, m3, m4⟩ := kq.two
            have m5 := kq.lt
            go_quiet ((go_at_call 74; exact Calls.quiet_of_same ((H2.out _).mono fun _ _ ⟨a, b⟩ => ⟨a, b.symm⟩)))
            go_wp2
            go_ret
            exact ⟨rfl, below_drewN bq _⟩
          · have d7 : decide (ay ≤ -x) = false := by simpa using k1
            rw [if_neg (fun h => k1 h.2)]
            go_enter Try.func54, Try.ntmps54
            go_wp2
            go_quiet (fail)
            go_wp2
            have kq : Blk ((w.alloc (.cells #[.int .i64 x, .int .i64 y] 38)).drewN nq) w.heap.size 38 #[.int .i64 x, .int .i64 y] := (Blk.new w 38 _).drewN nq
            have bq := HF.out nq
            generalize (w.alloc (.cells #[.int .i64 x, .int .i64 y] 38)).drewN nq = w2 at *
            obtain ⟨m1, m2, m3, m4⟩ := kq.two
            have m5 := kq.lt
            go_quiet ((go_at_call 74; exact Calls.quiet_of_same ((H1.out _).mono fun _ _ ⟨a, b⟩ => ⟨a, b.symm⟩)))
            go_wp2
            replace kq := kq.drewN nq; replace bq := below_drewN bq nq; clear m1 m2 m3 m4 m5
            generalize w2.drewN nq = w3 at *
            obtain ⟨m1, m2, m3, m4⟩ := kq.two
            have m5 := kq.lt
            go_quiet ((go_at_call 74; exact Calls.quiet_of_same ((H2.out _).mono fun _ _ ⟨a, b⟩ => ⟨a, b.symm⟩)))
            go_wp2
            go_ret
            exact ⟨rfl, below_drewN bq _⟩
        · have d6 : decide (x < 0) = false := by simpa using g1
          rw [if_neg (fun h => g1 h.1)]
          go_enter Try.func54, Try.ntmps54
          go_wp2
          go_quiet (fail)
          go_wp2
          have kq : Blk ((w.alloc (.cells #[.int .i64 x, .int .i64 y] 38)).drewN nq) w.heap.size 38 #[.int .i64 x, .int .i64 y] := (Blk.new w 38 _).drewN nq
          have bq := HF.out nq
          generalize (w.alloc (.cells #[.int .i64 x, .int .i64 y] 38)).drewN nq = w2 at *
          obtain ⟨m1, m2, m3, m4⟩ := kq.two
          have m5 := kq.lt
          go_quiet ((go_at_call 74; exact Calls.quiet_of_same ((H1.out _).mono fun _ _ ⟨a, b⟩ => ⟨a, b.symm⟩)))
          go_wp2
          replace kq := kq.drewN nq; replace bq := below_drewN bq nq; clear m1 m2 m3 m4 m5
          generalize w2.drewN nq = w3 at *
          obtain ⟨m1, m2, m3, m4⟩ := kq.two
          have m5 := kq.lt
          go_quiet (fail)
          go_wp2
          go_ret
          exact ⟨rfl, below_drewN bq _⟩
    · have d4 : decide (0 < y) = false := by simpa using c1
      rw [if_neg (fun h => c1 h.1)]
      by_cases g1 : x < 0
      · have d6 : decide (x < 0) = true := by simpa using g1
        by_cases k1 : ay ≤ -x
        · have d7 : decide (ay ≤ -x) = true := by simpa using k1
          rw [if_pos ⟨g1, k1⟩]
          go_enter Try.func54, Try.ntmps54
          go_wp2
          go_quiet (fail)
          go_wp2
          have kq : Blk ((w.alloc (.cells #[.int .i64 x, .int .i64 y] 38)).drewN nq) w.heap.size 38 #[.int .i64 x, .int .i64 y] := (Blk.new w 38 _).drewN nq
          have bq := HF.out nq
          generalize (w.alloc (.cells #[.int .i64 x, .int .i64 y] 38)).drewN nq = w2 at *
          obtain ⟨m1, m2, m3, m4⟩ := kq.two
          have m5 := kq.lt
          go_quiet (fail)
          go_wp2
          replace kq := kq.drewN nq; replace bq := below_drewN bq nq; clear m1 m2 m3 m4 m5
          generalize w2.drewN nq = w3 at *
          obtain ⟨m1, m2, m3, m4⟩ := kq.two
          have m5 := kq.lt
          go_quiet ((go_at_call 74; exact Calls.quiet_of_same ((H2.out _).mono fun _ _ ⟨a, b⟩ => ⟨a, b.symm⟩)))
          go_wp2
          go_ret
          exact ⟨rfl, below_drewN bq _⟩
        · have d7 : decide (ay ≤ -x) = false := by simpa using k1
          rw [if_neg (fun h => k1 h.2)]
          go_enter Try.func54, Try.ntmps54
          go_wp2
          go_quiet (fail)
          go_wp2
          have kq : Blk ((w.alloc (.cells #[.int .i64 x, .int .i64 y] 38)).drewN nq) w.heap.size 38 #[.int .i64 x, .int .i64 y] := (Blk.new w 38 _).drewN nq
          have bq := HF.out nq
          generalize (w.alloc (.cells #[.int .i64 x, .int .i64 y] 38)).drewN nq = w2 at *
          obtain ⟨m1, m2, m3, m4⟩ := kq.two
          have m5 := kq.lt
          go_quiet (fail)
          go_wp2
          replace kq := kq.drewN nq; replace bq := below_drewN bq nq; clear m1 m2 m3 m4 m5
          generalize w2.drewN nq = w3 at *
          obtain ⟨m1, m2, m3, m4⟩ := kq.two
          have m5 := kq.lt
          go_quiet ((go_at_call 74; exact Calls.quiet_of_same ((H2.out _).mono fun _ _ ⟨a, b⟩ => ⟨a, b.symm⟩)))
          go_wp2
          go_ret
          exact ⟨rfl, below_drewN bq _⟩
      · have d6 : decide (x < 0) = false := by simpa using g1
        rw [if_neg (fun h => g1 h.1)]
        go_enter Try.func54, Try.ntmps54
        go_wp2
        go_quiet (fail)
        go_wp2
        have kq : Blk ((w.alloc (.cells #[.int .i64 x, .int .i64 y] 38)).drewN nq) w.heap.size 38 #[.int .i64 x, .int .i64 y] := (Blk.new w 38 _).drewN nq
        have bq := HF.out nq
        generalize (w.alloc (.cells #[.int .i64 x, .int .i64 y] 38)).drewN nq = w2 at *
        obtain ⟨m1, m2, m3, m4⟩ := kq.two
        have m5 := kq.lt
        go_quiet (fail)
        go_wp2
        replace kq := kq.drewN nq; replace bq := below_drewN bq nq; clear m1 m2 m3 m4 m5
        generalize w2.drewN nq = w3 at *
        obtain ⟨m1, m2, m3, m4⟩ := kq.two
        have m5 := kq.lt
        go_quiet (fail)
        go_wp2
        go_ret
        exact ⟨rfl, below_drewN bq _⟩
end Go.Proofs.Ytdmedhklcicpeaa
