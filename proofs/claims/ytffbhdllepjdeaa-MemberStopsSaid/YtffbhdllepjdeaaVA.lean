/-
  Views of who is a member, in plain Lean: sets of nodes as numbers, which views may be, with which sets a frame is tried, what a slot makes of a view. No condition.
-/
import Derived.Test.YtffbhdllepjdeaaSZ
import Derived.Laws.BitsAllLaws
namespace Go.Proofs.Ytffbhdllepjdeaa
open Go.RowKit

/-- A view: Id, N, Set, Acc, Fail, Stage, First. -/
structure MV where
  I : Int
  N : Int
  S : Int
  A : Int
  F : Int
  G : Int
  R : Int
/-- Its cells. -/
abbrev cM (I N S A F G R : Int) : Array Value := #[.int .i64 I, .int .i64 N, .int .i64 S, .int .i64 A, .int .i64 F, .int .i64 G, .int .i64 R]
def MV.cells (m : MV) : Array Value := cM m.I m.N m.S m.A m.F m.G m.R
def zeroV : MV := ⟨0, 0, 0, 0, 0, 0, 0⟩

/-! ### Sets as the program's numbers -/
def pw (k : Int) : Int := 2 ^ k.toNat
def orI (a b : Int) : Int := bits .or .i64 a b
def outI (a b : Int) : Int := bits .andNot .i64 a b
def hasI (a k : Int) : Bool := bits .and .i64 a (pw k) != 0

set_option maxRecDepth 100000 in
theorem sets_all : ∀ k : Fin 8, ∀ m : Fin 256, (bits .or .i64 (m.val : Int) (2 ^ k.val) = ((m.val ||| 2 ^ k.val : Nat) : Int)) ∧ (bits .andNot .i64 (m.val : Int) (2 ^ k.val) = ((m.val &&& (255 - 2 ^ k.val) : Nat) : Int)) ∧ ((bits .and .i64 (m.val : Int) (2 ^ k.val) != 0) = m.val.testBit k.val) := by decide +kernel
set_option maxRecDepth 100000 in
theorem mask_all : ∀ k : Fin 8, ∀ i : Fin 8, (255 - 2 ^ k.val).testBit i.val = !decide (k.val = i.val) := by decide +kernel
/-- A node more, a node less. -/
def addN (m k : Nat) : Nat := m ||| 2 ^ k
def delN (m k : Nat) : Nat := m &&& (255 - 2 ^ k)
theorem pw_nat (k : Nat) : pw (k : Int) = ((2 ^ k : Nat) : Int) := by
  unfold pw; rw [Int.toNat_natCast]; norm_cast
theorem or_nat {m k : Nat} (hm : m < 256) (hk : k < 8) : orI (m : Int) (pw (k : Int)) = ((addN m k : Nat) : Int) := by
  have := (sets_all ⟨k, hk⟩ ⟨m, hm⟩).1
  unfold orI pw addN
  rw [Int.toNat_natCast]
  exact this
theorem out_nat {m k : Nat} (hm : m < 256) (hk : k < 8) : outI (m : Int) (pw (k : Int)) = ((delN m k : Nat) : Int) := by
  have := (sets_all ⟨k, hk⟩ ⟨m, hm⟩).2.1
  unfold outI pw delN
  rw [Int.toNat_natCast]
  exact this
theorem has_nat {m k : Nat} (hm : m < 256) (hk : k < 8) : hasI (m : Int) (k : Int) = m.testBit k := by
  have := (sets_all ⟨k, hk⟩ ⟨m, hm⟩).2.2
  unfold hasI pw
  rw [Int.toNat_natCast]
  exact this
theorem add_test (m k i : Nat) : (addN m k).testBit i = (m.testBit i || decide (k = i)) := by
  unfold addN; rw [Nat.testBit_or, Nat.testBit_two_pow]
theorem del_test {m k i : Nat} (hm : m < 256) (hk : k < 8) : (delN m k).testBit i = (m.testBit i && !decide (k = i)) := by
  unfold delN
  rw [Nat.testBit_and]
  by_cases hi : i < 8
  · rw [mask_all ⟨k, hk⟩ ⟨i, hi⟩]
  · have h8 : 8 ≤ i := by omega
    rw [Nat.testBit_lt_two_pow (Nat.lt_of_lt_of_le hm (show 256 ≤ 2 ^ i from Nat.pow_le_pow_right (n := 2) (i := 8) (by decide) h8))]
    rfl
theorem add_lt {m k n : Nat} (hm : m < 2 ^ n) (hk : k < n) : addN m k < 2 ^ n := Nat.or_lt_two_pow hm (Nat.pow_lt_pow_right (by decide) hk)
theorem del_lt {m k n : Nat} (hm : m < 2 ^ n) : delN m k < 2 ^ n := Nat.lt_of_le_of_lt Nat.and_le_left hm
theorem pow_256 {n : Nat} (h : n ≤ 8) : 2 ^ n ≤ 256 := Nat.le_trans (Nat.pow_le_pow_right (by decide) h) (by decide : 2 ^ 8 ≤ 256)
theorem set_ext {a b n : Nat} (ha : a < 2 ^ n) (hb : b < 2 ^ n) (h : ∀ i, i < n → a.testBit i = b.testBit i) : a = b := by
  apply Nat.eq_of_testBit_eq
  intro i
  by_cases hi : i < n
  · exact h i hi
  · rw [Nat.testBit_lt_two_pow (Nat.lt_of_lt_of_le ha (Nat.pow_le_pow_right (by decide) (by omega))), Nat.testBit_lt_two_pow (Nat.lt_of_lt_of_le hb (Nat.pow_le_pow_right (by decide) (by omega)))]

/-! ### Which views may be -/
def okV (m : MV) : Prop :=
  (4 ≤ m.N ∧ m.N ≤ 8) ∧ (0 ≤ m.I ∧ m.I < m.N) ∧ (0 ≤ m.R ∧ m.R < m.N) ∧ (0 ≤ m.S ∧ m.S < pw m.N) ∧ (0 ≤ m.A ∧ m.A ≤ 1048576) ∧ (0 ≤ m.F ∧ m.F ≤ 1048576) ∧ (0 ≤ m.G ∧ m.G ≤ 2) ∧ (m.G = 0 ∨ hasI m.S m.I = true) ∧ ¬ (m.G = 2 ∧ m.R = m.I)
instance (m : MV) : Decidable (okV m) := by unfold okV; infer_instance
def chkV (m : MV) : Int := if okV m then 0 else 90
theorem chkV_ok {m : MV} (h : okV m) : chkV m = 0 := if_pos h
theorem chkV_no {m : MV} (h : ¬ okV m) : chkV m = 90 := if_neg h
def othV (m : MV) (s : Int) : Prop := (0 ≤ s ∧ s < m.N) ∧ s ≠ m.I
instance (m : MV) (s : Int) : Decidable (othV m s) := by unfold othV; infer_instance
def askV (m : MV) (s : Int) : Int := if okV m then if othV m s then 0 else 2 else 90

/-! ### What is answered -/
/-- The sets with which a sender's frame is tried. -/
def setsV (m : MV) (s : Int) : List Int :=
  if m.G = 0 then [orI m.S (pw s)]
  else if m.G = 1 then [orI (orI m.S (pw s)) (pw m.I), outI (orI m.S (pw s)) (pw m.I)]
  else if s = m.R then [orI (orI m.S (pw s)) (pw m.I)]
  else [outI (orI (orI m.S (pw s)) (pw m.I)) (pw m.R), outI (orI (orI m.S (pw s)) (pw m.R)) (pw m.I)]
def viewsV (m : MV) (s : Int) : List Int := if askV m s = 0 then setsV m s else []
/-- A set of them by its number. -/
def viewOfV (m : MV) (s k : Int) : Option Int := if k < 0 then none else (viewsV m s)[k.toNat]?
def moreV (n : Int) : Int := min (n + 1) 1048576
def rightV (m : MV) (s k set : Int) : MV :=
  if m.G = 1 ∧ k = 1 then ⟨m.I, m.N, orI set (pw m.I), m.A, m.F, 2, s⟩
  else if m.G = 2 ∧ s ≠ m.R then ⟨m.I, m.N, set, moreV m.A, moreV m.F, 0, 0⟩
  else if m.G ≠ 0 then ⟨m.I, m.N, set, moreV m.A, m.F, 0, 0⟩
  else ⟨m.I, m.N, set, moreV m.A, m.F, m.G, m.R⟩
def goodV (m : MV) (s k : Int) : Int × MV :=
  if askV m s = 0 then match viewOfV m s k with
    | some set => (0, rightV m s k set)
    | none => (2, zeroV)
  else (askV m s, zeroV)
def goneV (m : MV) (s : Int) : MV :=
  if m.G = 2 ∧ s = m.R then ⟨m.I, m.N, outI m.S (pw s), m.A, m.F, 1, 0⟩ else ⟨m.I, m.N, outI m.S (pw s), m.A, m.F, m.G, m.R⟩
def nullV (m : MV) (s : Int) : Int × MV := if askV m s = 0 then (0, goneV m s) else (askV m s, zeroV)
def failV (m : MV) : MV := ⟨m.I, m.N, m.S, m.A, moreV m.F, m.G, m.R⟩
def badV (m : MV) (s : Int) : Int × MV := if askV m s = 0 then (0, failV (goneV m s)) else (askV m s, zeroV)
def sentV (m : MV) : MV := ⟨m.I, m.N, orI m.S (pw m.I), 1, 0, 1, 0⟩
/-- Own: an error's number, what is done, a view. -/
def ownV (m : MV) : Int × Int × MV := if okV m then if m.A ≤ m.F then (0, 2, m) else (0, 1, sentV m) else (90, 0, zeroV)
def joinV (m : MV) : Int × Int × MV := if okV m ∧ m.A = 0 ∧ m.F = 0 then (0, 3, m) else ownV m
def newV (i n s : Int) : Int × MV := if okV ⟨i, n, s, 0, 0, 0, 0⟩ then (0, ⟨i, n, s, 0, 0, 0, 0⟩) else (90, zeroV)
def inV (m : MV) : Bool := decide (okV m) && hasI m.S m.I
end Go.Proofs.Ytffbhdllepjdeaa
