/-
  With, Without and Has of package cstate answer as the document says, the program's and the document's own. No condition.
-/
import Derived.Test.YteigekhfamapmaaDoorB3
import Derived.Laws.BitsAllLaws
namespace Go.Proofs.YteigekhfamapmaaDoor
open Go.RowKit

theorem eight {n : Int} (h0 : 0 ≤ n ∧ n < 8) : n = 0 ∨ n = 1 ∨ n = 2 ∨ n = 3 ∨ n = 4 ∨ n = 5 ∨ n = 6 ∨ n = 7 := by omega
/-- With and Without, by the document. -/
def withC (c : CS) (n : Int) : CS := if 0 ≤ n ∧ n < 8 then ⟨c.T, c.P, c.Mo, c.Nx, bits .or .i64 c.Me (2 ^ n.toNat)⟩ else c
def withoutC (c : CS) (n : Int) : CS := if 0 ≤ n ∧ n < 8 then ⟨c.T, c.P, c.Mo, c.Nx, bits .andNot .i64 c.Me (2 ^ n.toNat)⟩ else c
/-- Is the bit 2^k of a number 1? -/
def hasB (m : Int) (k : Nat) : Bool := decide (m / 2 ^ k % 2 = 1)
def hasC (c : CS) (n : Int) : Bool := decide (0 ≤ n ∧ n < 8) && hasB c.Me n.toNat
theorem i64_and1 (m : Int) : bits .and .i64 m 1 = m % 2 := by
  have h1 : (BitVec.ofInt 64 1).toNat = 2 ^ 1 - 1 := by decide
  have key : (BitVec.ofInt 64 m &&& BitVec.ofInt 64 1).toNat = (m % ((2 ^ 64 : Nat) : Int)).toNat % 2 ^ 1 := by
    rw [BitVec.toNat_and, BitVec.toNat_ofInt, h1, Nat.and_two_pow_sub_one_eq_mod]
  show IntKind.i64.wrap ((BitVec.ofInt 64 m &&& BitVec.ofInt 64 1).toNat : Nat) = m % 2
  rw [key, IntKind.wrap_i64]
  omega
theorem i64_andPow (m p : Int) (k : Nat) (hp : (BitVec.ofInt 64 p).toNat = 2 ^ k) : bits .and .i64 m p = IntKind.i64.wrap (((m % ((2 ^ 64 : Nat) : Int)).toNat / 2 ^ k % 2 * 2 ^ k : Nat) : Int) := by
  have key : (BitVec.ofInt 64 m &&& BitVec.ofInt 64 p).toNat = (m % ((2 ^ 64 : Nat) : Int)).toNat / 2 ^ k % 2 * 2 ^ k := by
    rw [BitVec.toNat_and, BitVec.toNat_ofInt, hp, nat_bit]
  show IntKind.i64.wrap ((BitVec.ofInt 64 m &&& BitVec.ofInt 64 p).toNat : Nat) = _
  rw [key]
theorem bne_dec {a b : Int} {p : Prop} [Decidable p] (h : a ≠ b ↔ p) : (a != b) = decide p := by
  by_cases hp : p
  · simp [hp, h.2 hp]
  · have := mt h.1 hp
    simp at this
    simp [hp, this]
theorem has_shr0 (m : Int) : (bits .and .i64 (m / 1) 1 == 1) = hasB m 0 := by
  rw [i64_and1]; unfold hasB; rw [show (2 : Int) ^ 0 = 1 from by decide]; rfl
theorem has_and0 (m : Int) : (bits .and .i64 m 1 != 0) = hasB m 0 := by
  rw [i64_andPow m 1 0 (by decide)]; unfold hasB; rw [show (2 : Int) ^ 0 = 1 from by decide]
  refine bne_dec ?_
  rw [IntKind.wrap_i64]; omega
theorem has_shr1 (m : Int) : (bits .and .i64 (m / 2) 1 == 1) = hasB m 1 := by
  rw [i64_and1]; unfold hasB; rw [show (2 : Int) ^ 1 = 2 from by decide]; rfl
theorem has_and1 (m : Int) : (bits .and .i64 m 2 != 0) = hasB m 1 := by
  rw [i64_andPow m 2 1 (by decide)]; unfold hasB; rw [show (2 : Int) ^ 1 = 2 from by decide]
  refine bne_dec ?_
  rw [IntKind.wrap_i64]; omega
theorem has_shr2 (m : Int) : (bits .and .i64 (m / 4) 1 == 1) = hasB m 2 := by
  rw [i64_and1]; unfold hasB; rw [show (2 : Int) ^ 2 = 4 from by decide]; rfl
theorem has_and2 (m : Int) : (bits .and .i64 m 4 != 0) = hasB m 2 := by
  rw [i64_andPow m 4 2 (by decide)]; unfold hasB; rw [show (2 : Int) ^ 2 = 4 from by decide]
  refine bne_dec ?_
  rw [IntKind.wrap_i64]; omega
theorem has_shr3 (m : Int) : (bits .and .i64 (m / 8) 1 == 1) = hasB m 3 := by
  rw [i64_and1]; unfold hasB; rw [show (2 : Int) ^ 3 = 8 from by decide]; rfl
theorem has_and3 (m : Int) : (bits .and .i64 m 8 != 0) = hasB m 3 := by
  rw [i64_andPow m 8 3 (by decide)]; unfold hasB; rw [show (2 : Int) ^ 3 = 8 from by decide]
  refine bne_dec ?_
  rw [IntKind.wrap_i64]; omega
theorem has_shr4 (m : Int) : (bits .and .i64 (m / 16) 1 == 1) = hasB m 4 := by
  rw [i64_and1]; unfold hasB; rw [show (2 : Int) ^ 4 = 16 from by decide]; rfl
theorem has_and4 (m : Int) : (bits .and .i64 m 16 != 0) = hasB m 4 := by
  rw [i64_andPow m 16 4 (by decide)]; unfold hasB; rw [show (2 : Int) ^ 4 = 16 from by decide]
  refine bne_dec ?_
  rw [IntKind.wrap_i64]; omega
theorem has_shr5 (m : Int) : (bits .and .i64 (m / 32) 1 == 1) = hasB m 5 := by
  rw [i64_and1]; unfold hasB; rw [show (2 : Int) ^ 5 = 32 from by decide]; rfl
theorem has_and5 (m : Int) : (bits .and .i64 m 32 != 0) = hasB m 5 := by
  rw [i64_andPow m 32 5 (by decide)]; unfold hasB; rw [show (2 : Int) ^ 5 = 32 from by decide]
  refine bne_dec ?_
  rw [IntKind.wrap_i64]; omega
theorem has_shr6 (m : Int) : (bits .and .i64 (m / 64) 1 == 1) = hasB m 6 := by
  rw [i64_and1]; unfold hasB; rw [show (2 : Int) ^ 6 = 64 from by decide]; rfl
theorem has_and6 (m : Int) : (bits .and .i64 m 64 != 0) = hasB m 6 := by
  rw [i64_andPow m 64 6 (by decide)]; unfold hasB; rw [show (2 : Int) ^ 6 = 64 from by decide]
  refine bne_dec ?_
  rw [IntKind.wrap_i64]; omega
theorem has_shr7 (m : Int) : (bits .and .i64 (m / 128) 1 == 1) = hasB m 7 := by
  rw [i64_and1]; unfold hasB; rw [show (2 : Int) ^ 7 = 128 from by decide]; rfl
theorem has_and7 (m : Int) : (bits .and .i64 m 128 != 0) = hasB m 7 := by
  rw [i64_andPow m 128 7 (by decide)]; unfold hasB; rw [show (2 : Int) ^ 7 = 128 from by decide]
  refine bne_dec ?_
  rw [IntKind.wrap_i64]; omega
set_option maxRecDepth 8000 in
set_option maxHeartbeats 2000000 in
theorem withC_any (c : CS) (n : Int) (w : World) : Calls Tryd.prog 20 #[.agg c.cells, .int .i64 n] w fun e w' => e = .returned (.agg (withC c n).cells) ∧ Below w.heap.size w w' := by
  have hno := fun W => isNode_any n W
  unfold withC
  obtain ⟨T, P, Mo, Nx, Me⟩ := c
  unfold CS.cells
  dsimp only
  by_cases h0 : 0 ≤ n ∧ n < 8
  · rw [if_pos h0]
    rw [decide_eq_true h0] at hno
    have HN := Lib.hid hno; clear hno
    rcases eight h0 with rfl | rfl | rfl | rfl | rfl | rfl | rfl | rfl
    · clear h0
      rw [show (2 : Int) ^ (0 : Int).toNat = 1 from by decide]
      go_enter Tryd.func20, Tryd.ntmps20
      go_wp2_with fail
      refine (HN.out _).mono ?_
      rintro e w1 ⟨rfl, rfl⟩
      go_wp2_with fail
      go_region
      go_wp2_with fail
      exact bodyPost_ret (v := .agg #[.int .i64 T, .int .i64 P, .int .i64 Mo, .int .i64 Nx, .int .i64 (bits .or .i64 Me 1)]) (by simp [results, Tryd.results20, go_sem]) rfl ⟨rfl, below_drewN (((Below.refl _ _).alloc (Nat.le_refl _) _).alloc (by simp) _) 1⟩
    · clear h0
      rw [show (2 : Int) ^ (1 : Int).toNat = 2 from by decide]
      go_enter Tryd.func20, Tryd.ntmps20
      go_wp2_with fail
      refine (HN.out _).mono ?_
      rintro e w1 ⟨rfl, rfl⟩
      go_wp2_with fail
      go_region
      go_wp2_with fail
      exact bodyPost_ret (v := .agg #[.int .i64 T, .int .i64 P, .int .i64 Mo, .int .i64 Nx, .int .i64 (bits .or .i64 Me 2)]) (by simp [results, Tryd.results20, go_sem]) rfl ⟨rfl, below_drewN (((Below.refl _ _).alloc (Nat.le_refl _) _).alloc (by simp) _) 1⟩
    · clear h0
      rw [show (2 : Int) ^ (2 : Int).toNat = 4 from by decide]
      go_enter Tryd.func20, Tryd.ntmps20
      go_wp2_with fail
      refine (HN.out _).mono ?_
      rintro e w1 ⟨rfl, rfl⟩
      go_wp2_with fail
      go_region
      go_wp2_with fail
      exact bodyPost_ret (v := .agg #[.int .i64 T, .int .i64 P, .int .i64 Mo, .int .i64 Nx, .int .i64 (bits .or .i64 Me 4)]) (by simp [results, Tryd.results20, go_sem]) rfl ⟨rfl, below_drewN (((Below.refl _ _).alloc (Nat.le_refl _) _).alloc (by simp) _) 1⟩
    · clear h0
      rw [show (2 : Int) ^ (3 : Int).toNat = 8 from by decide]
      go_enter Tryd.func20, Tryd.ntmps20
      go_wp2_with fail
      refine (HN.out _).mono ?_
      rintro e w1 ⟨rfl, rfl⟩
      go_wp2_with fail
      go_region
      go_wp2_with fail
      exact bodyPost_ret (v := .agg #[.int .i64 T, .int .i64 P, .int .i64 Mo, .int .i64 Nx, .int .i64 (bits .or .i64 Me 8)]) (by simp [results, Tryd.results20, go_sem]) rfl ⟨rfl, below_drewN (((Below.refl _ _).alloc (Nat.le_refl _) _).alloc (by simp) _) 1⟩
    · clear h0
      rw [show (2 : Int) ^ (4 : Int).toNat = 16 from by decide]
      go_enter Tryd.func20, Tryd.ntmps20
      go_wp2_with fail
      refine (HN.out _).mono ?_
      rintro e w1 ⟨rfl, rfl⟩
      go_wp2_with fail
      go_region
      go_wp2_with fail
      exact bodyPost_ret (v := .agg #[.int .i64 T, .int .i64 P, .int .i64 Mo, .int .i64 Nx, .int .i64 (bits .or .i64 Me 16)]) (by simp [results, Tryd.results20, go_sem]) rfl ⟨rfl, below_drewN (((Below.refl _ _).alloc (Nat.le_refl _) _).alloc (by simp) _) 1⟩
    · clear h0
      rw [show (2 : Int) ^ (5 : Int).toNat = 32 from by decide]
      go_enter Tryd.func20, Tryd.ntmps20
      go_wp2_with fail
      refine (HN.out _).mono ?_
      rintro e w1 ⟨rfl, rfl⟩
      go_wp2_with fail
      go_region
      go_wp2_with fail
      exact bodyPost_ret (v := .agg #[.int .i64 T, .int .i64 P, .int .i64 Mo, .int .i64 Nx, .int .i64 (bits .or .i64 Me 32)]) (by simp [results, Tryd.results20, go_sem]) rfl ⟨rfl, below_drewN (((Below.refl _ _).alloc (Nat.le_refl _) _).alloc (by simp) _) 1⟩
    · clear h0
      rw [show (2 : Int) ^ (6 : Int).toNat = 64 from by decide]
      go_enter Tryd.func20, Tryd.ntmps20
      go_wp2_with fail
      refine (HN.out _).mono ?_
      rintro e w1 ⟨rfl, rfl⟩
      go_wp2_with fail
      go_region
      go_wp2_with fail
      exact bodyPost_ret (v := .agg #[.int .i64 T, .int .i64 P, .int .i64 Mo, .int .i64 Nx, .int .i64 (bits .or .i64 Me 64)]) (by simp [results, Tryd.results20, go_sem]) rfl ⟨rfl, below_drewN (((Below.refl _ _).alloc (Nat.le_refl _) _).alloc (by simp) _) 1⟩
    · clear h0
      rw [show (2 : Int) ^ (7 : Int).toNat = 128 from by decide]
      go_enter Tryd.func20, Tryd.ntmps20
      go_wp2_with fail
      refine (HN.out _).mono ?_
      rintro e w1 ⟨rfl, rfl⟩
      go_wp2_with fail
      go_region
      go_wp2_with fail
      exact bodyPost_ret (v := .agg #[.int .i64 T, .int .i64 P, .int .i64 Mo, .int .i64 Nx, .int .i64 (bits .or .i64 Me 128)]) (by simp [results, Tryd.results20, go_sem]) rfl ⟨rfl, below_drewN (((Below.refl _ _).alloc (Nat.le_refl _) _).alloc (by simp) _) 1⟩
  · rw [if_neg h0]
    rw [decide_eq_false h0] at hno
    have HN := Lib.hid hno; clear hno h0
    go_enter Tryd.func20, Tryd.ntmps20
    go_wp2_with fail
    refine (HN.out _).mono ?_
    rintro e w1 ⟨rfl, rfl⟩
    go_wp2_with fail
    exact bodyPost_ret (v := .agg #[.int .i64 T, .int .i64 P, .int .i64 Mo, .int .i64 Nx, .int .i64 Me]) (by simp [results, Tryd.results20, go_sem]) rfl ⟨rfl, (((Below.refl _ _).alloc (Nat.le_refl _) _).alloc (by simp) _)⟩

set_option maxRecDepth 8000 in
set_option maxHeartbeats 2000000 in
theorem withoutC_any (c : CS) (n : Int) (w : World) : Calls Tryd.prog 22 #[.agg c.cells, .int .i64 n] w fun e w' => e = .returned (.agg (withoutC c n).cells) ∧ Below w.heap.size w w' := by
  have hno := fun W => isNode_any n W
  unfold withoutC
  obtain ⟨T, P, Mo, Nx, Me⟩ := c
  unfold CS.cells
  dsimp only
  by_cases h0 : 0 ≤ n ∧ n < 8
  · rw [if_pos h0]
    rw [decide_eq_true h0] at hno
    have HN := Lib.hid hno; clear hno
    rcases eight h0 with rfl | rfl | rfl | rfl | rfl | rfl | rfl | rfl
    · clear h0
      rw [show (2 : Int) ^ (0 : Int).toNat = 1 from by decide]
      go_enter Tryd.func22, Tryd.ntmps22
      go_wp2_with fail
      refine (HN.out _).mono ?_
      rintro e w1 ⟨rfl, rfl⟩
      go_wp2_with fail
      go_region
      go_wp2_with fail
      exact bodyPost_ret (v := .agg #[.int .i64 T, .int .i64 P, .int .i64 Mo, .int .i64 Nx, .int .i64 (bits .andNot .i64 Me 1)]) (by simp [results, Tryd.results22, go_sem]) rfl ⟨rfl, below_drewN (((Below.refl _ _).alloc (Nat.le_refl _) _).alloc (by simp) _) 1⟩
    · clear h0
      rw [show (2 : Int) ^ (1 : Int).toNat = 2 from by decide]
      go_enter Tryd.func22, Tryd.ntmps22
      go_wp2_with fail
      refine (HN.out _).mono ?_
      rintro e w1 ⟨rfl, rfl⟩
      go_wp2_with fail
      go_region
      go_wp2_with fail
      exact bodyPost_ret (v := .agg #[.int .i64 T, .int .i64 P, .int .i64 Mo, .int .i64 Nx, .int .i64 (bits .andNot .i64 Me 2)]) (by simp [results, Tryd.results22, go_sem]) rfl ⟨rfl, below_drewN (((Below.refl _ _).alloc (Nat.le_refl _) _).alloc (by simp) _) 1⟩
    · clear h0
      rw [show (2 : Int) ^ (2 : Int).toNat = 4 from by decide]
      go_enter Tryd.func22, Tryd.ntmps22
      go_wp2_with fail
      refine (HN.out _).mono ?_
      rintro e w1 ⟨rfl, rfl⟩
      go_wp2_with fail
      go_region
      go_wp2_with fail
      exact bodyPost_ret (v := .agg #[.int .i64 T, .int .i64 P, .int .i64 Mo, .int .i64 Nx, .int .i64 (bits .andNot .i64 Me 4)]) (by simp [results, Tryd.results22, go_sem]) rfl ⟨rfl, below_drewN (((Below.refl _ _).alloc (Nat.le_refl _) _).alloc (by simp) _) 1⟩
    · clear h0
      rw [show (2 : Int) ^ (3 : Int).toNat = 8 from by decide]
      go_enter Tryd.func22, Tryd.ntmps22
      go_wp2_with fail
      refine (HN.out _).mono ?_
      rintro e w1 ⟨rfl, rfl⟩
      go_wp2_with fail
      go_region
      go_wp2_with fail
      exact bodyPost_ret (v := .agg #[.int .i64 T, .int .i64 P, .int .i64 Mo, .int .i64 Nx, .int .i64 (bits .andNot .i64 Me 8)]) (by simp [results, Tryd.results22, go_sem]) rfl ⟨rfl, below_drewN (((Below.refl _ _).alloc (Nat.le_refl _) _).alloc (by simp) _) 1⟩
    · clear h0
      rw [show (2 : Int) ^ (4 : Int).toNat = 16 from by decide]
      go_enter Tryd.func22, Tryd.ntmps22
      go_wp2_with fail
      refine (HN.out _).mono ?_
      rintro e w1 ⟨rfl, rfl⟩
      go_wp2_with fail
      go_region
      go_wp2_with fail
      exact bodyPost_ret (v := .agg #[.int .i64 T, .int .i64 P, .int .i64 Mo, .int .i64 Nx, .int .i64 (bits .andNot .i64 Me 16)]) (by simp [results, Tryd.results22, go_sem]) rfl ⟨rfl, below_drewN (((Below.refl _ _).alloc (Nat.le_refl _) _).alloc (by simp) _) 1⟩
    · clear h0
      rw [show (2 : Int) ^ (5 : Int).toNat = 32 from by decide]
      go_enter Tryd.func22, Tryd.ntmps22
      go_wp2_with fail
      refine (HN.out _).mono ?_
      rintro e w1 ⟨rfl, rfl⟩
      go_wp2_with fail
      go_region
      go_wp2_with fail
      exact bodyPost_ret (v := .agg #[.int .i64 T, .int .i64 P, .int .i64 Mo, .int .i64 Nx, .int .i64 (bits .andNot .i64 Me 32)]) (by simp [results, Tryd.results22, go_sem]) rfl ⟨rfl, below_drewN (((Below.refl _ _).alloc (Nat.le_refl _) _).alloc (by simp) _) 1⟩
    · clear h0
      rw [show (2 : Int) ^ (6 : Int).toNat = 64 from by decide]
      go_enter Tryd.func22, Tryd.ntmps22
      go_wp2_with fail
      refine (HN.out _).mono ?_
      rintro e w1 ⟨rfl, rfl⟩
      go_wp2_with fail
      go_region
      go_wp2_with fail
      exact bodyPost_ret (v := .agg #[.int .i64 T, .int .i64 P, .int .i64 Mo, .int .i64 Nx, .int .i64 (bits .andNot .i64 Me 64)]) (by simp [results, Tryd.results22, go_sem]) rfl ⟨rfl, below_drewN (((Below.refl _ _).alloc (Nat.le_refl _) _).alloc (by simp) _) 1⟩
    · clear h0
      rw [show (2 : Int) ^ (7 : Int).toNat = 128 from by decide]
      go_enter Tryd.func22, Tryd.ntmps22
      go_wp2_with fail
      refine (HN.out _).mono ?_
      rintro e w1 ⟨rfl, rfl⟩
      go_wp2_with fail
      go_region
      go_wp2_with fail
      exact bodyPost_ret (v := .agg #[.int .i64 T, .int .i64 P, .int .i64 Mo, .int .i64 Nx, .int .i64 (bits .andNot .i64 Me 128)]) (by simp [results, Tryd.results22, go_sem]) rfl ⟨rfl, below_drewN (((Below.refl _ _).alloc (Nat.le_refl _) _).alloc (by simp) _) 1⟩
  · rw [if_neg h0]
    rw [decide_eq_false h0] at hno
    have HN := Lib.hid hno; clear hno h0
    go_enter Tryd.func22, Tryd.ntmps22
    go_wp2_with fail
    refine (HN.out _).mono ?_
    rintro e w1 ⟨rfl, rfl⟩
    go_wp2_with fail
    exact bodyPost_ret (v := .agg #[.int .i64 T, .int .i64 P, .int .i64 Mo, .int .i64 Nx, .int .i64 Me]) (by simp [results, Tryd.results22, go_sem]) rfl ⟨rfl, (((Below.refl _ _).alloc (Nat.le_refl _) _).alloc (by simp) _)⟩

set_option maxRecDepth 8000 in
set_option maxHeartbeats 2000000 in
theorem rwithC_any (c : CS) (n : Int) (w : World) : Calls Tryd.prog 21 #[.agg c.cells, .int .i64 n] w fun e w' => e = .returned (.agg (withC c n).cells) ∧ Below w.heap.size w w' := by
  have hno := fun W => rnode_any n W
  unfold withC
  obtain ⟨T, P, Mo, Nx, Me⟩ := c
  unfold CS.cells
  dsimp only
  by_cases h0 : 0 ≤ n ∧ n < 8
  · rw [if_pos h0]
    rw [decide_eq_true h0] at hno
    have HN := Lib.hid hno; clear hno
    rcases eight h0 with rfl | rfl | rfl | rfl | rfl | rfl | rfl | rfl
    · clear h0
      rw [show (2 : Int) ^ (0 : Int).toNat = 1 from by decide]
      go_enter Tryd.func21, Tryd.ntmps21
      go_wp2_with fail
      refine (HN.out _).mono ?_
      rintro e w1 ⟨rfl, rfl⟩
      go_wp2_with fail
      exact bodyPost_ret (v := .agg #[.int .i64 T, .int .i64 P, .int .i64 Mo, .int .i64 Nx, .int .i64 (bits .or .i64 Me 1)]) (by simp [results, Tryd.results21, go_sem]) rfl ⟨rfl, (((Below.refl _ _).alloc (Nat.le_refl _) _).alloc (by simp) _)⟩
    · clear h0
      rw [show (2 : Int) ^ (1 : Int).toNat = 2 from by decide]
      go_enter Tryd.func21, Tryd.ntmps21
      go_wp2_with fail
      refine (HN.out _).mono ?_
      rintro e w1 ⟨rfl, rfl⟩
      go_wp2_with fail
      exact bodyPost_ret (v := .agg #[.int .i64 T, .int .i64 P, .int .i64 Mo, .int .i64 Nx, .int .i64 (bits .or .i64 Me 2)]) (by simp [results, Tryd.results21, go_sem]) rfl ⟨rfl, (((Below.refl _ _).alloc (Nat.le_refl _) _).alloc (by simp) _)⟩
    · clear h0
      rw [show (2 : Int) ^ (2 : Int).toNat = 4 from by decide]
      go_enter Tryd.func21, Tryd.ntmps21
      go_wp2_with fail
      refine (HN.out _).mono ?_
      rintro e w1 ⟨rfl, rfl⟩
      go_wp2_with fail
      exact bodyPost_ret (v := .agg #[.int .i64 T, .int .i64 P, .int .i64 Mo, .int .i64 Nx, .int .i64 (bits .or .i64 Me 4)]) (by simp [results, Tryd.results21, go_sem]) rfl ⟨rfl, (((Below.refl _ _).alloc (Nat.le_refl _) _).alloc (by simp) _)⟩
    · clear h0
      rw [show (2 : Int) ^ (3 : Int).toNat = 8 from by decide]
      go_enter Tryd.func21, Tryd.ntmps21
      go_wp2_with fail
      refine (HN.out _).mono ?_
      rintro e w1 ⟨rfl, rfl⟩
      go_wp2_with fail
      exact bodyPost_ret (v := .agg #[.int .i64 T, .int .i64 P, .int .i64 Mo, .int .i64 Nx, .int .i64 (bits .or .i64 Me 8)]) (by simp [results, Tryd.results21, go_sem]) rfl ⟨rfl, (((Below.refl _ _).alloc (Nat.le_refl _) _).alloc (by simp) _)⟩
    · clear h0
      rw [show (2 : Int) ^ (4 : Int).toNat = 16 from by decide]
      go_enter Tryd.func21, Tryd.ntmps21
      go_wp2_with fail
      refine (HN.out _).mono ?_
      rintro e w1 ⟨rfl, rfl⟩
      go_wp2_with fail
      exact bodyPost_ret (v := .agg #[.int .i64 T, .int .i64 P, .int .i64 Mo, .int .i64 Nx, .int .i64 (bits .or .i64 Me 16)]) (by simp [results, Tryd.results21, go_sem]) rfl ⟨rfl, (((Below.refl _ _).alloc (Nat.le_refl _) _).alloc (by simp) _)⟩
    · clear h0
      rw [show (2 : Int) ^ (5 : Int).toNat = 32 from by decide]
      go_enter Tryd.func21, Tryd.ntmps21
      go_wp2_with fail
      refine (HN.out _).mono ?_
      rintro e w1 ⟨rfl, rfl⟩
      go_wp2_with fail
      exact bodyPost_ret (v := .agg #[.int .i64 T, .int .i64 P, .int .i64 Mo, .int .i64 Nx, .int .i64 (bits .or .i64 Me 32)]) (by simp [results, Tryd.results21, go_sem]) rfl ⟨rfl, (((Below.refl _ _).alloc (Nat.le_refl _) _).alloc (by simp) _)⟩
    · clear h0
      rw [show (2 : Int) ^ (6 : Int).toNat = 64 from by decide]
      go_enter Tryd.func21, Tryd.ntmps21
      go_wp2_with fail
      refine (HN.out _).mono ?_
      rintro e w1 ⟨rfl, rfl⟩
      go_wp2_with fail
      exact bodyPost_ret (v := .agg #[.int .i64 T, .int .i64 P, .int .i64 Mo, .int .i64 Nx, .int .i64 (bits .or .i64 Me 64)]) (by simp [results, Tryd.results21, go_sem]) rfl ⟨rfl, (((Below.refl _ _).alloc (Nat.le_refl _) _).alloc (by simp) _)⟩
    · clear h0
      rw [show (2 : Int) ^ (7 : Int).toNat = 128 from by decide]
      go_enter Tryd.func21, Tryd.ntmps21
      go_wp2_with fail
      refine (HN.out _).mono ?_
      rintro e w1 ⟨rfl, rfl⟩
      go_wp2_with fail
      exact bodyPost_ret (v := .agg #[.int .i64 T, .int .i64 P, .int .i64 Mo, .int .i64 Nx, .int .i64 (bits .or .i64 Me 128)]) (by simp [results, Tryd.results21, go_sem]) rfl ⟨rfl, (((Below.refl _ _).alloc (Nat.le_refl _) _).alloc (by simp) _)⟩
  · rw [if_neg h0]
    rw [decide_eq_false h0] at hno
    have HN := Lib.hid hno; clear hno h0
    go_enter Tryd.func21, Tryd.ntmps21
    go_wp2_with fail
    refine (HN.out _).mono ?_
    rintro e w1 ⟨rfl, rfl⟩
    go_wp2_with fail
    exact bodyPost_ret (v := .agg #[.int .i64 T, .int .i64 P, .int .i64 Mo, .int .i64 Nx, .int .i64 Me]) (by simp [results, Tryd.results21, go_sem]) rfl ⟨rfl, (((Below.refl _ _).alloc (Nat.le_refl _) _).alloc (by simp) _)⟩

set_option maxRecDepth 8000 in
set_option maxHeartbeats 2000000 in
theorem rwithoutC_any (c : CS) (n : Int) (w : World) : Calls Tryd.prog 23 #[.agg c.cells, .int .i64 n] w fun e w' => e = .returned (.agg (withoutC c n).cells) ∧ Below w.heap.size w w' := by
  have hno := fun W => rnode_any n W
  unfold withoutC
  obtain ⟨T, P, Mo, Nx, Me⟩ := c
  unfold CS.cells
  dsimp only
  by_cases h0 : 0 ≤ n ∧ n < 8
  · rw [if_pos h0]
    rw [decide_eq_true h0] at hno
    have HN := Lib.hid hno; clear hno
    rcases eight h0 with rfl | rfl | rfl | rfl | rfl | rfl | rfl | rfl
    · clear h0
      rw [show (2 : Int) ^ (0 : Int).toNat = 1 from by decide]
      go_enter Tryd.func23, Tryd.ntmps23
      go_wp2_with fail
      refine (HN.out _).mono ?_
      rintro e w1 ⟨rfl, rfl⟩
      go_wp2_with fail
      exact bodyPost_ret (v := .agg #[.int .i64 T, .int .i64 P, .int .i64 Mo, .int .i64 Nx, .int .i64 (bits .andNot .i64 Me 1)]) (by simp [results, Tryd.results23, go_sem]) rfl ⟨rfl, (((Below.refl _ _).alloc (Nat.le_refl _) _).alloc (by simp) _)⟩
    · clear h0
      rw [show (2 : Int) ^ (1 : Int).toNat = 2 from by decide]
      go_enter Tryd.func23, Tryd.ntmps23
      go_wp2_with fail
      refine (HN.out _).mono ?_
      rintro e w1 ⟨rfl, rfl⟩
      go_wp2_with fail
      exact bodyPost_ret (v := .agg #[.int .i64 T, .int .i64 P, .int .i64 Mo, .int .i64 Nx, .int .i64 (bits .andNot .i64 Me 2)]) (by simp [results, Tryd.results23, go_sem]) rfl ⟨rfl, (((Below.refl _ _).alloc (Nat.le_refl _) _).alloc (by simp) _)⟩
    · clear h0
      rw [show (2 : Int) ^ (2 : Int).toNat = 4 from by decide]
      go_enter Tryd.func23, Tryd.ntmps23
      go_wp2_with fail
      refine (HN.out _).mono ?_
      rintro e w1 ⟨rfl, rfl⟩
      go_wp2_with fail
      exact bodyPost_ret (v := .agg #[.int .i64 T, .int .i64 P, .int .i64 Mo, .int .i64 Nx, .int .i64 (bits .andNot .i64 Me 4)]) (by simp [results, Tryd.results23, go_sem]) rfl ⟨rfl, (((Below.refl _ _).alloc (Nat.le_refl _) _).alloc (by simp) _)⟩
    · clear h0
      rw [show (2 : Int) ^ (3 : Int).toNat = 8 from by decide]
      go_enter Tryd.func23, Tryd.ntmps23
      go_wp2_with fail
      refine (HN.out _).mono ?_
      rintro e w1 ⟨rfl, rfl⟩
      go_wp2_with fail
      exact bodyPost_ret (v := .agg #[.int .i64 T, .int .i64 P, .int .i64 Mo, .int .i64 Nx, .int .i64 (bits .andNot .i64 Me 8)]) (by simp [results, Tryd.results23, go_sem]) rfl ⟨rfl, (((Below.refl _ _).alloc (Nat.le_refl _) _).alloc (by simp) _)⟩
    · clear h0
      rw [show (2 : Int) ^ (4 : Int).toNat = 16 from by decide]
      go_enter Tryd.func23, Tryd.ntmps23
      go_wp2_with fail
      refine (HN.out _).mono ?_
      rintro e w1 ⟨rfl, rfl⟩
      go_wp2_with fail
      exact bodyPost_ret (v := .agg #[.int .i64 T, .int .i64 P, .int .i64 Mo, .int .i64 Nx, .int .i64 (bits .andNot .i64 Me 16)]) (by simp [results, Tryd.results23, go_sem]) rfl ⟨rfl, (((Below.refl _ _).alloc (Nat.le_refl _) _).alloc (by simp) _)⟩
    · clear h0
      rw [show (2 : Int) ^ (5 : Int).toNat = 32 from by decide]
      go_enter Tryd.func23, Tryd.ntmps23
      go_wp2_with fail
      refine (HN.out _).mono ?_
      rintro e w1 ⟨rfl, rfl⟩
      go_wp2_with fail
      exact bodyPost_ret (v := .agg #[.int .i64 T, .int .i64 P, .int .i64 Mo, .int .i64 Nx, .int .i64 (bits .andNot .i64 Me 32)]) (by simp [results, Tryd.results23, go_sem]) rfl ⟨rfl, (((Below.refl _ _).alloc (Nat.le_refl _) _).alloc (by simp) _)⟩
    · clear h0
      rw [show (2 : Int) ^ (6 : Int).toNat = 64 from by decide]
      go_enter Tryd.func23, Tryd.ntmps23
      go_wp2_with fail
      refine (HN.out _).mono ?_
      rintro e w1 ⟨rfl, rfl⟩
      go_wp2_with fail
      exact bodyPost_ret (v := .agg #[.int .i64 T, .int .i64 P, .int .i64 Mo, .int .i64 Nx, .int .i64 (bits .andNot .i64 Me 64)]) (by simp [results, Tryd.results23, go_sem]) rfl ⟨rfl, (((Below.refl _ _).alloc (Nat.le_refl _) _).alloc (by simp) _)⟩
    · clear h0
      rw [show (2 : Int) ^ (7 : Int).toNat = 128 from by decide]
      go_enter Tryd.func23, Tryd.ntmps23
      go_wp2_with fail
      refine (HN.out _).mono ?_
      rintro e w1 ⟨rfl, rfl⟩
      go_wp2_with fail
      exact bodyPost_ret (v := .agg #[.int .i64 T, .int .i64 P, .int .i64 Mo, .int .i64 Nx, .int .i64 (bits .andNot .i64 Me 128)]) (by simp [results, Tryd.results23, go_sem]) rfl ⟨rfl, (((Below.refl _ _).alloc (Nat.le_refl _) _).alloc (by simp) _)⟩
  · rw [if_neg h0]
    rw [decide_eq_false h0] at hno
    have HN := Lib.hid hno; clear hno h0
    go_enter Tryd.func23, Tryd.ntmps23
    go_wp2_with fail
    refine (HN.out _).mono ?_
    rintro e w1 ⟨rfl, rfl⟩
    go_wp2_with fail
    exact bodyPost_ret (v := .agg #[.int .i64 T, .int .i64 P, .int .i64 Mo, .int .i64 Nx, .int .i64 Me]) (by simp [results, Tryd.results23, go_sem]) rfl ⟨rfl, (((Below.refl _ _).alloc (Nat.le_refl _) _).alloc (by simp) _)⟩

set_option maxRecDepth 8000 in
set_option maxHeartbeats 2000000 in
theorem hasC_any (c : CS) (n : Int) (w : World) : Calls Tryd.prog 24 #[.agg c.cells, .int .i64 n] w fun e w' => e = .returned (.bool (hasC c n)) ∧ Below w.heap.size w w' := by
  have hno := fun W => isNode_any n W
  unfold hasC
  obtain ⟨T, P, Mo, Nx, Me⟩ := c
  unfold CS.cells
  dsimp only
  by_cases h0 : 0 ≤ n ∧ n < 8
  · rw [decide_eq_true h0, Bool.true_and]
    rw [decide_eq_true h0] at hno
    have HN := Lib.hid hno; clear hno
    rcases eight h0 with rfl | rfl | rfl | rfl | rfl | rfl | rfl | rfl
    · clear h0
      rw [show (0 : Int).toNat = 0 from rfl, ← has_shr0]
      go_enter Tryd.func24, Tryd.ntmps24
      go_wp2_with fail
      refine (HN.out _).mono ?_
      rintro e w1 ⟨rfl, rfl⟩
      go_wp2_with fail
      go_ret
      exact ⟨by simp, (Below.refl _ _).alloc (Nat.le_refl _) _⟩
    · clear h0
      rw [show (1 : Int).toNat = 1 from rfl, ← has_shr1]
      go_enter Tryd.func24, Tryd.ntmps24
      go_wp2_with fail
      refine (HN.out _).mono ?_
      rintro e w1 ⟨rfl, rfl⟩
      go_wp2_with fail
      go_ret
      exact ⟨rfl, (Below.refl _ _).alloc (Nat.le_refl _) _⟩
    · clear h0
      rw [show (2 : Int).toNat = 2 from rfl, ← has_shr2]
      go_enter Tryd.func24, Tryd.ntmps24
      go_wp2_with fail
      refine (HN.out _).mono ?_
      rintro e w1 ⟨rfl, rfl⟩
      go_wp2_with fail
      go_ret
      exact ⟨rfl, (Below.refl _ _).alloc (Nat.le_refl _) _⟩
    · clear h0
      rw [show (3 : Int).toNat = 3 from rfl, ← has_shr3]
      go_enter Tryd.func24, Tryd.ntmps24
      go_wp2_with fail
      refine (HN.out _).mono ?_
      rintro e w1 ⟨rfl, rfl⟩
      go_wp2_with fail
      go_ret
      exact ⟨rfl, (Below.refl _ _).alloc (Nat.le_refl _) _⟩
    · clear h0
      rw [show (4 : Int).toNat = 4 from rfl, ← has_shr4]
      go_enter Tryd.func24, Tryd.ntmps24
      go_wp2_with fail
      refine (HN.out _).mono ?_
      rintro e w1 ⟨rfl, rfl⟩
      go_wp2_with fail
      go_ret
      exact ⟨rfl, (Below.refl _ _).alloc (Nat.le_refl _) _⟩
    · clear h0
      rw [show (5 : Int).toNat = 5 from rfl, ← has_shr5]
      go_enter Tryd.func24, Tryd.ntmps24
      go_wp2_with fail
      refine (HN.out _).mono ?_
      rintro e w1 ⟨rfl, rfl⟩
      go_wp2_with fail
      go_ret
      exact ⟨rfl, (Below.refl _ _).alloc (Nat.le_refl _) _⟩
    · clear h0
      rw [show (6 : Int).toNat = 6 from rfl, ← has_shr6]
      go_enter Tryd.func24, Tryd.ntmps24
      go_wp2_with fail
      refine (HN.out _).mono ?_
      rintro e w1 ⟨rfl, rfl⟩
      go_wp2_with fail
      go_ret
      exact ⟨rfl, (Below.refl _ _).alloc (Nat.le_refl _) _⟩
    · clear h0
      rw [show (7 : Int).toNat = 7 from rfl, ← has_shr7]
      go_enter Tryd.func24, Tryd.ntmps24
      go_wp2_with fail
      refine (HN.out _).mono ?_
      rintro e w1 ⟨rfl, rfl⟩
      go_wp2_with fail
      go_ret
      exact ⟨rfl, (Below.refl _ _).alloc (Nat.le_refl _) _⟩
  · rw [decide_eq_false h0, Bool.false_and]
    rw [decide_eq_false h0] at hno
    have HN := Lib.hid hno; clear hno h0
    go_enter Tryd.func24, Tryd.ntmps24
    go_wp2_with fail
    refine (HN.out _).mono ?_
    rintro e w1 ⟨rfl, rfl⟩
    go_wp2_with fail
    go_ret
    exact ⟨rfl, (Below.refl _ _).alloc (Nat.le_refl _) _⟩

set_option maxRecDepth 8000 in
set_option maxHeartbeats 2000000 in
theorem rhasC_any (c : CS) (n : Int) (w : World) : Calls Tryd.prog 25 #[.agg c.cells, .int .i64 n] w fun e w' => e = .returned (.bool (hasC c n)) ∧ Below w.heap.size w w' := by
  have hno := fun W => rnode_any n W
  unfold hasC
  obtain ⟨T, P, Mo, Nx, Me⟩ := c
  unfold CS.cells
  dsimp only
  by_cases h0 : 0 ≤ n ∧ n < 8
  · rw [decide_eq_true h0, Bool.true_and]
    rw [decide_eq_true h0] at hno
    have HN := Lib.hid hno; clear hno
    rcases eight h0 with rfl | rfl | rfl | rfl | rfl | rfl | rfl | rfl
    · clear h0
      rw [show (0 : Int).toNat = 0 from rfl, ← has_and0]
      go_enter Tryd.func25, Tryd.ntmps25
      go_wp2_with fail
      refine (HN.out _).mono ?_
      rintro e w1 ⟨rfl, rfl⟩
      go_wp2_with fail
      go_ret
      exact ⟨rfl, (Below.refl _ _).alloc (Nat.le_refl _) _⟩
    · clear h0
      rw [show (1 : Int).toNat = 1 from rfl, ← has_and1]
      go_enter Tryd.func25, Tryd.ntmps25
      go_wp2_with fail
      refine (HN.out _).mono ?_
      rintro e w1 ⟨rfl, rfl⟩
      go_wp2_with fail
      go_ret
      exact ⟨rfl, (Below.refl _ _).alloc (Nat.le_refl _) _⟩
    · clear h0
      rw [show (2 : Int).toNat = 2 from rfl, ← has_and2]
      go_enter Tryd.func25, Tryd.ntmps25
      go_wp2_with fail
      refine (HN.out _).mono ?_
      rintro e w1 ⟨rfl, rfl⟩
      go_wp2_with fail
      go_ret
      exact ⟨rfl, (Below.refl _ _).alloc (Nat.le_refl _) _⟩
    · clear h0
      rw [show (3 : Int).toNat = 3 from rfl, ← has_and3]
      go_enter Tryd.func25, Tryd.ntmps25
      go_wp2_with fail
      refine (HN.out _).mono ?_
      rintro e w1 ⟨rfl, rfl⟩
      go_wp2_with fail
      go_ret
      exact ⟨rfl, (Below.refl _ _).alloc (Nat.le_refl _) _⟩
    · clear h0
      rw [show (4 : Int).toNat = 4 from rfl, ← has_and4]
      go_enter Tryd.func25, Tryd.ntmps25
      go_wp2_with fail
      refine (HN.out _).mono ?_
      rintro e w1 ⟨rfl, rfl⟩
      go_wp2_with fail
      go_ret
      exact ⟨rfl, (Below.refl _ _).alloc (Nat.le_refl _) _⟩
    · clear h0
      rw [show (5 : Int).toNat = 5 from rfl, ← has_and5]
      go_enter Tryd.func25, Tryd.ntmps25
      go_wp2_with fail
      refine (HN.out _).mono ?_
      rintro e w1 ⟨rfl, rfl⟩
      go_wp2_with fail
      go_ret
      exact ⟨rfl, (Below.refl _ _).alloc (Nat.le_refl _) _⟩
    · clear h0
      rw [show (6 : Int).toNat = 6 from rfl, ← has_and6]
      go_enter Tryd.func25, Tryd.ntmps25
      go_wp2_with fail
      refine (HN.out _).mono ?_
      rintro e w1 ⟨rfl, rfl⟩
      go_wp2_with fail
      go_ret
      exact ⟨rfl, (Below.refl _ _).alloc (Nat.le_refl _) _⟩
    · clear h0
      rw [show (7 : Int).toNat = 7 from rfl, ← has_and7]
      go_enter Tryd.func25, Tryd.ntmps25
      go_wp2_with fail
      refine (HN.out _).mono ?_
      rintro e w1 ⟨rfl, rfl⟩
      go_wp2_with fail
      go_ret
      exact ⟨rfl, (Below.refl _ _).alloc (Nat.le_refl _) _⟩
  · rw [decide_eq_false h0, Bool.false_and]
    rw [decide_eq_false h0] at hno
    have HN := Lib.hid hno; clear hno h0
    go_enter Tryd.func25, Tryd.ntmps25
    go_wp2_with fail
    refine (HN.out _).mono ?_
    rintro e w1 ⟨rfl, rfl⟩
    go_wp2_with fail
    go_ret
    exact ⟨rfl, (Below.refl _ _).alloc (Nat.le_refl _) _⟩

end Go.Proofs.YteigekhfamapmaaDoor
