/-
  Sets of truths as numbers, and the sum of bytes: setOf and sumOf of package medl. Conditions: those that each theorem names. (Printed by tools/gen07m4.py.)
-/
import Derived.Test.YtnmaelefcohogaaDoorM3
import Derived.Test.YtnmaelefcohogaaDoorQD
import Derived.Test.YtnmaelefcohogaaDoorQB
namespace Go.Proofs.YtnmaelefcohogaaDoor
open Go.RowKit

/-- The number whose bit 2^i is the truth i. -/
def setN : List Bool → Nat
  | [] => 0
  | b :: l => b.toNat + 2 * setN l
theorem setN_lt (l : List Bool) : setN l < 2 ^ l.length := by
  induction l with
  | nil => decide
  | cons b l ih =>
    have hb : b.toNat < 2 := by cases b <;> decide
    rw [List.length_cons, Nat.pow_succ]
    unfold setN
    omega
theorem setN_snoc (l : List Bool) (b : Bool) : setN (l ++ [b]) = setN l + b.toNat * 2 ^ l.length := by
  induction l with
  | nil => simp [setN]
  | cons c l ih =>
    rw [List.cons_append, List.length_cons, Nat.pow_succ]
    unfold setN
    rw [ih, Nat.mul_add]
    have : 2 * (b.toNat * 2 ^ l.length) = b.toNat * (2 ^ l.length * 2) := by rw [Nat.mul_comm 2, Nat.mul_assoc]
    omega
theorem ofInt_i64 (a : Nat) (ha : a < 2 ^ 62) : (BitVec.ofInt 64 (a : Int)).toNat = a := ofInt_u64 a (by omega)
theorem i64_or (a k : Nat) (ha : a < 2 ^ k) (hk : k < 61) : bits .or .i64 (a : Int) (((2 ^ k : Nat) : Int)) = ((a + 2 ^ k : Nat) : Int) := by
  have hp : (2 : Nat) ^ k < 2 ^ 61 := Nat.pow_lt_pow_right (by decide) hk
  have hj : a ||| 2 ^ k = a + 2 ^ k := by rw [Nat.or_comm, nat_join k (2 ^ k) a (by simp) ha, Nat.add_comm]
  show IntKind.i64.wrap ((BitVec.ofInt 64 (a : Int) ||| BitVec.ofInt 64 ((2 ^ k : Nat) : Int)).toNat : Int) = _
  rw [BitVec.toNat_or, ofInt_i64 a (by omega), ofInt_i64 (2 ^ k) (by omega), hj]
  exact IntWalk.i64_in _ (by omega)
theorem good_whole (l : List UInt8) (h : l.length ≤ 500) : goodB ((8 * l.length : Nat) : Int) l = true := by
  rw [good_iff]
  refine ⟨by omega, by omega, by omega, fun i hi => ?_⟩
  exact bitAt_beyond l i (by omega)
/-- The sum of bytes. -/
def sumN (l : List UInt8) : Nat := rem 0 (listOf (8 * l.length : Nat) l)
set_option maxRecDepth 4000 in
set_option maxHeartbeats 1000000 in
theorem setOf_any (A : Option Addr) (n c : Nat) (l : List Bool) (w : World) (hn : n = l.length) (hm : n ≤ 8) (hA : Bools w.heap.size w A l) :
    Calls Tryd.prog 36 #[.slice A n c] w fun e w' => e = .returned (.int .i64 (setN l : Nat)) ∧ w = w' := by
  have HA := Lib.hid hA
  have HN := Lib.hid hn; clear hn hA
  go_enter Tryd.func36, Tryd.ntmps36
  go_wp2
  go_loopw [3, 4, 5, 8] (fun v _ _ i wr => ∃ k t : Nat, k ≤ n ∧ i = .int .i64 k ∧ v = .int .i64 t ∧ setN (l.take k) = t ∧ wr = w) (fun _ _ _ i _ => n - (intOf i).toNat)
  case atStart => exact ⟨0, 0, by omega, rfl, rfl, rfl, rfl⟩
  case round =>
    obtain ⟨k, t, hk, rfl, rfl, hts, rfl⟩ := hrel
    have HT := Lib.hid hts; clear hts
    by_cases hlt : k < n
    · have hkl : k < l.length := by have := HN.out; omega
      have HKL := Lib.hid hkl; clear hkl
      obtain ⟨b, off, rfl, hbl, hcell⟩ := HA.out.at_ (k := k) HKL.out
      have hs := setN_snoc (l.take k) (l[k]?.getD false)
      have hlen : (l.take k).length = k := by rw [List.length_take]; have := HKL.out; omega
      have htk : t < 2 ^ k := by have := setN_lt (l.take k); rw [hlen, HT.out] at this; exact this
      have ht256 : t < 256 := Nat.lt_of_lt_of_le htk (Nat.pow_le_pow_right (by decide) (by omega : k ≤ 8))
      rw [← bool_at l k HKL.out, HT.out, hlen] at hs
      by_cases hb : l[k]?.getD false = true
      · rw [hb] at hcell hs
        have HS := Lib.hid hs
        have hor := i64_or t k htk (by omega)
        obtain ⟨P, hP⟩ : ∃ P, P = 2 ^ k := ⟨_, rfl⟩
        have hp256 : P ≤ 128 := by rw [hP]; exact Nat.pow_le_pow_right (by decide) (by omega : k ≤ 7)
        have hpi : (2 : Int) ^ k = (P : Int) := by rw [hP]; simp
        have ew : IntKind.i64.wrap (P : Int) = (P : Int) := IntWalk.i64_in _ (by omega)
        rw [← hP] at hor
        have HP := Lib.hid hP
        clear hs hb hP htk hlen
        go_wp2
        go_roundw
        case rel => exact ⟨k + 1, t + P, by omega, by go_num, by go_num, by rw [HS.out, HP.out]; simp, by trivial⟩
        case measure => simp [intOf]; omega
      · rw [Bool.not_eq_true] at hb
        rw [hb] at hcell hs
        have HS := Lib.hid hs; clear hs hb hlen
        go_wp2
        go_roundw
        case rel => exact ⟨k + 1, t, by omega, by go_num, rfl, by rw [HS.out]; simp, by trivial⟩
        case measure => simp [intOf]; omega
    · go_wp2
      go_ret
      have h3 := HT.out
      rw [List.take_of_length_le (by have := HN.out; omega)] at h3
      exact ⟨by rw [h3]; rfl, rfl⟩
theorem sum_one (X : Option Addr) (n c : Nat) (l : List UInt8) (hg : goodB ((8 * l.length : Nat) : Int) l = true) : sumS [⟨((8 * l.length : Nat) : Int), X, n, c, l⟩] = (0, sumN l) := by
  have ha : allGood [⟨((8 * l.length : Nat) : Int), X, n, c, l⟩] = true := by unfold allGood; show (goodB _ l && true) = true; rw [hg]; rfl
  unfold sumS
  rw [if_pos ha]
  show ((0 : Int), rem 0 (lst ((8 * l.length : Nat) : Int) l ++ [])) = _
  rw [List.append_nil, lst_good hg]
  rfl
theorem sumN_lt (l : List UInt8) : sumN l < 2 ^ 24 := rem_lt _ _ (by decide)
set_option maxRecDepth 4000 in
set_option maxHeartbeats 1000000 in
theorem sumOf_any (A : Option Addr) (c : Nat) (l : List UInt8) (w : World) (hm : l.length ≤ 500) (hA : Byt w.heap.size w A l) (hT : Tab w) :
    Calls Tryd.prog 15 #[.slice A l.length c] w fun e w' => e = .returned (.int .i64 (sumN l : Nat)) ∧ Below w.heap.size w w' := by
  have hlt := sumN_lt l
  obtain ⟨kb, bc⟩ := bx1 w #[.int .i64 ((8 * l.length : Nat) : Int), .slice A l.length c] 68
  have hX : BVs (w.alloc (.cells #[.int .i64 ((8 * l.length : Nat) : Int), .slice A l.length c] 68)).heap.size (w.alloc (.cells #[.int .i64 ((8 * l.length : Nat) : Int), .slice A l.length c] 68)) (some ⟨w.heap.size, 0, none⟩) [⟨((8 * l.length : Nat) : Int), A, l.length, c, l⟩] := fun _ => ⟨w.heap.size, 0, rfl, kb.lt, fun j x hx => by
    match j, hx with
    | 0, hx =>
      obtain rfl : _ = x := by simpa using hx
      exact ⟨kb.two.1, kb.two.2.1⟩⟩
  have hsum := sum_any (some ⟨w.heap.size, 0, none⟩) 1 1 [⟨((8 * l.length : Nat) : Int), A, l.length, c, l⟩] (w.alloc (.cells #[.int .i64 ((8 * l.length : Nat) : Int), .slice A l.length c] 68)) rfl (by unfold maxLen; omega) hX (fun x hx => by
    obtain rfl : x = _ := by simpa using hx
    exact ⟨rfl, by show l.length ≤ maxLen; unfold maxLen; omega, (hA.below bc).mono bc.size⟩) (hT.below bc (.inl (Nat.le_refl _)))
  rw [sum_one A l.length c l (good_whole l hm)] at hsum
  unfold Sm at hsum
  generalize sumN l = s at *
  have e1 : IntKind.i64.wrap ((l.length : Int) * 8) = ((8 * l.length : Nat) : Int) := by rw [show (l.length : Int) * 8 = ((8 * l.length : Nat) : Int) by omega]; exact IntWalk.i64_in _ (by omega)
  obtain ⟨N8, hN8⟩ : ∃ x, x = ((8 * l.length : Nat) : Int) := ⟨_, rfl⟩
  rw [← hN8] at e1 hsum kb bc
  have e2 : IntKind.i64.wrap (s : Int) = (s : Int) := IntWalk.i64_in _ (by omega)
  have HS := Lib.hid hsum; clear hsum hX hN8 hA hT
  obtain ⟨n, hn⟩ : ∃ n, n = l.length := ⟨_, rfl⟩
  rw [← hn] at e1 HS kb bc hm ⊢
  clear hn
  go_enter Tryd.func15, Tryd.ntmps15
  go_wp2_with (go_at_call 37; refine HS.out.mono ?_; rintro e w2 ⟨rfl, hC⟩; dsimp only)
  go_ret
  exact ⟨rfl, below_then bc hC⟩
end Go.Proofs.YtnmaelefcohogaaDoor
