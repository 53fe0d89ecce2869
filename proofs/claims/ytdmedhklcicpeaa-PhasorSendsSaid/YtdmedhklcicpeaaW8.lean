/-
  The program's readNext, lengthOf and payLen. Conditions: those that each theorem names.
-/
import Derived.Test.YtdmedhklcicpeaaW7
import Derived.Test.YtdmedhklcicpeaaT1
namespace Go.Proofs.Ytdmedhklcicpeaa
open Go.RowKit

set_option maxRecDepth 4000 in
set_option maxHeartbeats 400000 in
theorem payLen_any (n : Nat) (w : World) (h : n ≤ 65536) : Calls Try.prog 44 #[.int .i64 n] w fun e w' => e = .returned (.int .i64 ((n + 1) / 2 : Nat)) ∧ w = w' := by
  have h1 : IntKind.i64.wrap ((n : Int) + 2) = (n : Int) + 2 := IntWalk.i64_in _ (by omega)
  have h2 : IntKind.i64.wrap ((n : Int) + 2 - 1) = (n : Int) + 1 := by rw [IntWalk.i64_in _ (by omega)]; omega
  have h3 : IntKind.i64.wrap (((n : Int) + 1).tdiv 2) = ((n + 1) / 2 : Nat) := by
    rw [Int.tdiv_eq_ediv_of_nonneg (by omega), IntWalk.i64_in _ (by omega)]; omega
  go_enter Try.func44, Try.ntmps44
  go_wp2
  go_ret
  exact ⟨rfl, rfl⟩

theorem own_grown_low2 {w w' : World} {base : Nat} {e : TypeId} {size : Nat} {v : Value} {n : Nat} {xs : List Value} (h : w.ownsRow base e size v n xs) (hg : w.grownBy w' v.ownBlock) (hb : base ≤ w.heap.size) : Below base w w' :=
  (Below.refl _ _).grown hg hb (fun k hk => by
    rcases h.2 with ⟨h1, _⟩ | ⟨g, cap, cur, h1, hb, _⟩
    · rw [h1] at hk; cases hk
    · rw [h1] at hk; simp [Value.ownBlock] at hk; omega)
theorem turn_back (x y q : Int) : (x * (turn1 (1, 0) q).1 - y * -(turn1 (1, 0) q).2, x * -(turn1 (1, 0) q).2 + y * (turn1 (1, 0) q).1) = turn1 (x, y) (4 - q % 4) := by
  have hq : q % 4 = 0 ∨ q % 4 = 1 ∨ q % 4 = 2 ∨ q % 4 = 3 := by omega
  unfold turn1
  rcases hq with h | h | h | h <;> rw [h] <;> simp
theorem order_lt {a : Nat} {x : Int} (h : IsF a x) : (FloatKind.f64.format.order a 0 == some .lt) = decide (x < 0) := by
  have e : FloatKind.f64.format.order a 0 = some (compare x 0) := isF_order h isF_zero
  rw [e]
  rcases Int.lt_trichotomy x 0 with h | h | h
  · rw [Int.compare_eq_lt.2 h]; simp [h]
  · subst h; rfl
  · rw [Int.compare_eq_gt.2 h]
    have : ¬ x < 0 := by omega
    simp [this]

set_option maxRecDepth 4000 in
set_option maxHeartbeats 1000000 in
/-- One sample more is read: its two bits, or an error. -/
theorem readNext_any (base : Nat) (rv : Value) (k : Nat) (bl : List Bool) (SA : Option Addr) (sn sc : Nat) (l : List Sp) (q : Int) (w : World)
    (hown : w.ownsRow base 4 1 rv (2 * k) (bl.map Value.bool)) (hbase : base ≤ w.heap.size) (hsn : sn = l.length) (hsm : sn ≤ 65536) (hS : Smps base w SA l) (hk : k < sn) :
    Calls Try.prog 55 #[rv, .slice SA sn sc, .int .i64 q] w fun e w' => Below base w w' ∧ base ≤ w'.heap.size ∧
      if mayS (l[k]?.getD (0, 0)) = true then ∃ v', e = .returned (.tuple #[v', .int .i64 0]) ∧ w'.ownsRow base 4 1 v' (2 * (k + 1)) ((bl ++ bits1 q (l[k]?.getD (0, 0))).map Value.bool)
      else e = .returned (.tuple #[.slice none 0 0, .int .i64 31]) := by
  obtain ⟨b, off, rfl, hbl, hc0, hc1⟩ := hS.at_ (k := k) (by omega)
  obtain ⟨RA, rc, rfl⟩ : ∃ RA rc, rv = .slice RA (2 * k) rc := by
    rcases hown.2 with ⟨h1, h2⟩ | ⟨g, cap, cur, h1, _⟩
    · exact ⟨none, 0, by rw [h1, h2]⟩
    · exact ⟨_, _, h1⟩
  have hbs : b < w.heap.size := by omega
  generalize l[k]?.getD (0, 0) = s at *
  obtain ⟨x, y⟩ := s
  dsimp only at hc0 hc1
  have hmb := fun w1 => mayBe_any x y w1
  have HSN := Lib.hid hsn; have HS := Lib.hid hS; have HOWN := Lib.hid hown
  clear hsn hS hown
  have hq1 : IntKind.i64.wrap (((2 * k : Nat) : Int).tdiv 2) = (k : Int) := by
    rw [Int.tdiv_eq_ediv_of_nonneg (by omega), IntWalk.i64_in _ (by omega)]; omega
  have hB1 : Below w.heap.size w (w.alloc (.cells #[.int .i64 x, .int .i64 y] 38)) := (Below.refl _ _).alloc (Nat.le_refl _) _
  have k1 := Blk.new w 38 #[.int .i64 x, .int .i64 y]
  by_cases hms : mayS (x, y) = true
  · simp only [if_pos hms]
    rw [hms] at hmb
    have hnm := fun w1 => number_any x y w1 hms
    have hsm2 := may_small hms
    have HMB := Lib.hid hmb; have HNM := Lib.hid hnm; have HSM2 := Lib.hid hsm2; have HTB := Lib.hid (turnBy_any q)
    clear hmb hnm hsm2 hms
    go_enter Try.func55, Try.ntmps55
    go_wp2_with fail
    refine (HMB.out _).mono ?_
    rintro e w2 ⟨rfl, hB2⟩
    have k2 := k1.on hB2
    obtain ⟨d0, d1, _⟩ := k2.two
    have hl2 := k2.lt
    have b2 := hB1.trans (hB2.mono hB1.size)
    go_wp2_with fail
    refine (HNM.out _).mono ?_
    rintro e w3 ⟨na, nb, rfl, hna, hnb, hB3⟩
    have b3 := b2.trans (hB3.mono b2.size)
    have HNA := Lib.hid hna; have HNB := Lib.hid hnb; clear hna hnb
    go_wp2_with fail
    refine (HTB.out _).mono ?_
    rintro e w4 ⟨ta, tb, rfl, hta, htb, rfl⟩
    have HTA := Lib.hid hta; have HTBB := Lib.hid htb; clear hta htb
    have HTO := Lib.hid (fun w1 => turnedOver_any ta tb w1)
    go_wp2_with fail
    refine (HTO.out _).mono ?_
    rintro e w4 ⟨rfl, rfl⟩
    have hts := ti_small q
    obtain ⟨re, im, hmul, hre, him⟩ := isC_mul HNA.out HNB.out HTA.out (isF_neg HTBB.out) HSM2.out.1 HSM2.out.2 hts.1 (by have := hts.2; omega)
    have e0 := turn_back x y q
    have e1 := congrArg Prod.fst e0
    have e2 := congrArg Prod.snd e0
    dsimp only at e1 e2
    rw [e1] at hre
    rw [e2] at him
    have o1 := order_lt hre
    have o2 := order_lt him
    have hop := fun t w1 => run_complex_mul (P := Try.prog) w1 t na nb ta (Op.negFloat .f64 tb) re im hmul
    have hb1 : bits1 q (x, y) = [decide ((turn1 (x, y) (4 - q % 4)).2 < 0), decide ((turn1 (x, y) (4 - q % 4)).1 < 0)] := rfl
    generalize decide ((turn1 (x, y) (4 - q % 4)).2 < 0) = p2 at *
    generalize decide ((turn1 (x, y) (4 - q % 4)).1 < 0) = p1 at *
    have HB1 := Lib.hid hb1
    have hrow := own_on HOWN.out b3
    have HROW := Lib.hid hrow
    have hs3 := b3.size
    clear hrow hb1 e0 e1 e2 hre him hmul hts
    obtain ⟨i0, hi, hz0, hz1, hz2⟩ := info_parts Try.info4
    go_wp2_with (at_builtin; refine wpList_append_own _ rfl _ _ 71 rfl base 4 i0 (.bool false) 1 1 Try.underlying71 hi hz0 hz1 hz2 rfl (by decide) _ _ _ rfl (HROW.out.alloc _) ⟨w3.heap.size, 0, none⟩ 2 2 [.bool p2, .bool p1] rfl rfl (cell_two_new _ _ _ _) (by simp [Value.oneCell']) (by unfold maxLen; omega) (by omega) (by simp; omega) ?_; intro v' w5 hown' hgrow _)
    go_ret2
    have hB5 : Below base w w5 := ((b3.mono hbase).alloc (by omega) _).trans (own_grown_low2 (HROW.out.alloc _) hgrow (by simp; omega))
    refine ⟨hB5, Nat.le_trans hbase hB5.size, v', rfl, ?_⟩
    rw [HB1.out, List.map_append]
    exact hown'
  · simp only [if_neg hms]
    rw [Bool.not_eq_true] at hms
    rw [hms] at hmb
    have HMB := Lib.hid hmb; clear hmb
    go_enter Try.func55, Try.ntmps55
    go_wp2_with fail
    refine (HMB.out _).mono ?_
    rintro e w2 ⟨rfl, hB2⟩
    have b2 := hB1.trans (hB2.mono hB1.size)
    go_wp2
    go_ret2
    exact ⟨b2.mono hbase, Nat.le_trans hbase b2.size, rfl⟩

theorem num_snoc (l : List Bool) (k : Nat) (h : k < l.length) : numOf (l.take (k + 1)) = 2 * numOf (l.take k) + (l[k]?.getD false).toNat := by
  rw [List.take_add_one, List.getElem?_eq_getElem h]
  exact numOf_snoc _ _
theorem num_small12 (l : List Bool) (k : Nat) (h : k ≤ 12) : numOf (l.take k) < 4096 := by
  have := numOf_lt (l.take k)
  have h2 : (2 : Nat) ^ (l.take k).length ≤ 2 ^ 12 := Nat.pow_le_pow_right (by decide) (by rw [List.length_take]; omega)
  omega

set_option maxRecDepth 4000 in
set_option maxHeartbeats 1000000 in
theorem lengthOf_any (A : Option Addr) (c : Nat) (l : List Bool) (w : World) (hl : l.length = 12) (hc : 12 ≤ c) (hA : Bools w.heap.size w A l) :
    Calls Try.prog 56 #[.slice A 12 c] w fun e w' => e = .returned (.int .i64 (numOf l : Nat)) ∧ w = w' := by
  obtain ⟨b, off, rfl, hbl, _⟩ := hA.at_ (k := 0) (by omega)
  have HL := Lib.hid hl; have HA := Lib.hid hA
  clear hl hA
  obtain ⟨R, hR⟩ : ∃ R : Nat, R = numOf l := ⟨_, rfl⟩
  rw [← hR]
  have HR := Lib.hid hR; clear hR
  go_enter Try.func56, Try.ntmps56
  go_wp2
  go_loopw [3, 9] (fun nv i wr => ∃ k : Nat, k ≤ 12 ∧ i = .int .i64 k ∧ nv = .int .i64 (numOf (l.take k) : Nat) ∧ w = wr)
    (fun _ i _ => 12 - (intOf i).toNat)
  case atStart => exact ⟨0, by omega, rfl, rfl, rfl⟩
  case round =>
    obtain ⟨k, hk, rfl, rfl, rfl⟩ := hrel
    by_cases hlt : k < 12
    · have hkl : k < l.length := by rw [HL.out]; exact hlt
      obtain ⟨b', off', he, hbl', hc0⟩ := HA.out.at_ hkl
      injection he with he; injection he with he1 he2; subst he1; subst he2
      have hsn := num_snoc l k hkl
      have hsm := num_small12 l k (by omega)
      have hsm2 := num_small12 l (k + 1) (by omega)
      generalize numOf (l.take k) = nk at *
      have h1 : IntKind.i64.wrap ((nk : Int) * 2) = (nk : Int) * 2 := IntWalk.i64_in _ (by omega)
      have h2 : IntKind.i64.wrap ((nk : Int) * 2 + 1) = (nk : Int) * 2 + 1 := IntWalk.i64_in _ (by omega)
      generalize l[k]?.getD false = x at *
      have HSN := Lib.hid hsn
      clear hsn hsm2 hkl
      cases x
      · go_wp2
        go_roundw
        case rel => exact ⟨k + 1, by omega, by go_num, by rw [HSN.out]; simp; omega, trivial⟩
        case measure => simp [intOf]; omega
      · go_wp2
        go_roundw
        case rel => exact ⟨k + 1, by omega, by go_num, by rw [HSN.out]; simp; omega, trivial⟩
        case measure => simp [intOf]; omega
    · obtain rfl : k = 12 := by omega
      have htk : l.take 12 = l := List.take_of_length_le (by rw [HL.out]; omega)
      have hr := HR.out
      rw [htk, ← hr]
      clear hr htk
      go_wp2
      go_ret
      exact ⟨rfl, rfl⟩
end Go.Proofs.Ytdmedhklcicpeaa
