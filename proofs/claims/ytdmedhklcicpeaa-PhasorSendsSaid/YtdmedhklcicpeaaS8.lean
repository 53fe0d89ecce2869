/-
  The document's two bits of each sample. Conditions: samples that may be, in rows that can be read, up to 65,536.
-/
import Derived.Test.YtdmedhklcicpeaaS7
namespace Go.Proofs.Ytdmedhklcicpeaa
open Go.RowKit

/-- Two bits of one sample, turned back. -/
def bits1 (q : Int) (s : Sp) : List Bool := [decide ((turn1 s (4 - q % 4)).2 < 0), decide ((turn1 s (4 - q % 4)).1 < 0)]
def bitsS (l : List Sp) (q : Int) : List Bool := l.flatMap (bits1 q)
theorem bitsS_length (l : List Sp) (q : Int) : (bitsS l q).length = 2 * l.length := by
  induction l with
  | nil => rfl
  | cons s l ih =>
    have : bitsS (s :: l) q = bits1 q s ++ bitsS l q := rfl
    rw [this, List.length_append, ih, List.length_cons]; simp [bits1]; omega
theorem bits_snoc (l : List Sp) (q : Int) (k : Nat) (h : k < l.length) : bitsS (l.take (k + 1)) q = bitsS (l.take k) q ++ bits1 q (l[k]?.getD (0, 0)) := by
  unfold bitsS
  rw [List.take_add_one, List.getElem?_eq_getElem h, List.flatMap_append]; simp

set_option maxRecDepth 4000 in
set_option maxHeartbeats 2000000 in
theorem rbits_any (A : Option Addr) (n c : Nat) (l : List Sp) (q : Int) (w : World) (hn : n = l.length) (hm : n ≤ 65536) (hall : l.all mayS = true) (hA : Smps w.heap.size w A l) :
    Calls Try.prog 59 #[.slice A n c, .int .i64 q] w fun e w' => ∃ v, e = .returned v ∧ w'.ownsRow w.heap.size 4 1 v (bitsS l q).length ((bitsS l q).map Value.bool) ∧ Below w.heap.size w w' := by
  have HN := Lib.hid hn; have HA := Lib.hid hA; have HALL := Lib.hid hall; clear hn hA hall
  obtain ⟨t, ht⟩ : ∃ t, q.tmod 4 = t := ⟨_, rfl⟩
  have htl : -4 < t ∧ t < 4 := by
    rw [← ht]
    have h1 := Int.tmod_lt_of_pos q (show (0 : Int) < 4 by decide)
    have h2 := Int.lt_tmod_of_pos q (show (0 : Int) < 4 by decide)
    omega
  have hr : (t + 4) % 4 = q % 4 := by
    rw [← ht]
    have := Int.tmod_add_mul_tdiv q 4
    omega
  have hr2 : (t + 4).tmod 4 = q % 4 := by rw [Int.tmod_eq_emod_of_nonneg (by omega)]; exact hr
  have hrl : 0 ≤ q % 4 ∧ q % 4 < 4 := by omega
  obtain ⟨ht0, ht1⟩ := htl
  obtain ⟨i0, hi, hz0, hz1, hz2⟩ := info_parts Try.info4
  have hb1 : ∀ s, bits1 q s = [decide ((turn1 s (4 - q % 4)).2 < 0), decide ((turn1 s (4 - q % 4)).1 < 0)] := fun _ => rfl
  have HB1 := Lib.hid hb1; clear hb1
  have htu := fun (x y : Int) (w1 : World) (h : mayS (x, y) = true) => rturned_any x y (4 - q % 4) w1 h
  have HTU := Lib.hid htu; clear htu
  generalize q % 4 = r at *
  obtain ⟨hr0, hr1⟩ := hrl
  go_enter Try.func59, Try.ntmps59
  go_wp2
  go_loopw [5, 6] (fun bv i wr => ∃ k : Nat, k ≤ n ∧ i = .int .i64 k ∧ wr.ownsRow w.heap.size 4 1 bv (2 * k) ((bitsS (l.take k) q).map Value.bool) ∧ Below w.heap.size w wr)
    (fun _ i _ => n - (intOf i).toNat)
  case atStart => exact ⟨0, by omega, rfl, World.ownsRow_nil _ _ _ _, Below.refl _ _⟩
  case round =>
    obtain ⟨k, hk, rfl, hrow, hBr⟩ := hrel
    have hsr := hBr.size
    by_cases hlt : k < n
    · have hkl : k < l.length := by have := HN.out; omega
      obtain ⟨b, off, rfl, hbl, hc0, hc1⟩ := (HA.out.below hBr).at_ hkl
      have hbs : b < wr.heap.size := Nat.lt_of_lt_of_le hbl hBr.size
      have hsn := bits_snoc l q k hkl
      have hmy := may_at HALL.out hkl
      rw [HB1.out] at hsn
      generalize l[k]?.getD (0, 0) = s at *
      obtain ⟨x, y⟩ := s
      dsimp only at hc0 hc1
      have htn := HTU.out x y wr hmy
      generalize turn1 (x, y) (4 - r) = u at *
      obtain ⟨u1, u2⟩ := u
      dsimp only at htn hsn
      have HTN := Lib.hid htn; have HSN := Lib.hid hsn
      clear htn hsn hmy hkl
      go_wp2_with fail
      refine HTN.out.mono ?_
      rintro e w2 ⟨rfl, hB2⟩
      have al2 : Below w2.heap.size w2 (w2.alloc (.cells #[.int .i64 u1, .int .i64 u2] 38)) := (Below.refl _ _).alloc (Nat.le_refl _) _
      have hrow2 := own_on (own_on hrow hB2) al2
      have hs2 := hB2.size
      have hBr2 := hBr.trans (hB2.mono hBr.size)
      have hBr3 := hBr2.trans (al2.mono hBr2.size)
      go_wp2_with (at_builtin; refine wpList_append_own _ rfl _ _ 71 rfl w.heap.size 4 i0 (.bool false) 1 1 Try.underlying71 hi hz0 hz1 hz2 rfl (by decide) u5 _ _ rfl (hrow2.alloc _) ⟨w2.heap.size + 1, 0, none⟩ 2 2 [.bool (decide (u2 < 0)), .bool (decide (u1 < 0))] rfl rfl (by simpa using cell_two_new (w2.alloc (.cells #[.int .i64 u1, .int .i64 u2] 38)) (.bool (decide (u2 < 0))) (.bool (decide (u1 < 0))) 4) (by simp [Value.oneCell']) (by unfold maxLen; omega) (by omega) (by simp; omega) ?_; intro v' w3 hown' hgrow _)
      go_roundw
      case rel =>
        refine ⟨k + 1, by omega, by go_num, ?_, own_below hrow2 hgrow hBr3 (Nat.le_refl _) hBr3.size⟩
        rw [HSN.out, List.map_append]
        exact hown'
      case measure => simp [intOf]; omega
    · have htk : l.take k = l := List.take_of_length_le (by have := HN.out; omega)
      rw [htk] at hrow
      have hlen : 2 * k = (bitsS l q).length := by rw [bitsS_length]; have := HN.out; omega
      rw [hlen] at hrow
      clear hlen
      have hd0 : decide (k < n) = false := by simpa using hlt
      go_wp2
      go_ret
      exact ⟨_, rfl, hrow, hBr⟩
end Go.Proofs.Ytdmedhklcicpeaa
