/-
  The document itself: Of. No condition but that the truths can be read.
-/
import Derived.Test.YteigekhfamapmaaDoorF1
namespace Go.Proofs.YteigekhfamapmaaDoor
open Go.RowKit

/-- The slice at A holds the truths l, in a block below n₀ (nil or empty where there are none). -/
def Bools (n₀ : Nat) (W : World) (A : Option Addr) (l : List Bool) : Prop :=
  l ≠ [] → ∃ b off, A = some ⟨b, off, none⟩ ∧ b < n₀ ∧ ∀ j, j < l.length → W.cell? ⟨b, off + j, none⟩ = some (.bool (l[j]?.getD false))
theorem Bools.below {n₀ : Nat} {W W' : World} {A : Option Addr} {l : List Bool} (h : Bools n₀ W A l) (hb : Below n₀ W W') : Bools n₀ W' A l := fun hn => by
  obtain ⟨b, off, e, hlt, hc⟩ := h hn
  exact ⟨b, off, e, hlt, fun j hj => (hb.cell (p := ⟨b, off + j, none⟩) hlt).trans (hc j hj)⟩
theorem Bools.mono {n₀ n₁ : Nat} {W : World} {A : Option Addr} {l : List Bool} (h : Bools n₀ W A l) (hn : n₀ ≤ n₁) : Bools n₁ W A l := fun hb => by
  obtain ⟨b, off, e, hlt, hc⟩ := h hb
  exact ⟨b, off, e, Nat.lt_of_lt_of_le hlt hn, hc⟩
theorem Bools.at_ {n₀ : Nat} {W : World} {A : Option Addr} {l : List Bool} (h : Bools n₀ W A l) {k : Nat} (hk : k < l.length) :
    ∃ b off, A = some ⟨b, off, none⟩ ∧ b < n₀ ∧ W.cell? ⟨b, off + k, none⟩ = some (.bool (l[k]?.getD false)) := by
  obtain ⟨b, off, e, hlt, hc⟩ := h (by rintro rfl; simp at hk)
  exact ⟨b, off, e, hlt, hc k hk⟩
theorem bools_of_own {w : World} {base : Nat} {v : Value} {k : Nat} {l : List Bool} (h : w.ownsRow base 4 1 v k (l.map Value.bool)) : ∃ A c, v = .slice A l.length c ∧ Bools w.heap.size w A l := by
  have hk : l.length = k := by have := h.1; simpa using this
  rcases h.2 with ⟨rfl, h0⟩ | ⟨g, cap, cur, rfl, _, hh, _⟩
  · exact ⟨none, 0, by rw [hk, h0], fun hne => absurd (List.eq_nil_of_length_eq_zero (hk.trans h0)) hne⟩
  · refine ⟨some ⟨g, 0, none⟩, cap, by rw [hk], fun _ => ⟨g, 0, rfl, (Array.getElem?_eq_some_iff.1 hh).1, fun j hj => ?_⟩⟩
    have := h.cells (g := g) rfl j (.bool (l[j]?.getD false)) (by simp [hj])
    rwa [addr_add] at this

theorem or_mask (x : UInt8) (k : Nat) (hk : k ≤ 7) (h : x.toNat.testBit k = false) : bits .or .u8 (x.toNat : Int) (2 ^ k) = ((x ^^^ UInt8.ofNat (2 ^ k)).toNat : Int) := by
  have hm : 2 ^ k < 2 ^ 8 := Nat.pow_lt_pow_right (by omega) (by omega)
  have hx := x.toNat_lt
  have e2 : (2 : Int) ^ k = ((2 ^ k : Nat) : Int) := by norm_cast
  rw [e2, u8_or_nat _ _ hx hm, UInt8.toNat_xor, UInt8.toNat_ofNat', Nat.mod_eq_of_lt hm]
  congr 1
  apply Nat.eq_of_testBit_eq
  intro i
  rw [Nat.testBit_or, Nat.testBit_xor, Nat.testBit_two_pow]
  by_cases e : k = i
  · subst e; simp [h]
  · simp [e]

theorem pow256 (j : Nat) (h : j ≤ 7) : (2 : Int) ^ j % 256 = 2 ^ j := by
  have hlt : 2 ^ j < 2 ^ 8 := Nat.pow_lt_pow_right (by omega) (by omega)
  have e : (2 : Int) ^ j = ((2 ^ j : Nat) : Int) := by norm_cast
  rw [e]; generalize 2 ^ j = q at hlt; omega
theorem or_row {w wr : World} {g ob m k : Nat} {l : List Bool} {bs : List UInt8} (h : OutRel w g ob m l k bs wr) :
    Blk (wr.setCell ⟨g, k / 8, none⟩ (.int .u8 (bits .or .u8 ((bs[k / 8]?.getD 0).toNat : Int) (2 ^ (7 - k % 8) % 256)))) g 5 (encB (flipB bs k)) := by
  have hb : bitAt bs k = false := by rw [h.is_.2, paint_get]; simp
  rw [pow256 _ (by omega), or_mask _ _ (by omega) hb]
  have := h.row.set_ (k / 8) (.int .u8 ((bs[k / 8]?.getD 0 ^^^ UInt8.ofNat (2 ^ (7 - k % 8))).toNat : Int))
  rw [encB_set] at this
  exact this

/-- Of, by the document. -/
def ofS (l : List Bool) : Int × List Bool := if 4096 < l.length then (3, []) else (0, l)

set_option maxRecDepth 4000 in
set_option maxHeartbeats 1000000 in
theorem rof_any (A : Option Addr) (n c : Nat) (l : List Bool) (w : World) (hn : n = l.length) (hm : n ≤ maxLen) (hA : Bools w.heap.size w A l) :
    Calls Tryd.prog 48 #[.slice A n c] w (Res w (ofS l)) := by
  have HA := Lib.hid hA; clear hA
  unfold maxLen at hm
  by_cases hlong : 4096 < n
  · have hr : ofS l = (3, []) := by simp [ofS, ← hn, hlong]
    rw [hr]; clear hr
    have HN := Lib.hid hn; clear hn
    go_enter Tryd.func48, Tryd.ntmps48
    go_wp2
    exact bodyPost_ret (v := .tuple #[.agg #[.int .i64 0, .slice none 0 0], .int .i64 3]) (by simp [results, Tryd.results48, go_sem]) rfl (res_err 3 ((Below.refl _ _).alloc (Nat.le_refl _) _))
  · have hr : ofS l = (0, l) := by simp [ofS, ← hn, hlong]
    rw [hr]; clear hr
    have HN := Lib.hid hn; clear hn
    obtain ⟨m, hm2⟩ : ∃ m : Nat, m = (n + 7) / 8 := ⟨_, rfl⟩
    have hm3 : ((n : Int) + 7) / 8 = (m : Int) := by omega
    have HM := Lib.hid hm2; clear hm2
    have hmk := run_make_bytes m (by have := HM.out; omega)
    have hd : decide ((4096 : Int) < (n : Int)) = false := by simp; omega
    go_enter Tryd.func48, Tryd.ntmps48
    go_wp2
    clear hmk hm3 hd
    have hi0 : OutRel w (w.heap.size + 1) (w.heap.size + 1 + 1) m l 0 (List.replicate m 0) (((w.alloc (.cells #[.int .i64 0, .slice none 0 0] 26)).alloc (.cells (encB (List.replicate m 0)) 5)).alloc (.cells #[.int .i64 n, .slice (some ⟨w.heap.size + 1, 0, none⟩) m m] 26)) := by
      have hz := isBits_zeros l.length
      have h2 := HM.out; have h3 := HN.out
      refine ⟨by rw [paint_zero, h2, h3]; exact hz, by simp, ?_, ?_, (((Below.refl _ _).alloc (Nat.le_refl _) _).alloc (by simp) _).alloc (by simp; omega) _, by omega, by omega⟩
      · refine Blk.alloc ?_ _
        simpa using Blk.new (w.alloc (.cells #[.int .i64 0, .slice none 0 0] 26)) 5 (encB (List.replicate m 0))
      · rw [← h3]
        simpa using Blk.new ((w.alloc (.cells #[.int .i64 0, .slice none 0 0] 26)).alloc (.cells (encB (List.replicate m 0)) 5)) 26 #[.int .i64 n, .slice (some ⟨w.heap.size + 1, 0, none⟩) m m]
    have hj0 : Blk (((w.alloc (.cells #[.int .i64 0, .slice none 0 0] 26)).alloc (.cells (encB (List.replicate m 0)) 5)).alloc (.cells #[.int .i64 n, .slice (some ⟨w.heap.size + 1, 0, none⟩) m m] 26)) w.heap.size 26 #[.int .i64 0, .slice none 0 0] := ((Blk.new w 26 _).alloc _).alloc _
    go_loopw [5] (fun i wr => ∃ (k : Nat) (bs' : List UInt8), k ≤ n ∧ i = .int .i64 k ∧ OutRel w (w.heap.size + 1) (w.heap.size + 1 + 1) m l k bs' wr ∧ Blk wr w.heap.size 26 #[.int .i64 0, .slice none 0 0])
      (fun i _ => n - (intOf i).toNat)
    case atStart => exact ⟨0, _, by omega, rfl, hi0, hj0⟩
    case round =>
      obtain ⟨k, bs', hk, rfl, hO, q1⟩ := hrel
      clear hi0 hj0
      obtain ⟨c1, c2, f1, f2⟩ := q1.two
      obtain ⟨c5, c6, f5, f6⟩ := hO.box.two
      rw [← HN.out] at c5
      by_cases hlt : k < n
      · obtain ⟨b, off, rfl, hbl, hcell⟩ := (HA.out.below hO.low).at_ (k := k) (by have := HN.out; omega)
        have hlen : bs'.length = m := hO.len
        have hkm : k / 8 < m := by have := HM.out; omega
        have hrc := hO.row.cell (k / 8)
        rw [encB_get bs' _ (by omega)] at hrc
        have hrf := hO.row.frozen (k / 8)
        have HLEN := Lib.hid hlen; clear hlen
        by_cases hb : l[k]?.getD false = true
        · rw [hb] at hcell
          have HB := Lib.hid hb; clear hb
          have hrow2 := or_row hO
          have HR := Lib.hid hrow2; clear hrow2
          go_wp2
          go_roundw
          case rel =>
            have hg := only_setCell (World.grownBy.refl wr (some (w.heap.size + 1))) (p := ⟨w.heap.size + 1, k / 8, none⟩) (.inl rfl) (.int .u8 (bits .or .u8 ((bs'[k / 8]?.getD 0).toNat : Int) (2 ^ (7 - k % 8) % 256)))
            exact ⟨k + 1, _, by omega, by go_num, hO.turned (by have := HN.out; omega) HB.out HR.out hg, q1.grown hg (by simp)⟩
          case measure => simp [intOf]; omega
        · rw [Bool.not_eq_true] at hb
          rw [hb] at hcell
          have HB := Lib.hid hb; clear hb
          go_wp2
          go_roundw
          case rel => exact ⟨k + 1, _, by omega, by go_num, hO.stayed (by have := HN.out; omega) HB.out, q1⟩
          case measure => simp [intOf]; omega
      · have hlw : w.heap.size < wr.heap.size := q1.lt
        go_wp2
        have hfin := hO.is_
        rw [show k = l.length by have := HN.out; omega, paint_full] at hfin
        have hrow : Blk ((wr.setCell ⟨w.heap.size, 0, none⟩ (.int .i64 n)).setCell ⟨w.heap.size, 1, none⟩ (.slice (some ⟨w.heap.size + 1, 0, none⟩) m m)) (w.heap.size + 1) 5 (encB bs') := (hO.row.far (p := ⟨w.heap.size, 0, none⟩) (by simp) _).far (p := ⟨w.heap.size, 1, none⟩) (by simp) _
        refine bodyPost_ret (v := .tuple #[.agg #[.int .i64 n, .slice (some ⟨w.heap.size + 1, 0, none⟩) m m], .int .i64 0]) (by simp [results, Tryd.results48, go_sem, c1, c2]) rfl
          ⟨some ⟨w.heap.size + 1, 0, none⟩, m, m, bs', by rw [HN.out], hO.len.symm, hfin, by have := HN.out; dsimp only; omega, byt_of_blk hrow, (hO.low.setCell (p := ⟨w.heap.size, 0, none⟩) (by simp) _).setCell (p := ⟨w.heap.size, 1, none⟩) (by simp) _, fun a ha _ => by injection ha with ha; subst ha; exact hO.ge⟩
end Go.Proofs.YteigekhfamapmaaDoor
