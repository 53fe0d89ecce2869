/-
  Contracts of turn and Check of package bits: which bits may be. Conditions: those that each theorem names.
-/
import Derived.Test.YteigekhfamapmaaDoorE1
import Derived.StillTailTactics
import Derived.Deep.RegionWith
import Derived.Deep.RegionHeld3
import Derived.Laws.MakeOwn
import Derived.Laws.Rows
import Derived.Lib.Hide
namespace Go.Proofs.YteigekhfamapmaaDoor
open Go.RowKit

/-! ### Blocks known whole -/
def Blk (w : World) (g : Nat) (t : TypeId) (cs : Array Value) : Prop := w.heap[g]? = some (.cells cs t (0, 0))
section
variable {w w' : World} {g : Nat} {t : TypeId} {cs : Array Value}
theorem Blk.lt (h : Blk w g t cs) : g < w.heap.size := by
  rcases Nat.lt_or_ge g w.heap.size with hlt | hge
  · exact hlt
  · unfold Blk at h; rw [Array.getElem?_eq_none hge] at h; cases h
theorem Blk.cell (h : Blk w g t cs) (i : Nat) : w.cell? ⟨g, i, none⟩ = cs[i]? := cell_of_row w g i cs t (0, 0) h
theorem Blk.frozen (h : Blk w g t cs) (i : Nat) : w.frozen? ⟨g, i, none⟩ = false := by
  unfold Blk at h
  simp [World.frozen?, h]
theorem Blk.new (w : World) (t : TypeId) (cs : Array Value) : Blk (w.alloc (.cells cs t)) w.heap.size t cs := heap_alloc_new w _
theorem Blk.drew (h : Blk w g t cs) : Blk w.drew g t cs := h
theorem Blk.drewN (h : Blk w g t cs) (n : Nat) : Blk (w.drewN n) g t cs := h
theorem Blk.alloc (h : Blk w g t cs) (o : Obj) : Blk (w.alloc o) g t cs := (Below.heap_alloc w o g h.lt).trans h
theorem Blk.set_ (h : Blk w g t cs) (i : Nat) (u : Value) : Blk (w.setCell ⟨g, i, none⟩ u) g t (cs.setIfInBounds i u) := by
  unfold Blk at h ⊢
  simp [World.setCell, Array.getElem?_modify, h]
theorem Blk.far (h : Blk w g t cs) {p : Addr} (hp : g ≠ p.block) (u : Value) : Blk (w.setCell p u) g t cs := (Below.heap_setCell w p u g hp).trans h
theorem Blk.below {B : Nat} (h : Blk w g t cs) (hb : Below B w w') (hg : g < B) : Blk w' g t cs := (hb.block g hg).trans h
theorem Blk.grown {row : Option Nat} (h : Blk w g t cs) (hb : w.grownBy w' row) (hg : some g ≠ row) : Blk w' g t cs := (hb.block g h.lt hg).trans h
end
theorem only_drewN {a w : World} {row : Option Nat} (h : a.grownBy w row) (n : Nat) : a.grownBy (w.drewN n) row := ⟨h.os, h.tape, h.output, h.size, h.block⟩
theorem only_drew {a w : World} {row : Option Nat} (h : a.grownBy w row) : a.grownBy w.drew row := ⟨h.os, h.tape, h.output, h.size, h.block⟩
theorem only_alloc {a w : World} {row : Option Nat} (h : a.grownBy w row) (o : Obj) : a.grownBy (w.alloc o) row :=
  ⟨h.os, h.tape, h.output, Nat.le_trans h.size (by simp), fun i hi hne => (Below.heap_alloc w o i (Nat.lt_of_lt_of_le hi h.size)).trans (h.block i hi hne)⟩
theorem only_setCell {a w : World} {g : Nat} (h : a.grownBy w (some g)) {p : Addr} (hp : p.block = g ∨ a.heap.size ≤ p.block) (u : Value) : a.grownBy (w.setCell p u) (some g) :=
  ⟨h.os, h.tape, h.output, by simpa [World.setCell] using h.size, fun i hi hne => (Below.heap_setCell w p u i (by
    rintro rfl
    rcases hp with hp | hp
    · exact hne (by rw [hp])
    · omega)).trans (h.block i hi hne)⟩
theorem only_of_below {a w : World} (h : Below a.heap.size a w) (row : Option Nat) : a.grownBy w row := ⟨h.os, h.tape, h.output, h.size, fun i hi _ => h.block i hi⟩
theorem only_trans {a b c : World} {row : Option Nat} (h : a.grownBy b row) (k : b.grownBy c row) : a.grownBy c row :=
  ⟨k.os.trans h.os, k.tape.trans h.tape, k.output.trans h.output, Nat.le_trans h.size k.size, fun i hi hne => (k.block i (Nat.lt_of_lt_of_le hi h.size) hne).trans (h.block i hi hne)⟩

/-- Bytes as the cells of a block. -/
def encB (bs : List UInt8) : Array Value := (bs.map fun x => Value.int .u8 (x.toNat : Int)).toArray
theorem encB_get (bs : List UInt8) (i : Nat) (h : i < bs.length) : (encB bs)[i]? = some (.int .u8 (bs[i]?.getD 0).toNat) := by
  simp [encB, h]
theorem encB_set (bs : List UInt8) (i : Nat) (x : UInt8) : (encB bs).setIfInBounds i (.int .u8 x.toNat) = encB (bs.set i x) := by
  simp [encB, List.map_set]
theorem byt_of_blk {w : World} {g : Nat} {bs : List UInt8} (h : Blk w g 5 (encB bs)) : Byt w.heap.size w (some ⟨g, 0, none⟩) bs := fun _ =>
  ⟨g, 0, rfl, h.lt, fun j hj => by rw [Nat.zero_add, h.cell j, encB_get bs j hj]⟩
/-- One byte of those that a slice holds. -/
theorem Byt.at_ {n₀ : Nat} {W : World} {A : Option Addr} {bs : List UInt8} (h : Byt n₀ W A bs) {k : Nat} (hk : k < bs.length) :
    ∃ b off, A = some ⟨b, off, none⟩ ∧ b < n₀ ∧ W.cell? ⟨b, off + k, none⟩ = some (.int .u8 (bs[k]?.getD 0).toNat) := by
  obtain ⟨b, off, e, hlt, hc⟩ := h (by rintro rfl; simp at hk)
  exact ⟨b, off, e, hlt, hc k hk⟩

theorem isOne_any (N i : Int) (A : Option Addr) (n c : Nat) (bs : List UInt8) (w : World) (h0 : 0 ≤ i) (h1 : i ≤ 8192) (hn : n = bs.length) (hi : i < 8 * (bs.length : Int)) (hA : Byt w.heap.size w A bs) :
    Calls Tryd.prog 50 #[.agg #[.int .i64 N, .slice A n c], .int .i64 i] w fun e w' => e = .returned (.bool (bitAt bs i.toNat)) ∧ Below w.heap.size w w' := by
  obtain ⟨b, off, rfl, hlt, hc⟩ := hA.at_ (k := (i / 8).toNat) (by omega)
  have e : (i / 8).toNat = i.toNat / 8 := by omega
  unfold bitAt
  rw [← e]
  exact isOne_at N i b off n c _ w h0 h1 (by omega) hc hlt

set_option maxRecDepth 4000 in
set_option maxHeartbeats 400000 in
theorem turn_at (N i : Int) (g n c : Nat) (x : UInt8) (w : World) (h0 : 0 ≤ i) (h1 : i ≤ 8192) (hi : i / 8 < n) (hc : w.cell? ⟨g, (i / 8).toNat, none⟩ = some (.int .u8 x.toNat)) (hf : w.frozen? ⟨g, (i / 8).toNat, none⟩ = false) (hb : g < w.heap.size) :
    Calls Tryd.prog 46 #[.agg #[.int .i64 N, .slice (some ⟨g, 0, none⟩) n c], .int .i64 i] w fun e w' => e = .returned (.tuple #[]) ∧
      w' = ((w.setCell ⟨g, (i / 8).toNat, none⟩ (.int .u8 (bits .xor .u8 x.toNat (2 ^ (7 - i.toNat % 8))))).alloc (.cells #[.int .i64 N, .slice (some ⟨g, 0, none⟩) n c] 26)).drew := by
  have hx := x.toNat_lt
  have hi0 : 0 ≤ i / 8 := by omega
  have hq : IntKind.i64.wrap (i.tdiv 8) = i / 8 := by
    rw [Int.tdiv_eq_ediv_of_nonneg h0, IntWalk.i64_in _ (by omega)]
  go_enter Tryd.func46, Tryd.ntmps46
  go_wp2
  refine wp_region_still_tail 10 (by kernel_rfl) (by kernel_rfl) ?_
  simp only [List.take_succ_cons, List.take_zero, List.drop_succ_cons, List.drop_zero]
  change wpStill _ _ ((w.alloc _).drew) (fun a' => wpList _ _ _ _ a' ((w.alloc _).drew)) _ _
  have hc' : ((w.alloc (.cells #[.int .i64 N, .slice (some ⟨g, 0, none⟩) n c] 26)).drew).cell? ⟨g, (i / 8).toNat, none⟩ = some (.int .u8 x.toNat) := by
    rw [← hc]; exact World.cell?_alloc_lt w _ _ hb
  repeat still_step
  still_call ((mask_any _ _ h0 h1).mono fun _ _ ⟨a, b⟩ => ⟨a, b.symm⟩)
  repeat still_step
  refine wpStill_nil ?_
  go_wp2
  go_end0
  exact ⟨rfl, rfl⟩

theorem turn_any (N i : Int) (g n c : Nat) (bs : List UInt8) (w : World) (h0 : 0 ≤ i) (h1 : i ≤ 8192) (hn : n = bs.length) (hi : i < 8 * (bs.length : Int)) (hb : Blk w g 5 (encB bs)) :
    Calls Tryd.prog 46 #[.agg #[.int .i64 N, .slice (some ⟨g, 0, none⟩) n c], .int .i64 i] w fun e w' => e = .returned (.tuple #[]) ∧
      Blk w' g 5 (encB (flipB bs i.toNat)) ∧ w.grownBy w' (some g) := by
  have hk : (i / 8).toNat < bs.length := by omega
  have e : (i / 8).toNat = i.toNat / 8 := by omega
  refine (turn_at N i g n c (bs[(i / 8).toNat]?.getD 0) w h0 h1 (by omega) (by rw [hb.cell, encB_get bs _ hk]) (hb.frozen _) hb.lt).mono ?_
  rintro en w' ⟨rfl, rfl⟩
  refine ⟨rfl, ?_, only_drew (only_alloc (only_setCell (World.grownBy.refl w (some g)) (.inl rfl) _) _)⟩
  refine Blk.drew (Blk.alloc ?_ _)
  rw [xor_mask _ _ (by omega)]
  have := hb.set_ (i / 8).toNat (.int .u8 ((bs[(i / 8).toNat]?.getD 0 ^^^ UInt8.ofNat (2 ^ (7 - i.toNat % 8))).toNat : Int))
  rw [encB_set] at this
  unfold flipB
  rw [← e]
  exact this

/-- What Check says of bits. -/
def chk (N : Int) (bs : List UInt8) : Int := if goodB N bs = true then 0 else 10
theorem chk_yes {N : Int} {bs : List UInt8} (h : goodB N bs = true) : chk N bs = 0 := by simp [chk, h]
theorem chk_no {N : Int} {bs : List UInt8} (h : goodB N bs = false) : chk N bs = 10 := by simp [chk, h]

set_option maxRecDepth 4000 in
set_option maxHeartbeats 1000000 in
theorem check_any (N : Int) (A : Option Addr) (n c : Nat) (bs : List UInt8) (w : World) (hn : n = bs.length) (hm : n ≤ maxLen) (hA : Byt w.heap.size w A bs) :
    Calls Tryd.prog 33 #[.agg #[.int .i64 N, .slice A n c]] w fun e w' => e = .returned (.int .i64 (chk N bs)) ∧ Below w.heap.size w w' := by
  unfold maxLen at hm
  by_cases hN0 : N < 0
  · have hr := chk_no (N := N) (bs := bs) (by rw [Bool.eq_false_iff, Ne, good_iff]; omega)
    have hd : decide (N < 0) = true := by simpa using hN0
    rw [hr]; clear hr
    have HH := Lib.hid hn; clear hn
    go_enter Tryd.func33, Tryd.ntmps33
    go_wp2
    go_quiet (fail)
    go_wp2
    go_ret
    exact ⟨rfl, below_drewN ((Below.refl _ _).alloc (Nat.le_refl _) _) _⟩
  have hd0 : decide (N < 0) = false := by simpa using hN0
  by_cases hN1 : 4096 < N
  · have hr := chk_no (N := N) (bs := bs) (by rw [Bool.eq_false_iff, Ne, good_iff]; omega)
    have hd : decide (4096 < N) = true := by simpa using hN1
    rw [hr]; clear hr
    have HH := Lib.hid hn; clear hn
    go_enter Tryd.func33, Tryd.ntmps33
    go_wp2
    go_quiet (fail)
    go_wp2
    go_ret
    exact ⟨rfl, below_drewN ((Below.refl _ _).alloc (Nat.le_refl _) _) _⟩
  have hd1 : decide (4096 < N) = false := by simpa using hN1
  have hN0' : 0 ≤ N := by omega
  have hN1' : N ≤ 4096 := by omega
  clear hN0 hN1
  by_cases hl : (n : Int) = (N + 7) / 8
  · have hlb : ((n : Int) != (N + 7) / 8) = false := by simpa using hl
    have HL := Lib.hid hl
    have hl8 : (n : Int) * 8 ≤ N + 7 := by omega
    have hl9 : N ≤ (n : Int) * 8 := by omega
    clear hl
    have HH := Lib.hid hn; clear hn
    go_enter Tryd.func33, Tryd.ntmps33
    go_wp2
    go_quiet ((go_at_call 49; exact Calls.quiet_of_same ((byteCount_any _ _ hN0' (by omega)).mono fun _ _ ⟨a, b⟩ => ⟨a, b.symm⟩)))
    go_wp2
    go_loopw [3] (fun i wr => ∃ k : Nat, N ≤ k ∧ (k : Int) ≤ n * 8 ∧ i = .int .i64 k ∧ (∀ j : Nat, N ≤ j → j < k → bitAt bs j = false) ∧ Below w.heap.size w wr ∧ wr.cell? ⟨w.heap.size, 0, none⟩ = some (.int .i64 N) ∧ wr.cell? ⟨w.heap.size, 1, none⟩ = some (.slice A n c) ∧ w.heap.size < wr.heap.size)
      (fun i _ => n * 8 - (intOf i).toNat)
    case atStart =>
      exact ⟨N.toNat, by omega, by omega, by rw [Int.toNat_of_nonneg hN0'], fun j h1 h2 => by omega, below_drewN ((Below.refl _ _).alloc (Nat.le_refl _) _) _, by simp, by simp, by simp⟩
    case round =>
      obtain ⟨k, hk0, hk1, rfl, hall, hB, hc0, hc1, hsz⟩ := hrel
      have HALL := Lib.hid hall; clear hall
      by_cases hlt : (k : Int) < n * 8
      · have hcw : ∀ w', Below wr.heap.size wr w' → Below w.heap.size w w' := fun w' h => hB.trans (h.mono hB.size)
        have hone := isOne_any N k A n c bs wr (by omega) (by omega) HH.out (by have := HH.out; omega) ((hA.below hB).mono hB.size)
        rw [Int.toNat_natCast] at hone
        by_cases hbit : bitAt bs k = true
        · rw [hbit] at hone
          have HO := Lib.hid hone; clear hone
          have hr := chk_no (N := N) (bs := bs) (by
            rw [Bool.eq_false_iff, Ne, good_iff]
            rintro ⟨_, _, _, h⟩
            rw [h k hk0] at hbit
            cases hbit)
          have HR := Lib.hid hr; clear hr hbit
          go_wp2_with (go_at_call 50; refine HO.out.mono ?_; rintro e w' ⟨rfl, hb'⟩)
          go_ret
          exact ⟨by rw [HR.out]; rfl, hcw _ hb'⟩
        · rw [Bool.not_eq_true] at hbit
          rw [hbit] at hone
          have HO := Lib.hid hone; clear hone
          have HBIT := Lib.hid hbit; clear hbit
          go_wp2_with (go_at_call 50; refine HO.out.mono ?_; rintro e w' ⟨rfl, hb'⟩; have hc0' := (hb'.cell (p := ⟨w.heap.size, 0, none⟩) hsz).trans hc0; have hc1' := (hb'.cell (p := ⟨w.heap.size, 1, none⟩) hsz).trans hc1)
          go_roundw
          case rel =>
            refine ⟨k + 1, by omega, by omega, by go_num, fun j h1 h2 => ?_, hcw _ hb', hc0', hc1', Nat.lt_of_lt_of_le hsz hb'.size⟩
            rcases Nat.lt_or_ge j k with h | h
            · exact HALL.out j h1 h
            · obtain rfl : j = k := by omega
              exact HBIT.out
          case measure => simp [intOf]; omega
      · have hr := chk_yes (N := N) (bs := bs) (by
          rw [good_iff]
          refine ⟨hN0', hN1', by rw [← HH.out]; exact HL.out, fun j hj => ?_⟩
          rcases Nat.lt_or_ge j k with h | h
          · exact HALL.out j hj h
          · exact bitAt_beyond bs j (by have := HH.out; omega))
        have HR := Lib.hid hr; clear hr
        go_wp2
        go_ret
        exact ⟨by rw [HR.out]; rfl, hB⟩
  · have hlb : ((n : Int) != (N + 7) / 8) = true := by simpa using hl
    have hr := chk_no (N := N) (bs := bs) (by rw [Bool.eq_false_iff, Ne, good_iff]; omega)
    rw [hr]; clear hr hl
    have HH := Lib.hid hn; clear hn
    go_enter Tryd.func33, Tryd.ntmps33
    go_wp2
    go_quiet ((go_at_call 49; exact Calls.quiet_of_same ((byteCount_any _ _ hN0' (by omega)).mono fun _ _ ⟨a, b⟩ => ⟨a, b.symm⟩)))
    go_wp2
    go_ret
    exact ⟨rfl, below_drewN ((Below.refl _ _).alloc (Nat.le_refl _) _) _⟩
end Go.Proofs.YteigekhfamapmaaDoor
