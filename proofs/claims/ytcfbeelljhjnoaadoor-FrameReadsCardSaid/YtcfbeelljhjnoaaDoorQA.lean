/-
  Contracts of turn and Check of package bits: which bits may be. Conditions: those that each theorem names.
  Contracts of zeros and grown of package bits: bytes in memory of the call itself. Conditions: those that each theorem names.
  Put of package bits answers as the document says, for all bits, numbers and widths. No condition but that the bytes can be read.
  Get of package bits answers as the document says, for all bits, places and widths. No condition but that the bytes can be read.
-/
import Derived.Test.YtcfbeelljhjnoaaDoorE1
import Derived.StillTailTactics
import Derived.Deep.RegionWith
import Derived.Deep.RegionHeld3
import Derived.Laws.MakeOwn
import Derived.Laws.Rows
import Derived.Lib.Hide
import Derived.Laws.CopyOwn
namespace Go.Proofs.YtcfbeelljhjnoaaDoor
open Go.RowKit

/-! ### Blocks known whole -/
def Blk (w : World) (g : Nat) (t : TypeId) (cs : Array Value) : Prop := w.heap[g]? = some (.cells cs t (0, 0))
section
variable {w w' : World} {g : Nat} {t : TypeId} {cs : Array Value}
theorem Blk.lt (h : Blk w g t cs) : g < w.heap.size := by
  rcases Nat.lt_or_ge g w.heap.size with hlt | hge
  · exact hlt
  · unfold Blk at h; rw [Array.getElem?_eq_none hge] at h; cases h
theorem Blk.cell (h : Blk w g t cs) (i : Nat) : w.cell? ⟨g, i, none⟩ = cs[i]? := cell_of_row w g i cs t (0, 0) h
theorem Blk.frozen (h : Blk w g t cs) (i : Nat) : w.frozen? ⟨g, i, none⟩ = false := by
  unfold Blk at h
  simp [World.frozen?, h]
theorem Blk.new (w : World) (t : TypeId) (cs : Array Value) : Blk (w.alloc (.cells cs t)) w.heap.size t cs := heap_alloc_new w _
theorem Blk.drew (h : Blk w g t cs) : Blk w.drew g t cs := h
theorem Blk.drewN (h : Blk w g t cs) (n : Nat) : Blk (w.drewN n) g t cs := h
theorem Blk.alloc (h : Blk w g t cs) (o : Obj) : Blk (w.alloc o) g t cs := (Below.heap_alloc w o g h.lt).trans h
theorem Blk.set_ (h : Blk w g t cs) (i : Nat) (u : Value) : Blk (w.setCell ⟨g, i, none⟩ u) g t (cs.setIfInBounds i u) := by
  unfold Blk at h ⊢
  simp [World.setCell, Array.getElem?_modify, h]
theorem Blk.far (h : Blk w g t cs) {p : Addr} (hp : g ≠ p.block) (u : Value) : Blk (w.setCell p u) g t cs := (Below.heap_setCell w p u g hp).trans h
theorem Blk.below {B : Nat} (h : Blk w g t cs) (hb : Below B w w') (hg : g < B) : Blk w' g t cs := (hb.block g hg).trans h
theorem Blk.grown {row : Option Nat} (h : Blk w g t cs) (hb : w.grownBy w' row) (hg : some g ≠ row) : Blk w' g t cs := (hb.block g h.lt hg).trans h
end
theorem only_drewN {a w : World} {row : Option Nat} (h : a.grownBy w row) (n : Nat) : a.grownBy (w.drewN n) row := ⟨h.os, h.tape, h.output, h.size, h.block⟩
theorem only_drew {a w : World} {row : Option Nat} (h : a.grownBy w row) : a.grownBy w.drew row := ⟨h.os, h.tape, h.output, h.size, h.block⟩
theorem only_alloc {a w : World} {row : Option Nat} (h : a.grownBy w row) (o : Obj) : a.grownBy (w.alloc o) row :=
  ⟨h.os, h.tape, h.output, Nat.le_trans h.size (by simp), fun i hi hne => (Below.heap_alloc w o i (Nat.lt_of_lt_of_le hi h.size)).trans (h.block i hi hne)⟩
theorem only_setCell {a w : World} {g : Nat} (h : a.grownBy w (some g)) {p : Addr} (hp : p.block = g ∨ a.heap.size ≤ p.block) (u : Value) : a.grownBy (w.setCell p u) (some g) :=
  ⟨h.os, h.tape, h.output, by simpa [World.setCell] using h.size, fun i hi hne => (Below.heap_setCell w p u i (by
    rintro rfl
    rcases hp with hp | hp
    · exact hne (by rw [hp])
    · omega)).trans (h.block i hi hne)⟩
theorem only_of_below {a w : World} (h : Below a.heap.size a w) (row : Option Nat) : a.grownBy w row := ⟨h.os, h.tape, h.output, h.size, fun i hi _ => h.block i hi⟩
theorem only_trans {a b c : World} {row : Option Nat} (h : a.grownBy b row) (k : b.grownBy c row) : a.grownBy c row :=
  ⟨k.os.trans h.os, k.tape.trans h.tape, k.output.trans h.output, Nat.le_trans h.size k.size, fun i hi hne => (k.block i (Nat.lt_of_lt_of_le hi h.size) hne).trans (h.block i hi hne)⟩

/-- Bytes as the cells of a block. -/
def encB (bs : List UInt8) : Array Value := (bs.map fun x => Value.int .u8 (x.toNat : Int)).toArray
theorem encB_get (bs : List UInt8) (i : Nat) (h : i < bs.length) : (encB bs)[i]? = some (.int .u8 (bs[i]?.getD 0).toNat) := by
  simp [encB, h]
theorem encB_set (bs : List UInt8) (i : Nat) (x : UInt8) : (encB bs).setIfInBounds i (.int .u8 x.toNat) = encB (bs.set i x) := by
  simp [encB, List.map_set]
theorem byt_of_blk {w : World} {g : Nat} {bs : List UInt8} (h : Blk w g 5 (encB bs)) : Byt w.heap.size w (some ⟨g, 0, none⟩) bs := fun _ =>
  ⟨g, 0, rfl, h.lt, fun j hj => by rw [Nat.zero_add, h.cell j, encB_get bs j hj]⟩
/-- One byte of those that a slice holds. -/
theorem Byt.at_ {n₀ : Nat} {W : World} {A : Option Addr} {bs : List UInt8} (h : Byt n₀ W A bs) {k : Nat} (hk : k < bs.length) :
    ∃ b off, A = some ⟨b, off, none⟩ ∧ b < n₀ ∧ W.cell? ⟨b, off + k, none⟩ = some (.int .u8 (bs[k]?.getD 0).toNat) := by
  obtain ⟨b, off, e, hlt, hc⟩ := h (by rintro rfl; simp at hk)
  exact ⟨b, off, e, hlt, hc k hk⟩

theorem isOne_any (N i : Int) (A : Option Addr) (n c : Nat) (bs : List UInt8) (w : World) (h0 : 0 ≤ i) (h1 : i ≤ 8192) (hn : n = bs.length) (hi : i < 8 * (bs.length : Int)) (hA : Byt w.heap.size w A bs) :
    Calls Tryd.prog 72 #[.agg #[.int .i64 N, .slice A n c], .int .i64 i] w fun e w' => e = .returned (.bool (bitAt bs i.toNat)) ∧ Below w.heap.size w w' := by
  obtain ⟨b, off, rfl, hlt, hc⟩ := hA.at_ (k := (i / 8).toNat) (by omega)
  have e : (i / 8).toNat = i.toNat / 8 := by omega
  unfold bitAt
  rw [← e]
  exact isOne_at N i b off n c _ w h0 h1 (by omega) hc hlt

set_option maxRecDepth 4000 in
set_option maxHeartbeats 400000 in
theorem turn_at (N i : Int) (g n c : Nat) (x : UInt8) (w : World) (h0 : 0 ≤ i) (h1 : i ≤ 8192) (hi : i / 8 < n) (hc : w.cell? ⟨g, (i / 8).toNat, none⟩ = some (.int .u8 x.toNat)) (hf : w.frozen? ⟨g, (i / 8).toNat, none⟩ = false) (hb : g < w.heap.size) :
    Calls Tryd.prog 63 #[.agg #[.int .i64 N, .slice (some ⟨g, 0, none⟩) n c], .int .i64 i] w fun e w' => e = .returned (.tuple #[]) ∧
      w' = ((w.setCell ⟨g, (i / 8).toNat, none⟩ (.int .u8 (bits .xor .u8 x.toNat (2 ^ (7 - i.toNat % 8))))).alloc (.cells #[.int .i64 N, .slice (some ⟨g, 0, none⟩) n c] 28)).drew := by
  have hx := x.toNat_lt
  have hi0 : 0 ≤ i / 8 := by omega
  have hq : IntKind.i64.wrap (i.tdiv 8) = i / 8 := by
    rw [Int.tdiv_eq_ediv_of_nonneg h0, IntWalk.i64_in _ (by omega)]
  go_enter Tryd.func63, Tryd.ntmps63
  go_wp2
  refine wp_region_still_tail 10 (by kernel_rfl) (by kernel_rfl) ?_
  simp only [List.take_succ_cons, List.take_zero, List.drop_succ_cons, List.drop_zero]
  change wpStill _ _ ((w.alloc _).drew) (fun a' => wpList _ _ _ _ a' ((w.alloc _).drew)) _ _
  have hc' : ((w.alloc (.cells #[.int .i64 N, .slice (some ⟨g, 0, none⟩) n c] 28)).drew).cell? ⟨g, (i / 8).toNat, none⟩ = some (.int .u8 x.toNat) := by
    rw [← hc]; exact World.cell?_alloc_lt w _ _ hb
  repeat still_step
  still_call ((mask_any _ _ h0 h1).mono fun _ _ ⟨a, b⟩ => ⟨a, b.symm⟩)
  repeat still_step
  refine wpStill_nil ?_
  go_wp2
  go_end0
  exact ⟨rfl, rfl⟩

theorem turn_any (N i : Int) (g n c : Nat) (bs : List UInt8) (w : World) (h0 : 0 ≤ i) (h1 : i ≤ 8192) (hn : n = bs.length) (hi : i < 8 * (bs.length : Int)) (hb : Blk w g 5 (encB bs)) :
    Calls Tryd.prog 63 #[.agg #[.int .i64 N, .slice (some ⟨g, 0, none⟩) n c], .int .i64 i] w fun e w' => e = .returned (.tuple #[]) ∧
      Blk w' g 5 (encB (flipB bs i.toNat)) ∧ w.grownBy w' (some g) := by
  have hk : (i / 8).toNat < bs.length := by omega
  have e : (i / 8).toNat = i.toNat / 8 := by omega
  refine (turn_at N i g n c (bs[(i / 8).toNat]?.getD 0) w h0 h1 (by omega) (by rw [hb.cell, encB_get bs _ hk]) (hb.frozen _) hb.lt).mono ?_
  rintro en w' ⟨rfl, rfl⟩
  refine ⟨rfl, ?_, only_drew (only_alloc (only_setCell (World.grownBy.refl w (some g)) (.inl rfl) _) _)⟩
  refine Blk.drew (Blk.alloc ?_ _)
  rw [xor_mask _ _ (by omega)]
  have := hb.set_ (i / 8).toNat (.int .u8 ((bs[(i / 8).toNat]?.getD 0 ^^^ UInt8.ofNat (2 ^ (7 - i.toNat % 8))).toNat : Int))
  rw [encB_set] at this
  unfold flipB
  rw [← e]
  exact this

/-- What Check says of bits. -/
def chk (N : Int) (bs : List UInt8) : Int := if goodB N bs = true then 0 else 10
theorem chk_yes {N : Int} {bs : List UInt8} (h : goodB N bs = true) : chk N bs = 0 := by simp [chk, h]
theorem chk_no {N : Int} {bs : List UInt8} (h : goodB N bs = false) : chk N bs = 10 := by simp [chk, h]

set_option maxRecDepth 4000 in
set_option maxHeartbeats 1000000 in
theorem check_any (N : Int) (A : Option Addr) (n c : Nat) (bs : List UInt8) (w : World) (hn : n = bs.length) (hm : n ≤ maxLen) (hA : Byt w.heap.size w A bs) :
    Calls Tryd.prog 43 #[.agg #[.int .i64 N, .slice A n c]] w fun e w' => e = .returned (.int .i64 (chk N bs)) ∧ Below w.heap.size w w' := by
  unfold maxLen at hm
  by_cases hN0 : N < 0
  · have hr := chk_no (N := N) (bs := bs) (by rw [Bool.eq_false_iff, Ne, good_iff]; omega)
    have hd : decide (N < 0) = true := by simpa using hN0
    rw [hr]; clear hr
    have HH := Lib.hid hn; clear hn
    go_enter Tryd.func43, Tryd.ntmps43
    go_wp2
    go_quiet (fail)
    go_wp2
    go_ret
    exact ⟨rfl, below_drewN ((Below.refl _ _).alloc (Nat.le_refl _) _) _⟩
  have hd0 : decide (N < 0) = false := by simpa using hN0
  by_cases hN1 : 4096 < N
  · have hr := chk_no (N := N) (bs := bs) (by rw [Bool.eq_false_iff, Ne, good_iff]; omega)
    have hd : decide (4096 < N) = true := by simpa using hN1
    rw [hr]; clear hr
    have HH := Lib.hid hn; clear hn
    go_enter Tryd.func43, Tryd.ntmps43
    go_wp2
    go_quiet (fail)
    go_wp2
    go_ret
    exact ⟨rfl, below_drewN ((Below.refl _ _).alloc (Nat.le_refl _) _) _⟩
  have hd1 : decide (4096 < N) = false := by simpa using hN1
  have hN0' : 0 ≤ N := by omega
  have hN1' : N ≤ 4096 := by omega
  clear hN0 hN1
  by_cases hl : (n : Int) = (N + 7) / 8
  · have hlb : ((n : Int) != (N + 7) / 8) = false := by simpa using hl
    have HL := Lib.hid hl
    have hl8 : (n : Int) * 8 ≤ N + 7 := by omega
    have hl9 : N ≤ (n : Int) * 8 := by omega
    clear hl
    have HH := Lib.hid hn; clear hn
    go_enter Tryd.func43, Tryd.ntmps43
    go_wp2
    go_quiet ((go_at_call 71; exact Calls.quiet_of_same ((byteCount_any _ _ hN0' (by omega)).mono fun _ _ ⟨a, b⟩ => ⟨a, b.symm⟩)))
    go_wp2
    go_loopw [3] (fun i wr => ∃ k : Nat, N ≤ k ∧ (k : Int) ≤ n * 8 ∧ i = .int .i64 k ∧ (∀ j : Nat, N ≤ j → j < k → bitAt bs j = false) ∧ Below w.heap.size w wr ∧ wr.cell? ⟨w.heap.size, 0, none⟩ = some (.int .i64 N) ∧ wr.cell? ⟨w.heap.size, 1, none⟩ = some (.slice A n c) ∧ w.heap.size < wr.heap.size)
      (fun i _ => n * 8 - (intOf i).toNat)
    case atStart =>
      exact ⟨N.toNat, by omega, by omega, by rw [Int.toNat_of_nonneg hN0'], fun j h1 h2 => by omega, below_drewN ((Below.refl _ _).alloc (Nat.le_refl _) _) _, by simp, by simp, by simp⟩
    case round =>
      obtain ⟨k, hk0, hk1, rfl, hall, hB, hc0, hc1, hsz⟩ := hrel
      have HALL := Lib.hid hall; clear hall
      by_cases hlt : (k : Int) < n * 8
      · have hcw : ∀ w', Below wr.heap.size wr w' → Below w.heap.size w w' := fun w' h => hB.trans (h.mono hB.size)
        have hone := isOne_any N k A n c bs wr (by omega) (by omega) HH.out (by have := HH.out; omega) ((hA.below hB).mono hB.size)
        rw [Int.toNat_natCast] at hone
        by_cases hbit : bitAt bs k = true
        · rw [hbit] at hone
          have HO := Lib.hid hone; clear hone
          have hr := chk_no (N := N) (bs := bs) (by
            rw [Bool.eq_false_iff, Ne, good_iff]
            rintro ⟨_, _, _, h⟩
            rw [h k hk0] at hbit
            cases hbit)
          have HR := Lib.hid hr; clear hr hbit
          go_wp2_with (go_at_call 72; refine HO.out.mono ?_; rintro e w' ⟨rfl, hb'⟩)
          go_ret
          exact ⟨by rw [HR.out]; rfl, hcw _ hb'⟩
        · rw [Bool.not_eq_true] at hbit
          rw [hbit] at hone
          have HO := Lib.hid hone; clear hone
          have HBIT := Lib.hid hbit; clear hbit
          go_wp2_with (go_at_call 72; refine HO.out.mono ?_; rintro e w' ⟨rfl, hb'⟩; have hc0' := (hb'.cell (p := ⟨w.heap.size, 0, none⟩) hsz).trans hc0; have hc1' := (hb'.cell (p := ⟨w.heap.size, 1, none⟩) hsz).trans hc1)
          go_roundw
          case rel =>
            refine ⟨k + 1, by omega, by omega, by go_num, fun j h1 h2 => ?_, hcw _ hb', hc0', hc1', Nat.lt_of_lt_of_le hsz hb'.size⟩
            rcases Nat.lt_or_ge j k with h | h
            · exact HALL.out j h1 h
            · obtain rfl : j = k := by omega
              exact HBIT.out
          case measure => simp [intOf]; omega
      · have hr := chk_yes (N := N) (bs := bs) (by
          rw [good_iff]
          refine ⟨hN0', hN1', by rw [← HH.out]; exact HL.out, fun j hj => ?_⟩
          rcases Nat.lt_or_ge j k with h | h
          · exact HALL.out j hj h
          · exact bitAt_beyond bs j (by have := HH.out; omega))
        have HR := Lib.hid hr; clear hr
        go_wp2
        go_ret
        exact ⟨by rw [HR.out]; rfl, hB⟩
  · have hlb : ((n : Int) != (N + 7) / 8) = true := by simpa using hl
    have hr := chk_no (N := N) (bs := bs) (by rw [Bool.eq_false_iff, Ne, good_iff]; omega)
    rw [hr]; clear hr hl
    have HH := Lib.hid hn; clear hn
    go_enter Tryd.func43, Tryd.ntmps43
    go_wp2
    go_quiet ((go_at_call 71; exact Calls.quiet_of_same ((byteCount_any _ _ hN0' (by omega)).mono fun _ _ ⟨a, b⟩ => ⟨a, b.symm⟩)))
    go_wp2
    go_ret
    exact ⟨rfl, below_drewN ((Below.refl _ _).alloc (Nat.le_refl _) _) _⟩
end Go.Proofs.YtcfbeelljhjnoaaDoor

namespace Go.Proofs.YtcfbeelljhjnoaaDoor
open Go.RowKit

theorem Tryd.info5 : (Tryd.prog.info? 5).map (fun i => (i.zero, i.size, i.bytes)) = some (some (.int .u8 0), 1, 1) := by kernel_rfl
theorem run_make_rowN {P : Program} (t e : TypeId) (i : TypeInfo) (z : Value) (ht : P.underlying t = some (.slice e)) (hi : P.info? e = some i) (hz : i.zero = some z)
    (kl kc : IntKind) (n c : Nat) (hnc : n ≤ c) (hbytes : i.bytes * c ≤ 281474976710656) (h63 : c ≤ 9223372036854775807) (w : World) :
    (Instr.makeSlice t (.int kl (n : Int)) (.int kc (c : Int))).run P w = .ok (.slice (some ⟨w.heap.size, 0, none⟩) n c) (w.alloc (.cells (madeCells z.cells (c * i.size)) e)) := by
  have hb : (i.bytes : Int) * (c : Int) ≤ 281474976710656 := by
    have h : ((i.bytes * c : Nat) : Int) ≤ 281474976710656 := by omega
    rwa [Int.natCast_mul] at h
  have hr := run_make (P := P) w t e i z ht hi hz kl kc n c (by omega) (by omega) hb (by omega)
  simp only [Int.toNat_natCast] at hr
  exact hr
theorem encB_zeros (m : Nat) : madeCells (Value.int .u8 0).cells m = encB (List.replicate m 0) := by
  apply Array.toList_inj.1
  rw [show (Value.int .u8 0).cells = #[.int .u8 0] from rfl, toList_madeCells_one]
  simp [encB]
/-- make([]byte, m), over whatever world. -/
theorem run_make_bytes (m : Nat) (hm : m ≤ 65536) (w : World) :
    (Instr.makeSlice 24 (.int .i64 (m : Int)) (.int .i64 (m : Int))).run Tryd.prog w = .ok (.slice (some ⟨w.heap.size, 0, none⟩) m m) (w.alloc (.cells (encB (List.replicate m 0)) 5)) := by
  obtain ⟨i0, hi, hz0, hz1, hz2⟩ := info_parts Tryd.info5
  have := run_make_rowN (P := Tryd.prog) 24 5 i0 _ Tryd.underlying24 hi hz0 .i64 .i64 m m (Nat.le_refl _) (by rw [hz2]; omega) (by omega) w
  rw [hz1, Nat.mul_one, encB_zeros] at this
  exact this

set_option maxRecDepth 4000 in
set_option maxHeartbeats 400000 in
theorem zeros_any (n : Int) (w : World) (h0 : 0 ≤ n) (h1 : n ≤ 8192) :
    Calls Tryd.prog 61 #[.int .i64 n] w fun e w' => ∃ g m : Nat, m = (n.toNat + 7) / 8 ∧ e = .returned (.agg #[.int .i64 n, .slice (some ⟨g, 0, none⟩) m m]) ∧ w.heap.size ≤ g ∧ Blk w' g 5 (encB (List.replicate m 0)) ∧ Below w.heap.size w w' := by
  obtain ⟨m, hm⟩ : ∃ m : Nat, m = (n.toNat + 7) / 8 := ⟨_, rfl⟩
  have hm2 : (n + 7) / 8 = (m : Int) := by omega
  have HM := Lib.hid hm; clear hm
  have HM2 := Lib.hid hm2; clear hm2
  have hmk := run_make_bytes m (by have := HM.out; omega)
  go_enter Tryd.func61, Tryd.ntmps61
  go_wp2_with (go_at_call 71; refine (byteCount_any _ _ h0 (by omega)).mono ?_; rintro e w' ⟨rfl, rfl⟩; rw [HM2.out])
  exact bodyPost_ret (v := .agg #[.int .i64 n, .slice (some ⟨w.heap.size + 1, 0, none⟩) m m]) (by simp [results, Tryd.results61, go_sem]) rfl
    ⟨w.heap.size + 1, m, HM.out, rfl, by omega, by simpa using Blk.new (w.alloc (Obj.cells #[Value.int IntKind.i64 n, Value.slice (some { block := w.heap.size + 1, off := 0 }) m m] 28)) 5 (encB (List.replicate m 0)), ((Below.refl _ _).alloc (Nat.le_refl _) _).alloc (by simp) _⟩

theorem only_setRow (w : World) (g : Nat) (cs : Array Value) : w.grownBy (w.setRow g cs) (some g) :=
  ⟨rfl, rfl, rfl, by simp, fun i _ hne => setRow_other w g i cs (fun e => hne (by rw [e]))⟩

/-- copy of bytes that came in, over the head of a row of the call's own. -/
theorem run_copy_bytes {P : Program} (w : World) (dT sT ty elem : TypeId) (hu : P.underlying dT = some (.slice elem)) (hsz : (P.info? elem).map (·.size) = some 1)
    (g m m' : Nat) (A : Option Addr) (n c : Nat)
    (cur bs : List UInt8) (hg : Blk w g 5 (encB cur)) (B : Nat) (hA : Byt B w A bs) (hn : n = bs.length) (hm : m = cur.length) (hle : n ≤ m) :
    ∃ w', (Builtin.copy_ #[dT, sT] ty #[.slice (some ⟨g, 0, none⟩) m m', .slice A n c]).run P w = .ok (goInt bs.length) w' ∧ Blk w' g 5 (encB (bs ++ cur.drop bs.length)) ∧ w.grownBy w' (some g) := by
  subst hn
  subst hm
  by_cases h0 : bs = []
  · subst h0
    exact ⟨w, run_copy_none (P := P) w dT sT ty elem _ A _ _ _ _ hu hsz (by simp), by simpa using hg, World.grownBy.refl w _⟩
  · obtain ⟨b, off, rfl, _, hc⟩ := hA h0
    have hlen : (bs.map fun x => Value.int .u8 (x.toNat : Int)).length = bs.length := by simp
    have := run_copy_row (P := P) w dT sT ty elem g 0 cur.length m' ⟨b, off, none⟩ bs.length c (encB cur) 5 (bs.map fun x => Value.int .u8 (x.toNat : Int)) hu hsz hg (by rw [hlen]; exact (Nat.min_eq_left hle).symm) ?_ (by simpa [encB] using hle) ?_
    · rw [hlen] at this
      refine ⟨_, this, ?_, only_setRow w g _⟩
      have := setRow_heap w g (encB cur) ((encB cur).toList.take 0 ++ (bs.map fun x => Value.int .u8 (x.toNat : Int)) ++ (encB cur).toList.drop (0 + bs.length)).toArray 5 (0, 0) hg
      unfold Blk
      rw [this]
      simp [encB]
    · intro j v hj
      have hjl : j < bs.length := by
        rcases Nat.lt_or_ge j bs.length with hl | hl
        · exact hl
        · simp [List.getElem?_eq_none hl] at hj
      have hv : v = .int .u8 ((bs[j]?.getD 0).toNat : Int) := by simpa [hjl, eq_comm] using hj
      rw [hv, ← hc j hjl]
      unfold Addr.add
      split
      · rename_i h; subst h; rfl
      · rfl
    · intro v hv
      obtain ⟨x, _, rfl⟩ := List.mem_map.1 hv
      rfl

set_option maxRecDepth 4000 in
set_option maxHeartbeats 400000 in
theorem grown_any (N more : Int) (A : Option Addr) (n c : Nat) (bs : List UInt8) (w : World) (h0 : 0 ≤ N) (h1 : N ≤ 4096) (h2 : 0 ≤ more) (h3 : more ≤ 4096) (hn : n = bs.length) (hl : bs.length = (N.toNat + 7) / 8) (hA : Byt w.heap.size w A bs) :
    Calls Tryd.prog 82 #[.agg #[.int .i64 N, .slice A n c], .int .i64 more] w fun e w' => ∃ g m : Nat, m = ((N + more).toNat + 7) / 8 ∧ e = .returned (.agg #[.int .i64 (N + more), .slice (some ⟨g, 0, none⟩) m m]) ∧ w.heap.size ≤ g ∧
      Blk w' g 5 (encB (bs ++ List.replicate ((N.toNat + more.toNat + 7) / 8 - bs.length) 0)) ∧ Below w.heap.size w w' := by
  have HN := Lib.hid hn; clear hn
  have HL := Lib.hid hl; clear hl
  go_enter Tryd.func82, Tryd.ntmps82
  go_wp2_with (first
    | (go_at_call 61; refine (zeros_any _ _ (by omega) (by omega)).mono ?_; rintro e w1 ⟨g, m, hm, rfl, hg, hb, hB⟩; have HM := Lib.hid hm; clear hm
       have hsz : w.heap.size + 2 ≤ g := by simpa using hg
       have hgl := hb.lt
       have hc1 : w1.cell? ⟨w.heap.size, 1, none⟩ = some (.slice A n c) := (hB.cell (p := ⟨w.heap.size, 1, none⟩) (by simp; omega)).trans (by simp)
       have hc2 : w1.cell? ⟨w.heap.size + 1, 0, none⟩ = some (.int .i64 0) := (hB.cell (p := ⟨w.heap.size + 1, 0, none⟩) (by simp)).trans (by simp)
       have hc3 : w1.cell? ⟨w.heap.size + 1, 1, none⟩ = some (.slice none 0 0) := (hB.cell (p := ⟨w.heap.size + 1, 1, none⟩) (by simp)).trans (by simp)
       have hf2 : w1.frozen? ⟨w.heap.size + 1, 0, none⟩ = false := (hB.frozen (p := ⟨w.heap.size + 1, 0, none⟩) (by simp)).trans (by simp)
       have hf3 : w1.frozen? ⟨w.heap.size + 1, 1, none⟩ = false := (hB.frozen (p := ⟨w.heap.size + 1, 1, none⟩) (by simp)).trans (by simp)
       have hl1 : w.heap.size < w1.heap.size := by omega
       have hl2 : w.heap.size + 1 < w1.heap.size := by omega
       have hBw : Below w.heap.size w w1 := (((Below.refl _ _).alloc (Nat.le_refl _) _).alloc (by simp) _).trans (hB.mono (by simp; omega))
       obtain ⟨w2, hrun, hb2, hg2⟩ := run_copy_bytes (P := Tryd.prog) (w1.alloc (.cells #[.int .i64 (N + more), .slice (some ⟨g, 0, none⟩) m m] 28)) 24 24 3 5 Tryd.underlying24 (by kernel_rfl) g m m A n c (List.replicate m 0) bs (hb.alloc _) w.heap.size (hA.below (hBw.alloc (by omega) _)) HN.out (by simp) (by have := HM.out; have := HN.out; have := HL.out; omega)
       have hd1 : w2.cell? ⟨w1.heap.size, 0, none⟩ = some (.int .i64 (N + more)) := (World.cell?_of_block (hg2.block _ (by simp) (by simp; omega))).trans (by simp)
       have hd2 : w2.cell? ⟨w1.heap.size, 1, none⟩ = some (.slice (some ⟨g, 0, none⟩) m m) := (World.cell?_of_block (hg2.block _ (by simp) (by simp; omega))).trans (by simp)
       have he2 : w2.cell? ⟨w.heap.size + 1, 0, none⟩ = some (.int .i64 0) := (World.cell?_of_block (hg2.block _ (by simp; omega) (by simp; omega))).trans ((World.cell?_alloc_lt w1 _ _ hl2).trans hc2)
       have he3 : w2.cell? ⟨w.heap.size + 1, 1, none⟩ = some (.slice none 0 0) := (World.cell?_of_block (hg2.block _ (by simp; omega) (by simp; omega))).trans ((World.cell?_alloc_lt w1 _ _ hl2).trans hc3)
       have hf2' : w2.frozen? ⟨w.heap.size + 1, 0, none⟩ = false := (World.frozen?_of_block ((hg2.block (w.heap.size + 1) (by simp; omega) (by simp; omega)).trans (Below.heap_alloc w1 _ _ hl2))).trans hf2
       have hf3' : w2.frozen? ⟨w.heap.size + 1, 1, none⟩ = false := (World.frozen?_of_block ((hg2.block (w.heap.size + 1) (by simp; omega) (by simp; omega)).trans (Below.heap_alloc w1 _ _ hl2))).trans hf3
       have hBw2 : Below w.heap.size w w2 := (hBw.alloc (by omega) _).grown hg2 (by simp; omega) (by intro k hk; injection hk with hk; omega)
       clear hc2 hc3 hf2 hf3))
  refine bodyPost_ret (v := .agg #[.int .i64 (N + more), .slice (some ⟨g, 0, none⟩) m m]) (by simp [results, Tryd.results82, go_sem, he2, he3]) rfl
    ⟨g, m, HM.out, rfl, by omega, ?_, (hBw2.setCell (p := ⟨w.heap.size + 1, 0, none⟩) (by simp) _).setCell (p := ⟨w.heap.size + 1, 1, none⟩) (by simp) _⟩
  refine Blk.far (Blk.far ?_ (by simp; omega) _) (by simp; omega) _
  rw [List.drop_replicate] at hb2
  have e : m = (N.toNat + more.toNat + 7) / 8 := by have := HM.out; omega
  rw [← e]
  exact hb2
end Go.Proofs.YtcfbeelljhjnoaaDoor

namespace Go.Proofs.YtcfbeelljhjnoaaDoor
open Go.RowKit

/-! ### A list that is painted from its head on -/
def paint (t : List Bool) (p : Nat) : List Bool := t.take p ++ List.replicate (t.length - p) false
theorem paint_length (t : List Bool) (p : Nat) (h : p ≤ t.length) : (paint t p).length = t.length := by simp [paint]; omega
theorem paint_get (t : List Bool) (p i : Nat) : (paint t p)[i]?.getD false = (decide (i < p) && t[i]?.getD false) := by
  unfold paint
  rw [List.getElem?_append, List.length_take]
  by_cases h : i < p
  · by_cases h2 : i < t.length
    · rw [if_pos (by omega), List.getElem?_take_of_lt h]; simp [h]
    · rw [if_neg (by omega), List.getElem?_replicate, List.getElem?_eq_none (l := t) (by omega)]
      split <;> simp
  · rw [if_neg (by omega), List.getElem?_replicate]
    split <;> simp [h]
theorem paint_full (t : List Bool) : paint t t.length = t := by simp [paint]
theorem paint_zero (t : List Bool) : paint t 0 = List.replicate t.length false := by simp [paint]
theorem paint_app (l r : List Bool) : paint (l ++ r) l.length = l ++ List.replicate r.length false := by simp [paint]
theorem paint_flip {t : List Bool} {p : Nat} {bs : List UInt8} (h : IsBits (paint t p) bs) (hp : p < t.length) (hb : t[p]?.getD false = true) : IsBits (paint t (p + 1)) (flipB bs p) := by
  have hl := paint_length t p (by omega)
  refine ⟨by rw [flipB_length, paint_length t (p + 1) (by omega), h.1, hl], fun i => ?_⟩
  rw [bitAt_flipB bs p i (by rw [h.1, hl]; omega), h.2, paint_get, paint_get]
  by_cases e : p = i
  · subst e; simp [hb]
  · have : decide (i < p + 1) = decide (i < p) := by rw [decide_eq_decide]; omega
    simp [e, this]
theorem paint_stay {t : List Bool} {p : Nat} {bs : List UInt8} (h : IsBits (paint t p) bs) (hp : p < t.length) (hb : t[p]?.getD false = false) : IsBits (paint t (p + 1)) bs := by
  have hl := paint_length t p (by omega)
  refine ⟨by rw [paint_length t (p + 1) (by omega), h.1, hl], fun i => ?_⟩
  rw [h.2, paint_get, paint_get]
  by_cases e : p = i
  · subst e; simp [hb]
  · have : decide (i < p + 1) = decide (i < p) := by rw [decide_eq_decide]; omega
    simp [this]

/-- The bytes lie in a block from B on. -/
def Fresh (B : Nat) (A : Option Addr) (bs : List UInt8) : Prop := ∀ a, A = some a → bs ≠ [] → B ≤ a.block
theorem Byt.set_low {n₀ B : Nat} {W : World} {A : Option Addr} {bs : List UInt8} (h : Byt n₀ W A bs) (hf : Fresh B A bs) {p : Addr} (hp : p.block < B) (u : Value) : Byt n₀ (W.setCell p u) A bs := fun hn => by
  obtain ⟨b, off, rfl, hlt, hc⟩ := h hn
  have hb := hf _ rfl hn
  exact ⟨b, off, rfl, hlt, fun j hj => (World.cell?_setCell_other W p _ u (fun e => by subst e; simp at hp hb; omega)).trans (hc j hj)⟩
/-- What a call answers: an error's number and bits, in memory that it may have made; all that was there stays. -/
def Res (w : World) (r : Int × List Bool) (e : Ending) (w' : World) : Prop :=
  ∃ (A : Option Addr) (n c : Nat) (bs : List UInt8), e = .returned (.tuple #[.agg #[.int .i64 r.2.length, .slice A n c], .int .i64 r.1]) ∧ n = bs.length ∧ IsBits r.2 bs ∧ r.2.length ≤ 4096 ∧ Byt w'.heap.size w' A bs ∧ Below w.heap.size w w' ∧ Fresh w.heap.size A bs
theorem res_err {w w' : World} (k : Int) (h : Below w.heap.size w w') : Res w (k, []) (.returned (.tuple #[.agg #[.int .i64 0, .slice none 0 0], .int .i64 k])) w' :=
  ⟨none, 0, 0, [], rfl, rfl, isBits_nil, by simp, fun h => absurd rfl h, h, fun _ _ h => absurd rfl h⟩

/-- A box of two cells. -/
theorem Blk.two {w : World} {g : Nat} {t : TypeId} {a b : Value} (h : Blk w g t #[a, b]) : w.cell? ⟨g, 0, none⟩ = some a ∧ w.cell? ⟨g, 1, none⟩ = some b ∧ w.frozen? ⟨g, 0, none⟩ = false ∧ w.frozen? ⟨g, 1, none⟩ = false :=
  ⟨by simpa using h.cell 0, by simpa using h.cell 1, h.frozen 0, h.frozen 1⟩
theorem Blk.put2 {w : World} {g : Nat} {t : TypeId} {a b : Value} (h : Blk w g t #[a, b]) (x y : Value) : Blk ((w.setCell ⟨g, 0, none⟩ x).setCell ⟨g, 1, none⟩ y) g t #[x, y] := by
  simpa using (h.set_ 0 x).set_ 1 y
/-- Two boxes laid by a call, behind a callee that keeps all that was there. -/
theorem boxes2 {w w1 : World} {a0 a1 b0 b1 : Value} (hB : Below ((w.alloc (.cells #[a0, a1] 28)).alloc (.cells #[b0, b1] 28)).heap.size ((w.alloc (.cells #[a0, a1] 28)).alloc (.cells #[b0, b1] 28)) w1) :
    Blk w1 w.heap.size 28 #[a0, a1] ∧ Blk w1 (w.heap.size + 1) 28 #[b0, b1] ∧ w.heap.size + 2 ≤ w1.heap.size ∧ Below w.heap.size w w1 := by
  have h1 : Blk ((w.alloc (.cells #[a0, a1] 28)).alloc (.cells #[b0, b1] 28)) w.heap.size 28 #[a0, a1] := (Blk.new w 28 _).alloc _
  have h2 : Blk ((w.alloc (.cells #[a0, a1] 28)).alloc (.cells #[b0, b1] 28)) (w.heap.size + 1) 28 #[b0, b1] := by
    simpa using Blk.new (w.alloc (.cells #[a0, a1] 28)) 28 #[b0, b1]
  exact ⟨h1.below hB h1.lt, h2.below hB h2.lt, by have := hB.size; simpa using this, (((Below.refl _ _).alloc (Nat.le_refl _) _).alloc (by simp) _).trans (hB.mono (by simp; omega))⟩

theorem bit_test (v j : Nat) (hv : v < 2 ^ 64) : (bits .and .u64 ((v : Int) / 2 ^ j) 1 == 1) = v.testBit j := by
  have e : ((v : Int) / 2 ^ j) = ((v / 2 ^ j : Nat) : Int) := by norm_cast
  have hle : v / 2 ^ j ≤ v := Nat.div_le_self _ _
  rw [e, show (1 : Int) = ((1 : Nat) : Int) from rfl, u64_and_nat _ _ (by omega) (by omega), nat_mask1, Nat.testBit_eq_decide_div_mod_eq]
  rcases Nat.mod_two_eq_zero_or_one (v / 2 ^ j) with h | h <;> rw [h] <;> rfl
theorem numBits_get (l : List Bool) (v W N k : Nat) (hl : l.length = N) (hk : k < W) : (l ++ numBits v W)[N + k]?.getD false = v.testBit (W - 1 - k) := by
  subst hl
  rw [List.getElem?_append_right (by omega)]
  simp [numBits, hk]

/-- Bits under way: the row g, its box ob, painted up to p; all that was there stays. -/
structure OutRel (w : World) (g ob m : Nat) (t : List Bool) (p : Nat) (bs : List UInt8) (wr : World) : Prop where
  is_ : IsBits (paint t p) bs
  len : bs.length = m
  row : Blk wr g 5 (encB bs)
  box : Blk wr ob 28 #[.int .i64 (t.length : Int), .slice (some ⟨g, 0, none⟩) m m]
  low : Below w.heap.size w wr
  ge : w.heap.size ≤ g
  lt : g < ob
theorem OutRel.turned {w wr wr' : World} {g ob m p : Nat} {t : List Bool} {bs : List UInt8} (h : OutRel w g ob m t p bs wr) (hp : p < t.length) (hb : t[p]?.getD false = true) (hr : Blk wr' g 5 (encB (flipB bs p))) (hg : wr.grownBy wr' (some g)) :
    OutRel w g ob m t (p + 1) (flipB bs p) wr' :=
  ⟨paint_flip h.is_ hp hb, by rw [flipB_length]; exact h.len, hr, h.box.grown hg (by have := h.lt; simp; omega), h.low.grown hg h.low.size (fun k e => by injection e with e; have := h.ge; omega), h.ge, h.lt⟩
theorem OutRel.stayed {w wr : World} {g ob m p : Nat} {t : List Bool} {bs : List UInt8} (h : OutRel w g ob m t p bs wr) (hp : p < t.length) (hb : t[p]?.getD false = false) : OutRel w g ob m t (p + 1) bs wr :=
  ⟨paint_stay h.is_ hp hb, h.len, h.row, h.box, h.low, h.ge, h.lt⟩

/-- Put, by the document. -/
def putS (N : Int) (bs : List UInt8) (v : Nat) (width : Int) : Int × List Bool :=
  if goodB N bs = true then
    if (0 ≤ width ∧ width ≤ 64) ∧ v / 2 ^ width.toNat = 0 then
      if 4096 - N < width then (3, []) else (0, listOf N bs ++ numBits v width.toNat)
    else (2, [])
  else (10, [])

set_option maxRecDepth 4000 in
set_option maxHeartbeats 1000000 in
theorem put_any (N width : Int) (v : Nat) (A : Option Addr) (n c : Nat) (bs : List UInt8) (w : World) (hn : n = bs.length) (hm : n ≤ maxLen) (hA : Byt w.heap.size w A bs) (hv : v < 2 ^ 64) :
    Calls Tryd.prog 59 #[.agg #[.int .i64 N, .slice A n c], .int .u64 v, .int .i64 width] w (Res w (putS N bs v width)) := by
  have HA := Lib.hid hA
  have HN := Lib.hid hn; clear hn
  have hck := fun w1 (h : Below w.heap.size w w1) => check_any N A n c bs w1 HN.out hm ((hA.below h).mono h.size)
  have HCK := Lib.hid hck; clear hck hA
  unfold maxLen at hm
  by_cases hgood : goodB N bs = true
  · obtain ⟨hg0, hg1, hg2, _⟩ := (good_iff N bs).1 hgood
    have hk := chk_yes hgood
    have HK := Lib.hid hk; clear hk
    by_cases hwid : 0 ≤ width ∧ width ≤ 64
    · obtain ⟨hw0, hw1⟩ := hwid
      by_cases hsh : v / 2 ^ width.toNat = 0
      · have hshb : ((v : Int) / 2 ^ width.toNat != 0) = false := by
          have : ((v : Int) / 2 ^ width.toNat) = ((v / 2 ^ width.toNat : Nat) : Int) := by norm_cast
          rw [this, hsh]; rfl
        by_cases hlong : 4096 - N < width
        · have hr : putS N bs v width = (3, []) := by simp [putS, hgood, hw0, hw1, hsh, hlong]
          rw [hr]; clear hr hgood
          have HSH := Lib.hid hsh; clear hsh
          have HG2 := Lib.hid hg2; clear hg2
          go_enter Tryd.func59, Tryd.ntmps59
          go_wp2_with (first
            | (go_at_call 43; refine (HCK.out _ (((Below.refl _ _).alloc (Nat.le_refl _) _).alloc (by simp) _)).mono ?_; rintro e w1 ⟨rfl, hB⟩; rw [HK.out]; obtain ⟨k1, k2, hs, hBw⟩ := boxes2 hB; obtain ⟨c1, c2, f1, f2⟩ := k2.two; obtain ⟨c3, c4, f3, f4⟩ := k1.two; have hl1 : w.heap.size + 1 < w1.heap.size := by omega)
            | (go_at_call 81; refine (isWidth_yes _ _ hw0 hw1).mono ?_; rintro e w2 ⟨rfl, rfl⟩))
          refine bodyPost_ret (v := .tuple #[.agg #[.int .i64 0, .slice none 0 0], .int .i64 3]) (by simp [results, Tryd.results59, go_sem, c1, c2]) rfl
            (res_err 3 ((hBw.setCell (p := ⟨w.heap.size + 1, 0, none⟩) (by simp) _).setCell (p := ⟨w.heap.size + 1, 1, none⟩) (by simp) _))
        · have hr : putS N bs v width = (0, listOf N bs ++ numBits v width.toNat) := by simp [putS, hgood, hw0, hw1, hsh, hlong]
          rw [hr]; clear hr
          have hlong' : width ≤ 4096 - N := by omega
          clear hlong
          have hib := good_isBits hgood
          have hll : (listOf N bs).length = N.toNat := listOf_length N bs
          generalize hl : listOf N bs = l at *
          have HSH := Lib.hid hsh; clear hsh
          have HG2 := Lib.hid hg2; clear hg2
          have HIB := Lib.hid hib; clear hib
          have HLL := Lib.hid hll; clear hll hl hgood
          go_enter Tryd.func59, Tryd.ntmps59
          go_wp2_with (first
            | (go_at_call 43; refine (HCK.out _ (((Below.refl _ _).alloc (Nat.le_refl _) _).alloc (by simp) _)).mono ?_; rintro e w1 ⟨rfl, hB⟩; rw [HK.out]; obtain ⟨k1, k2, hs, hBw⟩ := boxes2 hB; obtain ⟨c1, c2, f1, f2⟩ := k2.two; obtain ⟨c3, c4, f3, f4⟩ := k1.two; have hl1 : w.heap.size + 1 < w1.heap.size := by omega)
            | (go_at_call 81; refine (isWidth_yes _ _ hw0 hw1).mono ?_; rintro e w2 ⟨rfl, rfl⟩)
            | (go_at_call 82; refine (grown_any N width A n c bs _ hg0 hg1 hw0 (by omega) HN.out (by have := HG2.out; omega) ((HA.out.below hBw).mono hBw.size)).mono ?_
               rintro e w2 ⟨g, m, hmm, rfl, hgg, hgb, hgB⟩
               have HM := Lib.hid hmm; clear hmm
               have hgl := hgb.lt
               have j1 := k1.below hgB (by omega)
               have j2 := k2.below hgB (by omega)
               have hBw2 := hBw.trans (hgB.mono hBw.size)
               clear c1 c2 c3 c4 f1 f2 f3 f4 k1 k2 hl1))
          have hi0 : OutRel w g w2.heap.size m (l ++ numBits v width.toNat) (N.toNat + 0) (bs ++ List.replicate ((N.toNat + width.toNat + 7) / 8 - bs.length) 0) (w2.alloc (.cells #[.int .i64 (N + width), .slice (some ⟨g, 0, none⟩) m m] 28)) := by
            have h1 := isBits_grow HIB.out width.toNat
            rw [HLL.out] at h1
            have h2 := HM.out; have h3 := HG2.out
            refine ⟨?_, by simp; omega, hgb.alloc _, ?_, hBw2.alloc hBw2.size _, by omega, hgl⟩
            · rw [Nat.add_zero, ← HLL.out, paint_app, numBits_length, HLL.out]; exact h1
            · have e : (((l ++ numBits v width.toNat).length : Nat) : Int) = N + width := by rw [List.length_append, numBits_length, HLL.out]; omega
              rw [e]; exact Blk.new w2 28 _
          have hlt2 : w.heap.size + 2 ≤ w2.heap.size := by omega
          have hgg2 : w.heap.size + 2 ≤ g := by omega
          have j1' := j1.alloc (.cells #[.int .i64 (N + width), .slice (some ⟨g, 0, none⟩) m m] 28)
          have j2' := j2.alloc (.cells #[.int .i64 (N + width), .slice (some ⟨g, 0, none⟩) m m] 28)
          generalize w2.heap.size = ob at *
          go_loopw [34] (fun i wr => ∃ (k : Nat) (bs' : List UInt8), (k : Int) ≤ width ∧ i = .int .i64 k ∧ OutRel w g ob m (l ++ numBits v width.toNat) (N.toNat + k) bs' wr ∧
              Blk wr w.heap.size 28 #[.int .i64 N, .slice A n c] ∧ Blk wr (w.heap.size + 1) 28 #[.int .i64 0, .slice none 0 0])
            (fun i _ => width.toNat - (intOf i).toNat)
          case atStart => exact ⟨0, _, by omega, rfl, hi0, j1', j2'⟩
          case round =>
            obtain ⟨k, bs', hk, rfl, hO, q1, q2⟩ := hrel
            obtain ⟨c1, c2, f1, f2⟩ := q1.two
            obtain ⟨c3, c4, f3, f4⟩ := q2.two
            obtain ⟨c5, c6, f5, f6⟩ := hO.box.two
            have hN2 : (((l ++ numBits v width.toNat).length : Nat) : Int) = N + width := by rw [List.length_append, numBits_length, HLL.out]; omega
            rw [hN2] at c5
            have HN2 := Lib.hid hN2; clear hN2 j1 j2 j1' j2' hi0 hgb hB hgB
            by_cases hlt : (k : Int) < width
            · have hbt := bit_test v (width.toNat - 1 - k) hv
              have hgt := numBits_get l v width.toNat N.toNat k HLL.out (by omega)
              have hpl : N.toNat + k < (l ++ numBits v width.toNat).length := by have := HN2.out; omega
              by_cases hb : v.testBit (width.toNat - 1 - k) = true
              · rw [hb] at hbt hgt
                have HGT := Lib.hid hgt; clear hgt hb
                have hcall := turn_any (N + width) (N + k) g m m bs' wr (by omega) (by omega) hO.len.symm (by
                  have h1 := hO.is_.1; rw [paint_length _ _ (by omega)] at h1; have := HN2.out; omega) hO.row
                have HT := Lib.hid hcall; clear hcall
                have HP := Lib.hid hpl; clear hpl
                go_wp2_with (go_at_call 63; refine HT.out.mono ?_; rintro e w3 ⟨rfl, hr3, hg3⟩)
                go_roundw
                case rel =>
                  rw [show (N + (k : Int)).toNat = N.toNat + k by omega] at hr3
                  exact ⟨k + 1, _, by omega, by go_num, hO.turned HP.out HGT.out hr3 hg3, q1.grown hg3 (by simp; omega), q2.grown hg3 (by simp; omega)⟩
                case measure => simp [intOf]; omega
              · rw [Bool.not_eq_true] at hb
                rw [hb] at hbt hgt
                have HGT := Lib.hid hgt; clear hgt hb
                have HP := Lib.hid hpl; clear hpl
                go_wp2
                go_roundw
                case rel => exact ⟨k + 1, _, by omega, by go_num, hO.stayed HP.out HGT.out, q1, q2⟩
                case measure => simp [intOf]; omega
            · have hlw : w.heap.size < wr.heap.size := q1.lt
              go_wp2
              have hfin := hO.is_
              rw [show N.toNat + k = (l ++ numBits v width.toNat).length by have := HN2.out; omega, paint_full] at hfin
              have hrow : Blk ((wr.setCell ⟨w.heap.size + 1, 0, none⟩ (.int .i64 (N + width))).setCell ⟨w.heap.size + 1, 1, none⟩ (.slice (some ⟨g, 0, none⟩) m m)) g 5 (encB bs') := (hO.row.far (p := ⟨w.heap.size + 1, 0, none⟩) (by simp; omega) _).far (p := ⟨w.heap.size + 1, 1, none⟩) (by simp; omega) _
              refine bodyPost_ret (v := .tuple #[.agg #[.int .i64 (N + width), .slice (some ⟨g, 0, none⟩) m m], .int .i64 0]) (by simp [results, Tryd.results59, go_sem, c3, c4]) rfl
                ⟨some ⟨g, 0, none⟩, m, m, bs', by rw [HN2.out], hO.len.symm, hfin, by have := HN2.out; dsimp only; omega, byt_of_blk hrow, (hO.low.setCell (p := ⟨w.heap.size + 1, 0, none⟩) (by simp) _).setCell (p := ⟨w.heap.size + 1, 1, none⟩) (by simp) _, fun a ha _ => by injection ha with ha; subst ha; exact hO.ge⟩
      · have hr : putS N bs v width = (2, []) := by simp [putS, hgood, hsh]
        have hshb : ((v : Int) / 2 ^ width.toNat != 0) = true := by
          have : ((v : Int) / 2 ^ width.toNat) = ((v / 2 ^ width.toNat : Nat) : Int) := by norm_cast
          rw [this]; rw [bne_iff_ne]; exact_mod_cast hsh
        rw [hr]; clear hr hgood hsh
        have HG2 := Lib.hid hg2; clear hg2
        go_enter Tryd.func59, Tryd.ntmps59
        go_wp2_with (first
            | (go_at_call 43; refine (HCK.out _ (((Below.refl _ _).alloc (Nat.le_refl _) _).alloc (by simp) _)).mono ?_; rintro e w1 ⟨rfl, hB⟩; rw [HK.out]; obtain ⟨k1, k2, hs, hBw⟩ := boxes2 hB; obtain ⟨c1, c2, f1, f2⟩ := k2.two; obtain ⟨c3, c4, f3, f4⟩ := k1.two; have hl1 : w.heap.size + 1 < w1.heap.size := by omega)
            | (go_at_call 81; refine (isWidth_yes _ _ hw0 hw1).mono ?_; rintro e w2 ⟨rfl, rfl⟩))
        refine bodyPost_ret (v := .tuple #[.agg #[.int .i64 0, .slice none 0 0], .int .i64 2]) (by simp [results, Tryd.results59, go_sem, c1, c2]) rfl
            (res_err 2 ((hBw.setCell (p := ⟨w.heap.size + 1, 0, none⟩) (by simp) _).setCell (p := ⟨w.heap.size + 1, 1, none⟩) (by simp) _))
    · have hr : putS N bs v width = (2, []) := by simp [putS, hgood, hwid]
      rw [hr]; clear hr hgood
      have HG2 := Lib.hid hg2; clear hg2
      have HW := Lib.hid hwid; clear hwid
      go_enter Tryd.func59, Tryd.ntmps59
      go_wp2_with (first
            | (go_at_call 43; refine (HCK.out _ (((Below.refl _ _).alloc (Nat.le_refl _) _).alloc (by simp) _)).mono ?_; rintro e w1 ⟨rfl, hB⟩; rw [HK.out]; obtain ⟨k1, k2, hs, hBw⟩ := boxes2 hB; obtain ⟨c1, c2, f1, f2⟩ := k2.two; obtain ⟨c3, c4, f3, f4⟩ := k1.two; have hl1 : w.heap.size + 1 < w1.heap.size := by omega)
            | (go_at_call 81; refine (isWidth_no _ _ HW.out).mono ?_; rintro e w2 ⟨rfl, rfl⟩))
      refine bodyPost_ret (v := .tuple #[.agg #[.int .i64 0, .slice none 0 0], .int .i64 2]) (by simp [results, Tryd.results59, go_sem, c1, c2]) rfl
            (res_err 2 ((hBw.setCell (p := ⟨w.heap.size + 1, 0, none⟩) (by simp) _).setCell (p := ⟨w.heap.size + 1, 1, none⟩) (by simp) _))
  · have hr : putS N bs v width = (10, []) := by simp [putS, hgood]
    have hk := chk_no (N := N) (bs := bs) (by simpa using hgood)
    rw [hr]; clear hr hgood
    have HK := Lib.hid hk; clear hk
    go_enter Tryd.func59, Tryd.ntmps59
    go_wp2_with (go_at_call 43; refine (HCK.out _ (((Below.refl _ _).alloc (Nat.le_refl _) _).alloc (by simp) _)).mono ?_; rintro e w1 ⟨rfl, hB⟩; rw [HK.out]; obtain ⟨k1, k2, hs, hBw⟩ := boxes2 hB; obtain ⟨c1, c2, f1, f2⟩ := k2.two; have hl1 : w.heap.size + 1 < w1.heap.size := by omega)
    refine bodyPost_ret (v := .tuple #[.agg #[.int .i64 0, .slice none 0 0], .int .i64 10]) (by simp [results, Tryd.results59, go_sem, c1, c2]) rfl
      (res_err 10 ((hBw.setCell (p := ⟨w.heap.size + 1, 0, none⟩) (by simp) _).setCell (p := ⟨w.heap.size + 1, 1, none⟩) (by simp) _))
end Go.Proofs.YtcfbeelljhjnoaaDoor

namespace Go.Proofs.YtcfbeelljhjnoaaDoor
open Go.RowKit

/-- Get, by the document. -/
def getS (N : Int) (bs : List UInt8) (at_ width : Int) : Int × Nat :=
  if goodB N bs = true then
    if (0 ≤ width ∧ width ≤ 64) ∧ 0 ≤ at_ ∧ at_ ≤ N - width then (0, numOf (((listOf N bs).drop at_.toNat).take width.toNat))
    else (2, 0)
  else (10, 0)
/-- What it answers. -/
def Num (w : World) (r : Int × Nat) (e : Ending) (w' : World) : Prop := e = .returned (.tuple #[.int .u64 r.2, .int .i64 r.1]) ∧ Below w.heap.size w w'

/-- A box laid by a call, behind a callee that keeps all that was there. -/
theorem boxes1 {w w1 : World} {a0 a1 : Value} (hB : Below (w.alloc (.cells #[a0, a1] 28)).heap.size (w.alloc (.cells #[a0, a1] 28)) w1) :
    Blk w1 w.heap.size 28 #[a0, a1] ∧ w.heap.size + 1 ≤ w1.heap.size ∧ Below w.heap.size w w1 := by
  have h1 : Blk (w.alloc (.cells #[a0, a1] 28)) w.heap.size 28 #[a0, a1] := Blk.new w 28 _
  exact ⟨h1.below hB h1.lt, by have := hB.size; simpa using this, ((Below.refl _ _).alloc (Nat.le_refl _) _).trans (hB.mono (by simp))⟩

theorem u64_twice (x : Nat) (h : 2 * x < 2 ^ 64) : IntKind.u64.wrap ((x : Int) * 2) = ((2 * x : Nat) : Int) := by
  rw [IntKind.wrap_u64]; omega
theorem u64_or1 (x : Nat) (h : 2 * x < 2 ^ 64) : bits .or .u64 ((2 * x : Nat) : Int) 1 = ((2 * x + 1 : Nat) : Int) := by
  rw [show (1 : Int) = ((1 : Nat) : Int) from rfl, u64_or_nat _ _ (by omega) (by omega)]
  rw [nat_join 1 (2 * x) 1 (by omega) (by omega)]
theorem take_snoc_get (l : List Bool) (a k : Nat) (h : a + k < l.length) : (l.drop a).take (k + 1) = (l.drop a).take k ++ [l[a + k]?.getD false] := by
  rw [List.take_add_one, List.getElem?_drop, List.getElem?_eq_getElem h]
  rfl
theorem num_small (l : List Bool) (k : Nat) (h : k < 64) : 2 * numOf (l.take k) < 2 ^ 64 := by
  have h1 := numOf_lt (l.take k)
  have h2 : (l.take k).length ≤ k := List.length_take_le _ _
  have h3 : 2 ^ (l.take k).length ≤ 2 ^ 63 := Nat.pow_le_pow_right (by omega) (by omega)
  omega

set_option maxRecDepth 4000 in
set_option maxHeartbeats 1000000 in
theorem get_any (N at_ width : Int) (A : Option Addr) (n c : Nat) (bs : List UInt8) (w : World) (hn : n = bs.length) (hm : n ≤ maxLen) (hA : Byt w.heap.size w A bs) :
    Calls Tryd.prog 74 #[.agg #[.int .i64 N, .slice A n c], .int .i64 at_, .int .i64 width] w (Num w (getS N bs at_ width)) := by
  have HA := Lib.hid hA
  have HN := Lib.hid hn; clear hn
  have hck := fun w1 (h : Below w.heap.size w w1) => check_any N A n c bs w1 HN.out hm ((hA.below h).mono h.size)
  have HCK := Lib.hid hck; clear hck hA
  unfold maxLen at hm
  by_cases hgood : goodB N bs = true
  · obtain ⟨hg0, hg1, hg2, hg3⟩ := (good_iff N bs).1 hgood
    clear hg3
    have hk := chk_yes hgood
    have HK := Lib.hid hk; clear hk
    by_cases hwid : 0 ≤ width ∧ width ≤ 64
    · obtain ⟨hw0, hw1⟩ := hwid
      by_cases hat : 0 ≤ at_ ∧ at_ ≤ N - width
      · obtain ⟨ha0, ha1⟩ := hat
        have hr : getS N bs at_ width = (0, numOf (((listOf N bs).drop at_.toNat).take width.toNat)) := by simp [getS, hgood, hw0, hw1, ha0, ha1]
        rw [hr]; clear hr
        have hib := good_isBits hgood
        have hll : (listOf N bs).length = N.toNat := listOf_length N bs
        generalize hl : listOf N bs = l at *
        have HG2 := Lib.hid hg2; clear hg2
        have HIB := Lib.hid hib; clear hib
        have HLL := Lib.hid hll; clear hll hl hgood
        have hd1 : decide (at_ < 0) = false := by simpa using ha0
        have hd2 : decide (N - width < at_) = false := by simpa using ha1
        go_enter Tryd.func74, Tryd.ntmps74
        go_wp2_with (first
            | (go_at_call 43; refine (HCK.out _ ((Below.refl _ _).alloc (Nat.le_refl _) _)).mono ?_; rintro e w1 ⟨rfl, hB⟩; rw [HK.out]; obtain ⟨k1, hs, hBw⟩ := boxes1 hB; obtain ⟨c1, c2, f1, f2⟩ := k1.two)
            | (go_at_call 81; refine (isWidth_yes _ _ hw0 hw1).mono ?_; rintro e w2 ⟨rfl, rfl⟩))
        go_loopw [8, 29] (fun v i wr => ∃ k : Nat, (k : Int) ≤ width ∧ i = .int .i64 k ∧ v = .int .u64 (numOf ((l.drop at_.toNat).take k)) ∧ Blk wr w.heap.size 28 #[.int .i64 N, .slice A n c] ∧ Below w.heap.size w wr)
          (fun _ i _ => width.toNat - (intOf i).toNat)
        case atStart => exact ⟨0, by omega, rfl, rfl, k1, hBw⟩
        case round =>
          obtain ⟨k, hk, rfl, rfl, q1, hBr⟩ := hrel
          obtain ⟨c3, c4, f3, f4⟩ := q1.two
          clear c1 c2 f1 f2 k1 hB
          by_cases hlt : (k : Int) < width
          · have hsm := num_small (l.drop at_.toNat) k (by omega)
            have hts := take_snoc_get l at_.toNat k (by have := HLL.out; omega)
            have hone := isOne_any N (at_ + k) A n c bs wr (by omega) (by omega) HN.out (by have := HG2.out; omega) ((HA.out.below hBr).mono hBr.size)
            rw [HIB.out.2, show (at_ + (k : Int)).toNat = at_.toNat + k by omega] at hone
            have hnx : numOf ((l.drop at_.toNat).take (k + 1)) = 2 * numOf ((l.drop at_.toNat).take k) + (l[at_.toNat + k]?.getD false).toNat := by rw [hts, numOf_snoc]
            generalize numOf ((l.drop at_.toNat).take k) = x at *
            have hwx := u64_twice x hsm
            have hor := u64_or1 x hsm
            obtain ⟨y, hy⟩ : ∃ y, y = 2 * x := ⟨_, rfl⟩
            rw [← hy] at hwx hor hnx
            obtain ⟨z, hz⟩ : ∃ z, z = y + 1 := ⟨_, rfl⟩
            rw [← hz] at hor
            clear hts hsm
            have HY := Lib.hid hy; clear hy
            have HZ := Lib.hid hz; clear hz
            by_cases hb : l[at_.toNat + k]?.getD false = true
            · rw [hb] at hone hnx
              have HO := Lib.hid hone; have HX := Lib.hid hnx; clear hone hnx hb
              go_wp2_with (go_at_call 72; refine HO.out.mono ?_; rintro e w3 ⟨rfl, hb3⟩)
              go_roundw
              case rel => exact ⟨k + 1, by omega, by go_num, by rw [HX.out, HZ.out]; rfl, q1.below hb3 q1.lt, hBr.trans (hb3.mono hBr.size)⟩
              case measure => simp [intOf]; omega
            · rw [Bool.not_eq_true] at hb
              rw [hb] at hone hnx
              have HO := Lib.hid hone; have HX := Lib.hid hnx; clear hone hnx hb
              go_wp2_with (go_at_call 72; refine HO.out.mono ?_; rintro e w3 ⟨rfl, hb3⟩)
              go_roundw
              case rel => exact ⟨k + 1, by omega, by go_num, by rw [HX.out]; rfl, q1.below hb3 q1.lt, hBr.trans (hb3.mono hBr.size)⟩
              case measure => simp [intOf]; omega
          · go_wp2
            go_ret2
            exact ⟨by rw [show width.toNat = k by omega]; rfl, hBr⟩
      · have hr : getS N bs at_ width = (2, 0) := by simp [getS, hgood, hat]
        rw [hr]; clear hr hgood
        have HG2 := Lib.hid hg2; clear hg2
        by_cases ha0 : at_ < 0
        · have hd1 : decide (at_ < 0) = true := by simpa using ha0
          clear hat
          go_enter Tryd.func74, Tryd.ntmps74
          go_wp2_with (first
            | (go_at_call 43; refine (HCK.out _ ((Below.refl _ _).alloc (Nat.le_refl _) _)).mono ?_; rintro e w1 ⟨rfl, hB⟩; rw [HK.out]; obtain ⟨k1, hs, hBw⟩ := boxes1 hB; obtain ⟨c1, c2, f1, f2⟩ := k1.two)
            | (go_at_call 81; refine (isWidth_yes _ _ hw0 hw1).mono ?_; rintro e w2 ⟨rfl, rfl⟩))
          go_ret2
          exact ⟨rfl, hBw⟩
        · have hd1 : decide (at_ < 0) = false := by simpa using ha0
          have hd2 : decide (N - width < at_) = true := by simp; omega
          clear hat
          go_enter Tryd.func74, Tryd.ntmps74
          go_wp2_with (first
            | (go_at_call 43; refine (HCK.out _ ((Below.refl _ _).alloc (Nat.le_refl _) _)).mono ?_; rintro e w1 ⟨rfl, hB⟩; rw [HK.out]; obtain ⟨k1, hs, hBw⟩ := boxes1 hB; obtain ⟨c1, c2, f1, f2⟩ := k1.two)
            | (go_at_call 81; refine (isWidth_yes _ _ hw0 hw1).mono ?_; rintro e w2 ⟨rfl, rfl⟩))
          go_ret2
          exact ⟨rfl, hBw⟩
    · have hr : getS N bs at_ width = (2, 0) := by simp [getS, hgood, hwid]
      rw [hr]; clear hr hgood
      have HG2 := Lib.hid hg2; clear hg2
      have HW := Lib.hid hwid; clear hwid
      go_enter Tryd.func74, Tryd.ntmps74
      go_wp2_with (first
            | (go_at_call 43; refine (HCK.out _ ((Below.refl _ _).alloc (Nat.le_refl _) _)).mono ?_; rintro e w1 ⟨rfl, hB⟩; rw [HK.out]; obtain ⟨k1, hs, hBw⟩ := boxes1 hB; obtain ⟨c1, c2, f1, f2⟩ := k1.two)
            | (go_at_call 81; refine (isWidth_no _ _ HW.out).mono ?_; rintro e w2 ⟨rfl, rfl⟩))
      go_ret2
      exact ⟨rfl, hBw⟩
  · have hr : getS N bs at_ width = (10, 0) := by simp [getS, hgood]
    have hk := chk_no (N := N) (bs := bs) (by simpa using hgood)
    rw [hr]; clear hr hgood
    have HK := Lib.hid hk; clear hk
    go_enter Tryd.func74, Tryd.ntmps74
    go_wp2_with (first
            | (go_at_call 43; refine (HCK.out _ ((Below.refl _ _).alloc (Nat.le_refl _) _)).mono ?_; rintro e w1 ⟨rfl, hB⟩; rw [HK.out]; obtain ⟨k1, hs, hBw⟩ := boxes1 hB; obtain ⟨c1, c2, f1, f2⟩ := k1.two))
    go_ret2
    exact ⟨rfl, hBw⟩
end Go.Proofs.YtcfbeelljhjnoaaDoor
