/-
  Contracts of turn and Check of package bits: which bits may be. Conditions: those that each theorem names.
  Contracts of zeros and grown of package bits: bytes in memory of the call itself. Conditions: those that each theorem names.
  Put of package bits answers as the document says, for all bits, numbers and widths. No condition but that the bytes can be read.
  Get of package bits answers as the document says, for all bits, places and widths. No condition but that the bytes can be read.
-/
import Derived.Test.YtnmaelefcohogaaDoorE1
import Derived.StillTailTactics
import Derived.Deep.RegionWith
import Derived.Deep.RegionHeld3
import Derived.Laws.MakeOwn
import Derived.Laws.Rows
import Derived.Lib.Hide
import Derived.Laws.CopyOwn
namespace Go.Proofs.YtnmaelefcohogaaDoor
open Go.RowKit

/-! ### Blocks known whole -/
def Blk (w : World) (g : Nat) (t : TypeId) (cs : Array Value) : Prop := w.heap[g]? = some (.cells cs t (0, 0))
section
variable {w w' : World} {g : Nat} {t : TypeId} {cs : Array Value}
theorem Blk.lt (h : Blk w g t cs) : g < w.heap.size := by
  rcases Nat.lt_or_ge g w.heap.size with hlt | hge
  · exact hlt
  · unfold Blk at h; rw [Array.getElem?_eq_none hge] at h; cases h
theorem Blk.cell (h : Blk w g t cs) (i : Nat) : w.cell? ⟨g, i, none⟩ = cs[i]? := cell_of_row w g i cs t (0, 0) h
theorem Blk.frozen (h : Blk w g t cs) (i : Nat) : w.frozen? ⟨g, i, none⟩ = false := by
  unfold Blk at h
  simp [World.frozen?, h]
theorem Blk.new (w : World) (t : TypeId) (cs : Array Value) : Blk (w.alloc (.cells cs t)) w.heap.size t cs := heap_alloc_new w _
theorem Blk.drew (h : Blk w g t cs) : Blk w.drew g t cs := h
theorem Blk.drewN (h : Blk w g t cs) (n : Nat) : Blk (w.drewN n) g t cs := h
theorem Blk.alloc (h : Blk w g t cs) (o : Obj) : Blk (w.alloc o) g t cs := (Below.heap_alloc w o g h.lt).trans h
theorem Blk.set_ (h : Blk w g t cs) (i : Nat) (u : Value) : Blk (w.setCell ⟨g, i, none⟩ u) g t (cs.setIfInBounds i u) := by
  unfold Blk at h ⊢
  simp [World.setCell, Array.getElem?_modify, h]
theorem Blk.far (h : Blk w g t cs) {p : Addr} (hp : g ≠ p.block) (u : Value) : Blk (w.setCell p u) g t cs := (Below.heap_setCell w p u g hp).trans h
theorem Blk.below {B : Nat} (h : Blk w g t cs) (hb : Below B w w') (hg : g < B) : Blk w' g t cs := (hb.block g hg).trans h
theorem Blk.grown {row : Option Nat} (h : Blk w g t cs) (hb : w.grownBy w' row) (hg : some g ≠ row) : Blk w' g t cs := (hb.block g h.lt hg).trans h
end
theorem only_drewN {a w : World} {row : Option Nat} (h : a.grownBy w row) (n : Nat) : a.grownBy (w.drewN n) row := ⟨h.os, h.tape, h.output, h.size, h.block⟩
theorem only_drew {a w : World} {row : Option Nat} (h : a.grownBy w row) : a.grownBy w.drew row := ⟨h.os, h.tape, h.output, h.size, h.block⟩
theorem only_alloc {a w : World} {row : Option Nat} (h : a.grownBy w row) (o : Obj) : a.grownBy (w.alloc o) row :=
  ⟨h.os, h.tape, h.output, Nat.le_trans h.size (by simp), fun i hi hne => (Below.heap_alloc w o i (Nat.lt_of_lt_of_le hi h.size)).trans (h.block i hi hne)⟩
theorem only_setCell {a w : World} {g : Nat} (h : a.grownBy w (some g)) {p : Addr} (hp : p.block = g ∨ a.heap.size ≤ p.block) (u : Value) : a.grownBy (w.setCell p u) (some g) :=
  ⟨h.os, h.tape, h.output, by simpa [World.setCell] using h.size, fun i hi hne => (Below.heap_setCell w p u i (by
    rintro rfl
    rcases hp with hp | hp
    · exact hne (by rw [hp])
    · omega)).trans (h.block i hi hne)⟩
theorem only_of_below {a w : World} (h : Below a.heap.size a w) (row : Option Nat) : a.grownBy w row := ⟨h.os, h.tape, h.output, h.size, fun i hi _ => h.block i hi⟩
theorem only_trans {a b c : World} {row : Option Nat} (h : a.grownBy b row) (k : b.grownBy c row) : a.grownBy c row :=
  ⟨k.os.trans h.os, k.tape.trans h.tape, k.output.trans h.output, Nat.le_trans h.size k.size, fun i hi hne => (k.block i (Nat.lt_of_lt_of_le hi h.size) hne).trans (h.block i hi hne)⟩

/-- Bytes as the cells of a block. -/
def encB (bs : List UInt8) : Array Value := (bs.map fun x => Value.int .u8 (x.toNat : Int)).toArray
theorem encB_get (bs : List UInt8) (i : Nat) (h : i < bs.length) : (encB bs)[i]? = some (.int .u8 (bs[i]?.getD 0).toNat) := by
  simp [encB, h]
theorem encB_set (bs : List UInt8) (i : Nat) (x : UInt8) : (encB bs).setIfInBounds i (.int .u8 x.toNat) = encB (bs.set i x) := by
  simp [encB, List.map_set]
theorem byt_of_blk {w : World} {g : Nat} {bs : List UInt8} (h : Blk w g 5 (encB bs)) : Byt w.heap.size w (some ⟨g, 0, none⟩) bs := fun _ =>
  ⟨g, 0, rfl, h.lt, fun j hj => by rw [Nat.zero_add, h.cell j, encB_get bs j hj]⟩
/-- One byte of those that a slice holds. -/
theorem Byt.at_ {n₀ : Nat} {W : World} {A : Option Addr} {bs : List UInt8} (h : Byt n₀ W A bs) {k : Nat} (hk : k < bs.length) :
    ∃ b off, A = some ⟨b, off, none⟩ ∧ b < n₀ ∧ W.cell? ⟨b, off + k, none⟩ = some (.int .u8 (bs[k]?.getD 0).toNat) := by
  obtain ⟨b, off, e, hlt, hc⟩ := h (by rintro rfl; simp at hk)
  exact ⟨b, off, e, hlt, hc k hk⟩

theorem isOne_any (N i : Int) (A : Option Addr) (n c : Nat) (bs : List UInt8) (w : World) (h0 : 0 ≤ i) (h1 : i ≤ 8192) (hn : n = bs.length) (hi : i < 8 * (bs.length : Int)) (hA : Byt w.heap.size w A bs) :
    Calls Tryd.prog 71 #[.agg #[.int .i64 N, .slice A n c], .int .i64 i] w fun e w' => e = .returned (.bool (bitAt bs i.toNat)) ∧ Below w.heap.size w w' := by
  obtain ⟨b, off, rfl, hlt, hc⟩ := hA.at_ (k := (i / 8).toNat) (by omega)
  have e : (i / 8).toNat = i.toNat / 8 := by omega
  unfold bitAt
  rw [← e]
  exact isOne_at N i b off n c _ w h0 h1 (by omega) hc hlt

/-- What Check says of bits. -/
def chk (N : Int) (bs : List UInt8) : Int := if goodB N bs = true then 0 else 10
theorem chk_yes {N : Int} {bs : List UInt8} (h : goodB N bs = true) : chk N bs = 0 := by simp [chk, h]
theorem chk_no {N : Int} {bs : List UInt8} (h : goodB N bs = false) : chk N bs = 10 := by simp [chk, h]

set_option maxRecDepth 4000 in
set_option maxHeartbeats 1000000 in
theorem check_any (N : Int) (A : Option Addr) (n c : Nat) (bs : List UInt8) (w : World) (hn : n = bs.length) (hm : n ≤ maxLen) (hA : Byt w.heap.size w A bs) :
    Calls Tryd.prog 56 #[.agg #[.int .i64 N, .slice A n c]] w fun e w' => e = .returned (.int .i64 (chk N bs)) ∧ Below w.heap.size w w' := by
  unfold maxLen at hm
  by_cases hN0 : N < 0
  · have hr := chk_no (N := N) (bs := bs) (by rw [Bool.eq_false_iff, Ne, good_iff]; omega)
    have hd : decide (N < 0) = true := by simpa using hN0
    rw [hr]; clear hr
    have HH := Lib.hid hn; clear hn
    go_enter Tryd.func56, Tryd.ntmps56
    go_wp2
    go_quiet (fail)
    go_wp2
    go_ret
    exact ⟨rfl, below_drewN ((Below.refl _ _).alloc (Nat.le_refl _) _) _⟩
  have hd0 : decide (N < 0) = false := by simpa using hN0
  by_cases hN1 : 4096 < N
  · have hr := chk_no (N := N) (bs := bs) (by rw [Bool.eq_false_iff, Ne, good_iff]; omega)
    have hd : decide (4096 < N) = true := by simpa using hN1
    rw [hr]; clear hr
    have HH := Lib.hid hn; clear hn
    go_enter Tryd.func56, Tryd.ntmps56
    go_wp2
    go_quiet (fail)
    go_wp2
    go_ret
    exact ⟨rfl, below_drewN ((Below.refl _ _).alloc (Nat.le_refl _) _) _⟩
  have hd1 : decide (4096 < N) = false := by simpa using hN1
  have hN0' : 0 ≤ N := by omega
  have hN1' : N ≤ 4096 := by omega
  clear hN0 hN1
  by_cases hl : (n : Int) = (N + 7) / 8
  · have hlb : ((n : Int) != (N + 7) / 8) = false := by simpa using hl
    have HL := Lib.hid hl
    have hl8 : (n : Int) * 8 ≤ N + 7 := by omega
    have hl9 : N ≤ (n : Int) * 8 := by omega
    clear hl
    have HH := Lib.hid hn; clear hn
    go_enter Tryd.func56, Tryd.ntmps56
    go_wp2
    go_quiet ((go_at_call 70; exact Calls.quiet_of_same ((byteCount_any _ _ hN0' (by omega)).mono fun _ _ ⟨a, b⟩ => ⟨a, b.symm⟩)))
    go_wp2
    go_loopw [3] (fun i wr => ∃ k : Nat, N ≤ k ∧ (k : Int) ≤ n * 8 ∧ i = .int .i64 k ∧ (∀ j : Nat, N ≤ j → j < k → bitAt bs j = false) ∧ Below w.heap.size w wr ∧ wr.cell? ⟨w.heap.size, 0, none⟩ = some (.int .i64 N) ∧ wr.cell? ⟨w.heap.size, 1, none⟩ = some (.slice A n c) ∧ w.heap.size < wr.heap.size)
      (fun i _ => n * 8 - (intOf i).toNat)
    case atStart =>
      exact ⟨N.toNat, by omega, by omega, by rw [Int.toNat_of_nonneg hN0'], fun j h1 h2 => by omega, below_drewN ((Below.refl _ _).alloc (Nat.le_refl _) _) _, by simp, by simp, by simp⟩
    case round =>
      obtain ⟨k, hk0, hk1, rfl, hall, hB, hc0, hc1, hsz⟩ := hrel
      have HALL := Lib.hid hall; clear hall
      by_cases hlt : (k : Int) < n * 8
      · have hcw : ∀ w', Below wr.heap.size wr w' → Below w.heap.size w w' := fun w' h => hB.trans (h.mono hB.size)
        have hone := isOne_any N k A n c bs wr (by omega) (by omega) HH.out (by have := HH.out; omega) ((hA.below hB).mono hB.size)
        rw [Int.toNat_natCast] at hone
        by_cases hbit : bitAt bs k = true
        · rw [hbit] at hone
          have HO := Lib.hid hone; clear hone
          have hr := chk_no (N := N) (bs := bs) (by
            rw [Bool.eq_false_iff, Ne, good_iff]
            rintro ⟨_, _, _, h⟩
            rw [h k hk0] at hbit
            cases hbit)
          have HR := Lib.hid hr; clear hr hbit
          go_wp2_with (go_at_call 71; refine HO.out.mono ?_; rintro e w' ⟨rfl, hb'⟩)
          go_ret
          exact ⟨by rw [HR.out]; rfl, hcw _ hb'⟩
        · rw [Bool.not_eq_true] at hbit
          rw [hbit] at hone
          have HO := Lib.hid hone; clear hone
          have HBIT := Lib.hid hbit; clear hbit
          go_wp2_with (go_at_call 71; refine HO.out.mono ?_; rintro e w' ⟨rfl, hb'⟩; have hc0' := (hb'.cell (p := ⟨w.heap.size, 0, none⟩) hsz).trans hc0; have hc1' := (hb'.cell (p := ⟨w.heap.size, 1, none⟩) hsz).trans hc1)
          go_roundw
          case rel =>
            refine ⟨k + 1, by omega, by omega, by go_num, fun j h1 h2 => ?_, hcw _ hb', hc0', hc1', Nat.lt_of_lt_of_le hsz hb'.size⟩
            rcases Nat.lt_or_ge j k with h | h
            · exact HALL.out j h1 h
            · obtain rfl : j = k := by omega
              exact HBIT.out
          case measure => simp [intOf]; omega
      · have hr := chk_yes (N := N) (bs := bs) (by
          rw [good_iff]
          refine ⟨hN0', hN1', by rw [← HH.out]; exact HL.out, fun j hj => ?_⟩
          rcases Nat.lt_or_ge j k with h | h
          · exact HALL.out j hj h
          · exact bitAt_beyond bs j (by have := HH.out; omega))
        have HR := Lib.hid hr; clear hr
        go_wp2
        go_ret
        exact ⟨by rw [HR.out]; rfl, hB⟩
  · have hlb : ((n : Int) != (N + 7) / 8) = true := by simpa using hl
    have hr := chk_no (N := N) (bs := bs) (by rw [Bool.eq_false_iff, Ne, good_iff]; omega)
    rw [hr]; clear hr hl
    have HH := Lib.hid hn; clear hn
    go_enter Tryd.func56, Tryd.ntmps56
    go_wp2
    go_quiet ((go_at_call 70; exact Calls.quiet_of_same ((byteCount_any _ _ hN0' (by omega)).mono fun _ _ ⟨a, b⟩ => ⟨a, b.symm⟩)))
    go_wp2
    go_ret
    exact ⟨rfl, below_drewN ((Below.refl _ _).alloc (Nat.le_refl _) _) _⟩
end Go.Proofs.YtnmaelefcohogaaDoor

namespace Go.Proofs.YtnmaelefcohogaaDoor
open Go.RowKit

theorem Tryd.info5 : (Tryd.prog.info? 5).map (fun i => (i.zero, i.size, i.bytes)) = some (some (.int .u8 0), 1, 1) := by kernel_rfl
theorem run_make_rowN {P : Program} (t e : TypeId) (i : TypeInfo) (z : Value) (ht : P.underlying t = some (.slice e)) (hi : P.info? e = some i) (hz : i.zero = some z)
    (kl kc : IntKind) (n c : Nat) (hnc : n ≤ c) (hbytes : i.bytes * c ≤ 281474976710656) (h63 : c ≤ 9223372036854775807) (w : World) :
    (Instr.makeSlice t (.int kl (n : Int)) (.int kc (c : Int))).run P w = .ok (.slice (some ⟨w.heap.size, 0, none⟩) n c) (w.alloc (.cells (madeCells z.cells (c * i.size)) e)) := by
  have hb : (i.bytes : Int) * (c : Int) ≤ 281474976710656 := by
    have h : ((i.bytes * c : Nat) : Int) ≤ 281474976710656 := by omega
    rwa [Int.natCast_mul] at h
  have hr := run_make (P := P) w t e i z ht hi hz kl kc n c (by omega) (by omega) hb (by omega)
  simp only [Int.toNat_natCast] at hr
  exact hr
theorem encB_zeros (m : Nat) : madeCells (Value.int .u8 0).cells m = encB (List.replicate m 0) := by
  apply Array.toList_inj.1
  rw [show (Value.int .u8 0).cells = #[.int .u8 0] from rfl, toList_madeCells_one]
  simp [encB]
/-- make([]byte, m), over whatever world. -/
theorem run_make_bytes (m : Nat) (hm : m ≤ 65536) (w : World) :
    (Instr.makeSlice 26 (.int .i64 (m : Int)) (.int .i64 (m : Int))).run Tryd.prog w = .ok (.slice (some ⟨w.heap.size, 0, none⟩) m m) (w.alloc (.cells (encB (List.replicate m 0)) 5)) := by
  obtain ⟨i0, hi, hz0, hz1, hz2⟩ := info_parts Tryd.info5
  have := run_make_rowN (P := Tryd.prog) 26 5 i0 _ Tryd.underlying26 hi hz0 .i64 .i64 m m (Nat.le_refl _) (by rw [hz2]; omega) (by omega) w
  rw [hz1, Nat.mul_one, encB_zeros] at this
  exact this

theorem only_setRow (w : World) (g : Nat) (cs : Array Value) : w.grownBy (w.setRow g cs) (some g) :=
  ⟨rfl, rfl, rfl, by simp, fun i _ hne => setRow_other w g i cs (fun e => hne (by rw [e]))⟩

/-- copy of bytes that came in, over the head of a row of the call's own. -/
theorem run_copy_bytes {P : Program} (w : World) (dT sT ty elem : TypeId) (hu : P.underlying dT = some (.slice elem)) (hsz : (P.info? elem).map (·.size) = some 1)
    (g m m' : Nat) (A : Option Addr) (n c : Nat)
    (cur bs : List UInt8) (hg : Blk w g 5 (encB cur)) (B : Nat) (hA : Byt B w A bs) (hn : n = bs.length) (hm : m = cur.length) (hle : n ≤ m) :
    ∃ w', (Builtin.copy_ #[dT, sT] ty #[.slice (some ⟨g, 0, none⟩) m m', .slice A n c]).run P w = .ok (goInt bs.length) w' ∧ Blk w' g 5 (encB (bs ++ cur.drop bs.length)) ∧ w.grownBy w' (some g) := by
  subst hn
  subst hm
  by_cases h0 : bs = []
  · subst h0
    exact ⟨w, run_copy_none (P := P) w dT sT ty elem _ A _ _ _ _ hu hsz (by simp), by simpa using hg, World.grownBy.refl w _⟩
  · obtain ⟨b, off, rfl, _, hc⟩ := hA h0
    have hlen : (bs.map fun x => Value.int .u8 (x.toNat : Int)).length = bs.length := by simp
    have := run_copy_row (P := P) w dT sT ty elem g 0 cur.length m' ⟨b, off, none⟩ bs.length c (encB cur) 5 (bs.map fun x => Value.int .u8 (x.toNat : Int)) hu hsz hg (by rw [hlen]; exact (Nat.min_eq_left hle).symm) ?_ (by simpa [encB] using hle) ?_
    · rw [hlen] at this
      refine ⟨_, this, ?_, only_setRow w g _⟩
      have := setRow_heap w g (encB cur) ((encB cur).toList.take 0 ++ (bs.map fun x => Value.int .u8 (x.toNat : Int)) ++ (encB cur).toList.drop (0 + bs.length)).toArray 5 (0, 0) hg
      unfold Blk
      rw [this]
      simp [encB]
    · intro j v hj
      have hjl : j < bs.length := by
        rcases Nat.lt_or_ge j bs.length with hl | hl
        · exact hl
        · simp [List.getElem?_eq_none hl] at hj
      have hv : v = .int .u8 ((bs[j]?.getD 0).toNat : Int) := by simpa [hjl, eq_comm] using hj
      rw [hv, ← hc j hjl]
      unfold Addr.add
      split
      · rename_i h; subst h; rfl
      · rfl
    · intro v hv
      obtain ⟨x, _, rfl⟩ := List.mem_map.1 hv
      rfl

end Go.Proofs.YtnmaelefcohogaaDoor

namespace Go.Proofs.YtnmaelefcohogaaDoor
open Go.RowKit

/-! ### A list that is painted from its head on -/
def paint (t : List Bool) (p : Nat) : List Bool := t.take p ++ List.replicate (t.length - p) false
theorem paint_length (t : List Bool) (p : Nat) (h : p ≤ t.length) : (paint t p).length = t.length := by simp [paint]; omega
theorem paint_get (t : List Bool) (p i : Nat) : (paint t p)[i]?.getD false = (decide (i < p) && t[i]?.getD false) := by
  unfold paint
  rw [List.getElem?_append, List.length_take]
  by_cases h : i < p
  · by_cases h2 : i < t.length
    · rw [if_pos (by omega), List.getElem?_take_of_lt h]; simp [h]
    · rw [if_neg (by omega), List.getElem?_replicate, List.getElem?_eq_none (l := t) (by omega)]
      split <;> simp
  · rw [if_neg (by omega), List.getElem?_replicate]
    split <;> simp [h]
theorem paint_full (t : List Bool) : paint t t.length = t := by simp [paint]
theorem paint_zero (t : List Bool) : paint t 0 = List.replicate t.length false := by simp [paint]
theorem paint_app (l r : List Bool) : paint (l ++ r) l.length = l ++ List.replicate r.length false := by simp [paint]
theorem paint_flip {t : List Bool} {p : Nat} {bs : List UInt8} (h : IsBits (paint t p) bs) (hp : p < t.length) (hb : t[p]?.getD false = true) : IsBits (paint t (p + 1)) (flipB bs p) := by
  have hl := paint_length t p (by omega)
  refine ⟨by rw [flipB_length, paint_length t (p + 1) (by omega), h.1, hl], fun i => ?_⟩
  rw [bitAt_flipB bs p i (by rw [h.1, hl]; omega), h.2, paint_get, paint_get]
  by_cases e : p = i
  · subst e; simp [hb]
  · have : decide (i < p + 1) = decide (i < p) := by rw [decide_eq_decide]; omega
    simp [e, this]
theorem paint_stay {t : List Bool} {p : Nat} {bs : List UInt8} (h : IsBits (paint t p) bs) (hp : p < t.length) (hb : t[p]?.getD false = false) : IsBits (paint t (p + 1)) bs := by
  have hl := paint_length t p (by omega)
  refine ⟨by rw [paint_length t (p + 1) (by omega), h.1, hl], fun i => ?_⟩
  rw [h.2, paint_get, paint_get]
  by_cases e : p = i
  · subst e; simp [hb]
  · have : decide (i < p + 1) = decide (i < p) := by rw [decide_eq_decide]; omega
    simp [this]

/-- The bytes lie in a block from B on. -/
def Fresh (B : Nat) (A : Option Addr) (bs : List UInt8) : Prop := ∀ a, A = some a → bs ≠ [] → B ≤ a.block
theorem Byt.set_low {n₀ B : Nat} {W : World} {A : Option Addr} {bs : List UInt8} (h : Byt n₀ W A bs) (hf : Fresh B A bs) {p : Addr} (hp : p.block < B) (u : Value) : Byt n₀ (W.setCell p u) A bs := fun hn => by
  obtain ⟨b, off, rfl, hlt, hc⟩ := h hn
  have hb := hf _ rfl hn
  exact ⟨b, off, rfl, hlt, fun j hj => (World.cell?_setCell_other W p _ u (fun e => by subst e; simp at hp hb; omega)).trans (hc j hj)⟩
/-- What a call answers: an error's number and bits, in memory that it may have made; all that was there stays. -/
def Res (w : World) (r : Int × List Bool) (e : Ending) (w' : World) : Prop :=
  ∃ (A : Option Addr) (n c : Nat) (bs : List UInt8), e = .returned (.tuple #[.agg #[.int .i64 r.2.length, .slice A n c], .int .i64 r.1]) ∧ n = bs.length ∧ IsBits r.2 bs ∧ r.2.length ≤ 4096 ∧ Byt w'.heap.size w' A bs ∧ Below w.heap.size w w' ∧ Fresh w.heap.size A bs
theorem res_err {w w' : World} (k : Int) (h : Below w.heap.size w w') : Res w (k, []) (.returned (.tuple #[.agg #[.int .i64 0, .slice none 0 0], .int .i64 k])) w' :=
  ⟨none, 0, 0, [], rfl, rfl, isBits_nil, by simp, fun h => absurd rfl h, h, fun _ _ h => absurd rfl h⟩

/-- A box of two cells. -/
theorem Blk.two {w : World} {g : Nat} {t : TypeId} {a b : Value} (h : Blk w g t #[a, b]) : w.cell? ⟨g, 0, none⟩ = some a ∧ w.cell? ⟨g, 1, none⟩ = some b ∧ w.frozen? ⟨g, 0, none⟩ = false ∧ w.frozen? ⟨g, 1, none⟩ = false :=
  ⟨by simpa using h.cell 0, by simpa using h.cell 1, h.frozen 0, h.frozen 1⟩
theorem Blk.put2 {w : World} {g : Nat} {t : TypeId} {a b : Value} (h : Blk w g t #[a, b]) (x y : Value) : Blk ((w.setCell ⟨g, 0, none⟩ x).setCell ⟨g, 1, none⟩ y) g t #[x, y] := by
  simpa using (h.set_ 0 x).set_ 1 y
/-- Two boxes laid by a call, behind a callee that keeps all that was there. -/
theorem boxes2 {w w1 : World} {a0 a1 b0 b1 : Value} (hB : Below ((w.alloc (.cells #[a0, a1] 68)).alloc (.cells #[b0, b1] 68)).heap.size ((w.alloc (.cells #[a0, a1] 68)).alloc (.cells #[b0, b1] 68)) w1) :
    Blk w1 w.heap.size 68 #[a0, a1] ∧ Blk w1 (w.heap.size + 1) 68 #[b0, b1] ∧ w.heap.size + 2 ≤ w1.heap.size ∧ Below w.heap.size w w1 := by
  have h1 : Blk ((w.alloc (.cells #[a0, a1] 68)).alloc (.cells #[b0, b1] 68)) w.heap.size 68 #[a0, a1] := (Blk.new w 68 _).alloc _
  have h2 : Blk ((w.alloc (.cells #[a0, a1] 68)).alloc (.cells #[b0, b1] 68)) (w.heap.size + 1) 68 #[b0, b1] := by
    simpa using Blk.new (w.alloc (.cells #[a0, a1] 68)) 68 #[b0, b1]
  exact ⟨h1.below hB h1.lt, h2.below hB h2.lt, by have := hB.size; simpa using this, (((Below.refl _ _).alloc (Nat.le_refl _) _).alloc (by simp) _).trans (hB.mono (by simp; omega))⟩

theorem bit_test (v j : Nat) (hv : v < 2 ^ 64) : (bits .and .u64 ((v : Int) / 2 ^ j) 1 == 1) = v.testBit j := by
  have e : ((v : Int) / 2 ^ j) = ((v / 2 ^ j : Nat) : Int) := by norm_cast
  have hle : v / 2 ^ j ≤ v := Nat.div_le_self _ _
  rw [e, show (1 : Int) = ((1 : Nat) : Int) from rfl, u64_and_nat _ _ (by omega) (by omega), nat_mask1, Nat.testBit_eq_decide_div_mod_eq]
  rcases Nat.mod_two_eq_zero_or_one (v / 2 ^ j) with h | h <;> rw [h] <;> rfl
theorem numBits_get (l : List Bool) (v W N k : Nat) (hl : l.length = N) (hk : k < W) : (l ++ numBits v W)[N + k]?.getD false = v.testBit (W - 1 - k) := by
  subst hl
  rw [List.getElem?_append_right (by omega)]
  simp [numBits, hk]

/-- Bits under way: the row g, its box ob, painted up to p; all that was there stays. -/
structure OutRel (w : World) (g ob m : Nat) (t : List Bool) (p : Nat) (bs : List UInt8) (wr : World) : Prop where
  is_ : IsBits (paint t p) bs
  len : bs.length = m
  row : Blk wr g 5 (encB bs)
  box : Blk wr ob 68 #[.int .i64 (t.length : Int), .slice (some ⟨g, 0, none⟩) m m]
  low : Below w.heap.size w wr
  ge : w.heap.size ≤ g
  lt : g < ob
theorem OutRel.turned {w wr wr' : World} {g ob m p : Nat} {t : List Bool} {bs : List UInt8} (h : OutRel w g ob m t p bs wr) (hp : p < t.length) (hb : t[p]?.getD false = true) (hr : Blk wr' g 5 (encB (flipB bs p))) (hg : wr.grownBy wr' (some g)) :
    OutRel w g ob m t (p + 1) (flipB bs p) wr' :=
  ⟨paint_flip h.is_ hp hb, by rw [flipB_length]; exact h.len, hr, h.box.grown hg (by have := h.lt; simp; omega), h.low.grown hg h.low.size (fun k e => by injection e with e; have := h.ge; omega), h.ge, h.lt⟩
theorem OutRel.stayed {w wr : World} {g ob m p : Nat} {t : List Bool} {bs : List UInt8} (h : OutRel w g ob m t p bs wr) (hp : p < t.length) (hb : t[p]?.getD false = false) : OutRel w g ob m t (p + 1) bs wr :=
  ⟨paint_stay h.is_ hp hb, h.len, h.row, h.box, h.low, h.ge, h.lt⟩

/-- Put, by the document. -/
def putS (N : Int) (bs : List UInt8) (v : Nat) (width : Int) : Int × List Bool :=
  if goodB N bs = true then
    if (0 ≤ width ∧ width ≤ 64) ∧ v / 2 ^ width.toNat = 0 then
      if 4096 - N < width then (3, []) else (0, listOf N bs ++ numBits v width.toNat)
    else (2, [])
  else (10, [])

end Go.Proofs.YtnmaelefcohogaaDoor

namespace Go.Proofs.YtnmaelefcohogaaDoor
open Go.RowKit

/-- Get, by the document. -/
def getS (N : Int) (bs : List UInt8) (at_ width : Int) : Int × Nat :=
  if goodB N bs = true then
    if (0 ≤ width ∧ width ≤ 64) ∧ 0 ≤ at_ ∧ at_ ≤ N - width then (0, numOf (((listOf N bs).drop at_.toNat).take width.toNat))
    else (2, 0)
  else (10, 0)
/-- What it answers. -/
def Num (w : World) (r : Int × Nat) (e : Ending) (w' : World) : Prop := e = .returned (.tuple #[.int .u64 r.2, .int .i64 r.1]) ∧ Below w.heap.size w w'

/-- A box laid by a call, behind a callee that keeps all that was there. -/
theorem boxes1 {w w1 : World} {a0 a1 : Value} (hB : Below (w.alloc (.cells #[a0, a1] 68)).heap.size (w.alloc (.cells #[a0, a1] 68)) w1) :
    Blk w1 w.heap.size 68 #[a0, a1] ∧ w.heap.size + 1 ≤ w1.heap.size ∧ Below w.heap.size w w1 := by
  have h1 : Blk (w.alloc (.cells #[a0, a1] 68)) w.heap.size 68 #[a0, a1] := Blk.new w 68 _
  exact ⟨h1.below hB h1.lt, by have := hB.size; simpa using this, ((Below.refl _ _).alloc (Nat.le_refl _) _).trans (hB.mono (by simp))⟩

theorem u64_twice (x : Nat) (h : 2 * x < 2 ^ 64) : IntKind.u64.wrap ((x : Int) * 2) = ((2 * x : Nat) : Int) := by
  rw [IntKind.wrap_u64]; omega
theorem u64_or1 (x : Nat) (h : 2 * x < 2 ^ 64) : bits .or .u64 ((2 * x : Nat) : Int) 1 = ((2 * x + 1 : Nat) : Int) := by
  rw [show (1 : Int) = ((1 : Nat) : Int) from rfl, u64_or_nat _ _ (by omega) (by omega)]
  rw [nat_join 1 (2 * x) 1 (by omega) (by omega)]
theorem take_snoc_get (l : List Bool) (a k : Nat) (h : a + k < l.length) : (l.drop a).take (k + 1) = (l.drop a).take k ++ [l[a + k]?.getD false] := by
  rw [List.take_add_one, List.getElem?_drop, List.getElem?_eq_getElem h]
  rfl
theorem num_small (l : List Bool) (k : Nat) (h : k < 64) : 2 * numOf (l.take k) < 2 ^ 64 := by
  have h1 := numOf_lt (l.take k)
  have h2 : (l.take k).length ≤ k := List.length_take_le _ _
  have h3 : 2 ^ (l.take k).length ≤ 2 ^ 63 := Nat.pow_le_pow_right (by omega) (by omega)
  omega

set_option maxRecDepth 4000 in
set_option maxHeartbeats 1000000 in
theorem get_any (N at_ width : Int) (A : Option Addr) (n c : Nat) (bs : List UInt8) (w : World) (hn : n = bs.length) (hm : n ≤ maxLen) (hA : Byt w.heap.size w A bs) :
    Calls Tryd.prog 72 #[.agg #[.int .i64 N, .slice A n c], .int .i64 at_, .int .i64 width] w (Num w (getS N bs at_ width)) := by
  have HA := Lib.hid hA
  have HN := Lib.hid hn; clear hn
  have hck := fun w1 (h : Below w.heap.size w w1) => check_any N A n c bs w1 HN.out hm ((hA.below h).mono h.size)
  have HCK := Lib.hid hck; clear hck hA
  unfold maxLen at hm
  by_cases hgood : goodB N bs = true
  · obtain ⟨hg0, hg1, hg2, hg3⟩ := (good_iff N bs).1 hgood
    clear hg3
    have hk := chk_yes hgood
    have HK := Lib.hid hk; clear hk
    by_cases hwid : 0 ≤ width ∧ width ≤ 64
    · obtain ⟨hw0, hw1⟩ := hwid
      by_cases hat : 0 ≤ at_ ∧ at_ ≤ N - width
      · obtain ⟨ha0, ha1⟩ := hat
        have hr : getS N bs at_ width = (0, numOf (((listOf N bs).drop at_.toNat).take width.toNat)) := by simp [getS, hgood, hw0, hw1, ha0, ha1]
        rw [hr]; clear hr
        have hib := good_isBits hgood
        have hll : (listOf N bs).length = N.toNat := listOf_length N bs
        generalize hl : listOf N bs = l at *
        have HG2 := Lib.hid hg2; clear hg2
        have HIB := Lib.hid hib; clear hib
        have HLL := Lib.hid hll; clear hll hl hgood
        have hd1 : decide (at_ < 0) = false := by simpa using ha0
        have hd2 : decide (N - width < at_) = false := by simpa using ha1
        go_enter Tryd.func72, Tryd.ntmps72
        go_wp2_with (first
            | (go_at_call 56; refine (HCK.out _ ((Below.refl _ _).alloc (Nat.le_refl _) _)).mono ?_; rintro e w1 ⟨rfl, hB⟩; rw [HK.out]; obtain ⟨k1, hs, hBw⟩ := boxes1 hB; obtain ⟨c1, c2, f1, f2⟩ := k1.two)
            | (go_at_call 79; refine (isWidth_yes _ _ hw0 hw1).mono ?_; rintro e w2 ⟨rfl, rfl⟩))
        go_loopw [8, 29] (fun v i wr => ∃ k : Nat, (k : Int) ≤ width ∧ i = .int .i64 k ∧ v = .int .u64 (numOf ((l.drop at_.toNat).take k)) ∧ Blk wr w.heap.size 68 #[.int .i64 N, .slice A n c] ∧ Below w.heap.size w wr)
          (fun _ i _ => width.toNat - (intOf i).toNat)
        case atStart => exact ⟨0, by omega, rfl, rfl, k1, hBw⟩
        case round =>
          obtain ⟨k, hk, rfl, rfl, q1, hBr⟩ := hrel
          obtain ⟨c3, c4, f3, f4⟩ := q1.two
          clear c1 c2 f1 f2 k1 hB
          by_cases hlt : (k : Int) < width
          · have hsm := num_small (l.drop at_.toNat) k (by omega)
            have hts := take_snoc_get l at_.toNat k (by have := HLL.out; omega)
            have hone := isOne_any N (at_ + k) A n c bs wr (by omega) (by omega) HN.out (by have := HG2.out; omega) ((HA.out.below hBr).mono hBr.size)
            rw [HIB.out.2, show (at_ + (k : Int)).toNat = at_.toNat + k by omega] at hone
            have hnx : numOf ((l.drop at_.toNat).take (k + 1)) = 2 * numOf ((l.drop at_.toNat).take k) + (l[at_.toNat + k]?.getD false).toNat := by rw [hts, numOf_snoc]
            generalize numOf ((l.drop at_.toNat).take k) = x at *
            have hwx := u64_twice x hsm
            have hor := u64_or1 x hsm
            obtain ⟨y, hy⟩ : ∃ y, y = 2 * x := ⟨_, rfl⟩
            rw [← hy] at hwx hor hnx
            obtain ⟨z, hz⟩ : ∃ z, z = y + 1 := ⟨_, rfl⟩
            rw [← hz] at hor
            clear hts hsm
            have HY := Lib.hid hy; clear hy
            have HZ := Lib.hid hz; clear hz
            by_cases hb : l[at_.toNat + k]?.getD false = true
            · rw [hb] at hone hnx
              have HO := Lib.hid hone; have HX := Lib.hid hnx; clear hone hnx hb
              go_wp2_with (go_at_call 71; refine HO.out.mono ?_; rintro e w3 ⟨rfl, hb3⟩)
              go_roundw
              case rel => exact ⟨k + 1, by omega, by go_num, by rw [HX.out, HZ.out]; rfl, q1.below hb3 q1.lt, hBr.trans (hb3.mono hBr.size)⟩
              case measure => simp [intOf]; omega
            · rw [Bool.not_eq_true] at hb
              rw [hb] at hone hnx
              have HO := Lib.hid hone; have HX := Lib.hid hnx; clear hone hnx hb
              go_wp2_with (go_at_call 71; refine HO.out.mono ?_; rintro e w3 ⟨rfl, hb3⟩)
              go_roundw
              case rel => exact ⟨k + 1, by omega, by go_num, by rw [HX.out]; rfl, q1.below hb3 q1.lt, hBr.trans (hb3.mono hBr.size)⟩
              case measure => simp [intOf]; omega
          · go_wp2
            go_ret2
            exact ⟨by rw [show width.toNat = k by omega]; rfl, hBr⟩
      · have hr : getS N bs at_ width = (2, 0) := by simp [getS, hgood, hat]
        rw [hr]; clear hr hgood
        have HG2 := Lib.hid hg2; clear hg2
        by_cases ha0 : at_ < 0
        · have hd1 : decide (at_ < 0) = true := by simpa using ha0
          clear hat
          go_enter Tryd.func72, Tryd.ntmps72
          go_wp2_with (first
            | (go_at_call 56; refine (HCK.out _ ((Below.refl _ _).alloc (Nat.le_refl _) _)).mono ?_; rintro e w1 ⟨rfl, hB⟩; rw [HK.out]; obtain ⟨k1, hs, hBw⟩ := boxes1 hB; obtain ⟨c1, c2, f1, f2⟩ := k1.two)
            | (go_at_call 79; refine (isWidth_yes _ _ hw0 hw1).mono ?_; rintro e w2 ⟨rfl, rfl⟩))
          go_ret2
          exact ⟨rfl, hBw⟩
        · have hd1 : decide (at_ < 0) = false := by simpa using ha0
          have hd2 : decide (N - width < at_) = true := by simp; omega
          clear hat
          go_enter Tryd.func72, Tryd.ntmps72
          go_wp2_with (first
            | (go_at_call 56; refine (HCK.out _ ((Below.refl _ _).alloc (Nat.le_refl _) _)).mono ?_; rintro e w1 ⟨rfl, hB⟩; rw [HK.out]; obtain ⟨k1, hs, hBw⟩ := boxes1 hB; obtain ⟨c1, c2, f1, f2⟩ := k1.two)
            | (go_at_call 79; refine (isWidth_yes _ _ hw0 hw1).mono ?_; rintro e w2 ⟨rfl, rfl⟩))
          go_ret2
          exact ⟨rfl, hBw⟩
    · have hr : getS N bs at_ width = (2, 0) := by simp [getS, hgood, hwid]
      rw [hr]; clear hr hgood
      have HG2 := Lib.hid hg2; clear hg2
      have HW := Lib.hid hwid; clear hwid
      go_enter Tryd.func72, Tryd.ntmps72
      go_wp2_with (first
            | (go_at_call 56; refine (HCK.out _ ((Below.refl _ _).alloc (Nat.le_refl _) _)).mono ?_; rintro e w1 ⟨rfl, hB⟩; rw [HK.out]; obtain ⟨k1, hs, hBw⟩ := boxes1 hB; obtain ⟨c1, c2, f1, f2⟩ := k1.two)
            | (go_at_call 79; refine (isWidth_no _ _ HW.out).mono ?_; rintro e w2 ⟨rfl, rfl⟩))
      go_ret2
      exact ⟨rfl, hBw⟩
  · have hr : getS N bs at_ width = (10, 0) := by simp [getS, hgood]
    have hk := chk_no (N := N) (bs := bs) (by simpa using hgood)
    rw [hr]; clear hr hgood
    have HK := Lib.hid hk; clear hk
    go_enter Tryd.func72, Tryd.ntmps72
    go_wp2_with (first
            | (go_at_call 56; refine (HCK.out _ ((Below.refl _ _).alloc (Nat.le_refl _) _)).mono ?_; rintro e w1 ⟨rfl, hB⟩; rw [HK.out]; obtain ⟨k1, hs, hBw⟩ := boxes1 hB; obtain ⟨c1, c2, f1, f2⟩ := k1.two))
    go_ret2
    exact ⟨rfl, hBw⟩
end Go.Proofs.YtnmaelefcohogaaDoor
