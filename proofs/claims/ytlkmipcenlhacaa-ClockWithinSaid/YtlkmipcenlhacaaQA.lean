/-
  Contracts of turn and Check of package bits: which bits may be. Conditions: those that each theorem names.
  Contracts of zeros and grown of package bits: bytes in memory of the call itself. Conditions: those that each theorem names.
  Put of package bits answers as the document says, for all bits, numbers and widths. No condition but that the bytes can be read.
  Get of package bits answers as the document says, for all bits, places and widths. No condition but that the bytes can be read.
-/
import Derived.Test.YtlkmipcenlhacaaE1
import Derived.StillTailTactics
import Derived.Deep.RegionWith
import Derived.Deep.RegionHeld3
import Derived.Laws.MakeOwn
import Derived.Laws.Rows
import Derived.Lib.Hide
import Derived.Laws.CopyOwn
namespace Go.Proofs.Ytlkmipcenlhacaa
open Go.RowKit

/-! ### Blocks known whole -/
def Blk (w : World) (g : Nat) (t : TypeId) (cs : Array Value) : Prop := w.heap[g]? = some (.cells cs t (0, 0))
section
variable {w w' : World} {g : Nat} {t : TypeId} {cs : Array Value}
theorem Blk.lt (h : Blk w g t cs) : g < w.heap.size := by
  rcases Nat.lt_or_ge g w.heap.size with hlt | hge
  · exact hlt
  · unfold Blk at h; rw [Array.getElem?_eq_none hge] at h; cases h
theorem Blk.cell (h : Blk w g t cs) (i : Nat) : w.cell? ⟨g, i, none⟩ = cs[i]? := cell_of_row w g i cs t (0, 0) h
theorem Blk.frozen (h : Blk w g t cs) (i : Nat) : w.frozen? ⟨g, i, none⟩ = false := by
  unfold Blk at h
  simp [World.frozen?, h]
theorem Blk.new (w : World) (t : TypeId) (cs : Array Value) : Blk (w.alloc (.cells cs t)) w.heap.size t cs := heap_alloc_new w _
theorem Blk.drew (h : Blk w g t cs) : Blk w.drew g t cs := h
theorem Blk.drewN (h : Blk w g t cs) (n : Nat) : Blk (w.drewN n) g t cs := h
theorem Blk.alloc (h : Blk w g t cs) (o : Obj) : Blk (w.alloc o) g t cs := (Below.heap_alloc w o g h.lt).trans h
theorem Blk.set_ (h : Blk w g t cs) (i : Nat) (u : Value) : Blk (w.setCell ⟨g, i, none⟩ u) g t (cs.setIfInBounds i u) := by
  unfold Blk at h ⊢
  simp [World.setCell, Array.getElem?_modify, h]
theorem Blk.far (h : Blk w g t cs) {p : Addr} (hp : g ≠ p.block) (u : Value) : Blk (w.setCell p u) g t cs := (Below.heap_setCell w p u g hp).trans h
theorem Blk.below {B : Nat} (h : Blk w g t cs) (hb : Below B w w') (hg : g < B) : Blk w' g t cs := (hb.block g hg).trans h
theorem Blk.grown {row : Option Nat} (h : Blk w g t cs) (hb : w.grownBy w' row) (hg : some g ≠ row) : Blk w' g t cs := (hb.block g h.lt hg).trans h
end
theorem only_drewN {a w : World} {row : Option Nat} (h : a.grownBy w row) (n : Nat) : a.grownBy (w.drewN n) row := ⟨h.os, h.tape, h.output, h.size, h.block⟩
theorem only_drew {a w : World} {row : Option Nat} (h : a.grownBy w row) : a.grownBy w.drew row := ⟨h.os, h.tape, h.output, h.size, h.block⟩
theorem only_alloc {a w : World} {row : Option Nat} (h : a.grownBy w row) (o : Obj) : a.grownBy (w.alloc o) row :=
  ⟨h.os, h.tape, h.output, Nat.le_trans h.size (by simp), fun i hi hne => (Below.heap_alloc w o i (Nat.lt_of_lt_of_le hi h.size)).trans (h.block i hi hne)⟩
theorem only_setCell {a w : World} {g : Nat} (h : a.grownBy w (some g)) {p : Addr} (hp : p.block = g ∨ a.heap.size ≤ p.block) (u : Value) : a.grownBy (w.setCell p u) (some g) :=
  ⟨h.os, h.tape, h.output, by simpa [World.setCell] using h.size, fun i hi hne => (Below.heap_setCell w p u i (by
    rintro rfl
    rcases hp with hp | hp
    · exact hne (by rw [hp])
    · omega)).trans (h.block i hi hne)⟩
theorem only_of_below {a w : World} (h : Below a.heap.size a w) (row : Option Nat) : a.grownBy w row := ⟨h.os, h.tape, h.output, h.size, fun i hi _ => h.block i hi⟩
theorem only_trans {a b c : World} {row : Option Nat} (h : a.grownBy b row) (k : b.grownBy c row) : a.grownBy c row :=
  ⟨k.os.trans h.os, k.tape.trans h.tape, k.output.trans h.output, Nat.le_trans h.size k.size, fun i hi hne => (k.block i (Nat.lt_of_lt_of_le hi h.size) hne).trans (h.block i hi hne)⟩

/-- Bytes as the cells of a block. -/
def encB (bs : List UInt8) : Array Value := (bs.map fun x => Value.int .u8 (x.toNat : Int)).toArray
theorem encB_get (bs : List UInt8) (i : Nat) (h : i < bs.length) : (encB bs)[i]? = some (.int .u8 (bs[i]?.getD 0).toNat) := by
  simp [encB, h]
theorem encB_set (bs : List UInt8) (i : Nat) (x : UInt8) : (encB bs).setIfInBounds i (.int .u8 x.toNat) = encB (bs.set i x) := by
  simp [encB, List.map_set]
theorem byt_of_blk {w : World} {g : Nat} {bs : List UInt8} (h : Blk w g 5 (encB bs)) : Byt w.heap.size w (some ⟨g, 0, none⟩) bs := fun _ =>
  ⟨g, 0, rfl, h.lt, fun j hj => by rw [Nat.zero_add, h.cell j, encB_get bs j hj]⟩
/-- One byte of those that a slice holds. -/
theorem Byt.at_ {n₀ : Nat} {W : World} {A : Option Addr} {bs : List UInt8} (h : Byt n₀ W A bs) {k : Nat} (hk : k < bs.length) :
    ∃ b off, A = some ⟨b, off, none⟩ ∧ b < n₀ ∧ W.cell? ⟨b, off + k, none⟩ = some (.int .u8 (bs[k]?.getD 0).toNat) := by
  obtain ⟨b, off, e, hlt, hc⟩ := h (by rintro rfl; simp at hk)
  exact ⟨b, off, e, hlt, hc k hk⟩

/-- What Check says of bits. -/
def chk (N : Int) (bs : List UInt8) : Int := if goodB N bs = true then 0 else 10
theorem chk_yes {N : Int} {bs : List UInt8} (h : goodB N bs = true) : chk N bs = 0 := by simp [chk, h]
theorem chk_no {N : Int} {bs : List UInt8} (h : goodB N bs = false) : chk N bs = 10 := by simp [chk, h]

end Go.Proofs.Ytlkmipcenlhacaa

namespace Go.Proofs.Ytlkmipcenlhacaa
open Go.RowKit

theorem Try.info5 : (Try.prog.info? 5).map (fun i => (i.zero, i.size, i.bytes)) = some (some (.int .u8 0), 1, 1) := by kernel_rfl
theorem run_make_rowN {P : Program} (t e : TypeId) (i : TypeInfo) (z : Value) (ht : P.underlying t = some (.slice e)) (hi : P.info? e = some i) (hz : i.zero = some z)
    (kl kc : IntKind) (n c : Nat) (hnc : n ≤ c) (hbytes : i.bytes * c ≤ 281474976710656) (h63 : c ≤ 9223372036854775807) (w : World) :
    (Instr.makeSlice t (.int kl (n : Int)) (.int kc (c : Int))).run P w = .ok (.slice (some ⟨w.heap.size, 0, none⟩) n c) (w.alloc (.cells (madeCells z.cells (c * i.size)) e)) := by
  have hb : (i.bytes : Int) * (c : Int) ≤ 281474976710656 := by
    have h : ((i.bytes * c : Nat) : Int) ≤ 281474976710656 := by omega
    rwa [Int.natCast_mul] at h
  have hr := run_make (P := P) w t e i z ht hi hz kl kc n c (by omega) (by omega) hb (by omega)
  simp only [Int.toNat_natCast] at hr
  exact hr
theorem encB_zeros (m : Nat) : madeCells (Value.int .u8 0).cells m = encB (List.replicate m 0) := by
  apply Array.toList_inj.1
  rw [show (Value.int .u8 0).cells = #[.int .u8 0] from rfl, toList_madeCells_one]
  simp [encB]
theorem only_setRow (w : World) (g : Nat) (cs : Array Value) : w.grownBy (w.setRow g cs) (some g) :=
  ⟨rfl, rfl, rfl, by simp, fun i _ hne => setRow_other w g i cs (fun e => hne (by rw [e]))⟩

/-- copy of bytes that came in, over the head of a row of the call's own. -/
theorem run_copy_bytes {P : Program} (w : World) (dT sT ty elem : TypeId) (hu : P.underlying dT = some (.slice elem)) (hsz : (P.info? elem).map (·.size) = some 1)
    (g m m' : Nat) (A : Option Addr) (n c : Nat)
    (cur bs : List UInt8) (hg : Blk w g 5 (encB cur)) (B : Nat) (hA : Byt B w A bs) (hn : n = bs.length) (hm : m = cur.length) (hle : n ≤ m) :
    ∃ w', (Builtin.copy_ #[dT, sT] ty #[.slice (some ⟨g, 0, none⟩) m m', .slice A n c]).run P w = .ok (goInt bs.length) w' ∧ Blk w' g 5 (encB (bs ++ cur.drop bs.length)) ∧ w.grownBy w' (some g) := by
  subst hn
  subst hm
  by_cases h0 : bs = []
  · subst h0
    exact ⟨w, run_copy_none (P := P) w dT sT ty elem _ A _ _ _ _ hu hsz (by simp), by simpa using hg, World.grownBy.refl w _⟩
  · obtain ⟨b, off, rfl, _, hc⟩ := hA h0
    have hlen : (bs.map fun x => Value.int .u8 (x.toNat : Int)).length = bs.length := by simp
    have := run_copy_row (P := P) w dT sT ty elem g 0 cur.length m' ⟨b, off, none⟩ bs.length c (encB cur) 5 (bs.map fun x => Value.int .u8 (x.toNat : Int)) hu hsz hg (by rw [hlen]; exact (Nat.min_eq_left hle).symm) ?_ (by simpa [encB] using hle) ?_
    · rw [hlen] at this
      refine ⟨_, this, ?_, only_setRow w g _⟩
      have := setRow_heap w g (encB cur) ((encB cur).toList.take 0 ++ (bs.map fun x => Value.int .u8 (x.toNat : Int)) ++ (encB cur).toList.drop (0 + bs.length)).toArray 5 (0, 0) hg
      unfold Blk
      rw [this]
      simp [encB]
    · intro j v hj
      have hjl : j < bs.length := by
        rcases Nat.lt_or_ge j bs.length with hl | hl
        · exact hl
        · simp [List.getElem?_eq_none hl] at hj
      have hv : v = .int .u8 ((bs[j]?.getD 0).toNat : Int) := by simpa [hjl, eq_comm] using hj
      rw [hv, ← hc j hjl]
      unfold Addr.add
      split
      · rename_i h; subst h; rfl
      · rfl
    · intro v hv
      obtain ⟨x, _, rfl⟩ := List.mem_map.1 hv
      rfl

end Go.Proofs.Ytlkmipcenlhacaa

namespace Go.Proofs.Ytlkmipcenlhacaa
open Go.RowKit

/-! ### A list that is painted from its head on -/
def paint (t : List Bool) (p : Nat) : List Bool := t.take p ++ List.replicate (t.length - p) false
theorem paint_length (t : List Bool) (p : Nat) (h : p ≤ t.length) : (paint t p).length = t.length := by simp [paint]; omega
theorem paint_get (t : List Bool) (p i : Nat) : (paint t p)[i]?.getD false = (decide (i < p) && t[i]?.getD false) := by
  unfold paint
  rw [List.getElem?_append, List.length_take]
  by_cases h : i < p
  · by_cases h2 : i < t.length
    · rw [if_pos (by omega), List.getElem?_take_of_lt h]; simp [h]
    · rw [if_neg (by omega), List.getElem?_replicate, List.getElem?_eq_none (l := t) (by omega)]
      split <;> simp
  · rw [if_neg (by omega), List.getElem?_replicate]
    split <;> simp [h]
theorem paint_full (t : List Bool) : paint t t.length = t := by simp [paint]
theorem paint_zero (t : List Bool) : paint t 0 = List.replicate t.length false := by simp [paint]
theorem paint_app (l r : List Bool) : paint (l ++ r) l.length = l ++ List.replicate r.length false := by simp [paint]
theorem paint_flip {t : List Bool} {p : Nat} {bs : List UInt8} (h : IsBits (paint t p) bs) (hp : p < t.length) (hb : t[p]?.getD false = true) : IsBits (paint t (p + 1)) (flipB bs p) := by
  have hl := paint_length t p (by omega)
  refine ⟨by rw [flipB_length, paint_length t (p + 1) (by omega), h.1, hl], fun i => ?_⟩
  rw [bitAt_flipB bs p i (by rw [h.1, hl]; omega), h.2, paint_get, paint_get]
  by_cases e : p = i
  · subst e; simp [hb]
  · have : decide (i < p + 1) = decide (i < p) := by rw [decide_eq_decide]; omega
    simp [e, this]
theorem paint_stay {t : List Bool} {p : Nat} {bs : List UInt8} (h : IsBits (paint t p) bs) (hp : p < t.length) (hb : t[p]?.getD false = false) : IsBits (paint t (p + 1)) bs := by
  have hl := paint_length t p (by omega)
  refine ⟨by rw [paint_length t (p + 1) (by omega), h.1, hl], fun i => ?_⟩
  rw [h.2, paint_get, paint_get]
  by_cases e : p = i
  · subst e; simp [hb]
  · have : decide (i < p + 1) = decide (i < p) := by rw [decide_eq_decide]; omega
    simp [this]

/-- The bytes lie in a block from B on. -/
def Fresh (B : Nat) (A : Option Addr) (bs : List UInt8) : Prop := ∀ a, A = some a → bs ≠ [] → B ≤ a.block
theorem Byt.set_low {n₀ B : Nat} {W : World} {A : Option Addr} {bs : List UInt8} (h : Byt n₀ W A bs) (hf : Fresh B A bs) {p : Addr} (hp : p.block < B) (u : Value) : Byt n₀ (W.setCell p u) A bs := fun hn => by
  obtain ⟨b, off, rfl, hlt, hc⟩ := h hn
  have hb := hf _ rfl hn
  exact ⟨b, off, rfl, hlt, fun j hj => (World.cell?_setCell_other W p _ u (fun e => by subst e; simp at hp hb; omega)).trans (hc j hj)⟩
/-- What a call answers: an error's number and bits, in memory that it may have made; all that was there stays. -/
def Res (w : World) (r : Int × List Bool) (e : Ending) (w' : World) : Prop :=
  ∃ (A : Option Addr) (n c : Nat) (bs : List UInt8), e = .returned (.tuple #[.agg #[.int .i64 r.2.length, .slice A n c], .int .i64 r.1]) ∧ n = bs.length ∧ IsBits r.2 bs ∧ r.2.length ≤ 4096 ∧ Byt w'.heap.size w' A bs ∧ Below w.heap.size w w' ∧ Fresh w.heap.size A bs
theorem res_err {w w' : World} (k : Int) (h : Below w.heap.size w w') : Res w (k, []) (.returned (.tuple #[.agg #[.int .i64 0, .slice none 0 0], .int .i64 k])) w' :=
  ⟨none, 0, 0, [], rfl, rfl, isBits_nil, by simp, fun h => absurd rfl h, h, fun _ _ h => absurd rfl h⟩

/-- A box of two cells. -/
theorem Blk.two {w : World} {g : Nat} {t : TypeId} {a b : Value} (h : Blk w g t #[a, b]) : w.cell? ⟨g, 0, none⟩ = some a ∧ w.cell? ⟨g, 1, none⟩ = some b ∧ w.frozen? ⟨g, 0, none⟩ = false ∧ w.frozen? ⟨g, 1, none⟩ = false :=
  ⟨by simpa using h.cell 0, by simpa using h.cell 1, h.frozen 0, h.frozen 1⟩
theorem Blk.put2 {w : World} {g : Nat} {t : TypeId} {a b : Value} (h : Blk w g t #[a, b]) (x y : Value) : Blk ((w.setCell ⟨g, 0, none⟩ x).setCell ⟨g, 1, none⟩ y) g t #[x, y] := by
  simpa using (h.set_ 0 x).set_ 1 y
theorem bit_test (v j : Nat) (hv : v < 2 ^ 64) : (bits .and .u64 ((v : Int) / 2 ^ j) 1 == 1) = v.testBit j := by
  have e : ((v : Int) / 2 ^ j) = ((v / 2 ^ j : Nat) : Int) := by norm_cast
  have hle : v / 2 ^ j ≤ v := Nat.div_le_self _ _
  rw [e, show (1 : Int) = ((1 : Nat) : Int) from rfl, u64_and_nat _ _ (by omega) (by omega), nat_mask1, Nat.testBit_eq_decide_div_mod_eq]
  rcases Nat.mod_two_eq_zero_or_one (v / 2 ^ j) with h | h <;> rw [h] <;> rfl
theorem numBits_get (l : List Bool) (v W N k : Nat) (hl : l.length = N) (hk : k < W) : (l ++ numBits v W)[N + k]?.getD false = v.testBit (W - 1 - k) := by
  subst hl
  rw [List.getElem?_append_right (by omega)]
  simp [numBits, hk]

/-- Put, by the document. -/
def putS (N : Int) (bs : List UInt8) (v : Nat) (width : Int) : Int × List Bool :=
  if goodB N bs = true then
    if (0 ≤ width ∧ width ≤ 64) ∧ v / 2 ^ width.toNat = 0 then
      if 4096 - N < width then (3, []) else (0, listOf N bs ++ numBits v width.toNat)
    else (2, [])
  else (10, [])

end Go.Proofs.Ytlkmipcenlhacaa

namespace Go.Proofs.Ytlkmipcenlhacaa
open Go.RowKit

/-- Get, by the document. -/
def getS (N : Int) (bs : List UInt8) (at_ width : Int) : Int × Nat :=
  if goodB N bs = true then
    if (0 ≤ width ∧ width ≤ 64) ∧ 0 ≤ at_ ∧ at_ ≤ N - width then (0, numOf (((listOf N bs).drop at_.toNat).take width.toNat))
    else (2, 0)
  else (10, 0)
/-- What it answers. -/
def Num (w : World) (r : Int × Nat) (e : Ending) (w' : World) : Prop := e = .returned (.tuple #[.int .u64 r.2, .int .i64 r.1]) ∧ Below w.heap.size w w'

theorem u64_twice (x : Nat) (h : 2 * x < 2 ^ 64) : IntKind.u64.wrap ((x : Int) * 2) = ((2 * x : Nat) : Int) := by
  rw [IntKind.wrap_u64]; omega
theorem u64_or1 (x : Nat) (h : 2 * x < 2 ^ 64) : bits .or .u64 ((2 * x : Nat) : Int) 1 = ((2 * x + 1 : Nat) : Int) := by
  rw [show (1 : Int) = ((1 : Nat) : Int) from rfl, u64_or_nat _ _ (by omega) (by omega)]
  rw [nat_join 1 (2 * x) 1 (by omega) (by omega)]
theorem take_snoc_get (l : List Bool) (a k : Nat) (h : a + k < l.length) : (l.drop a).take (k + 1) = (l.drop a).take k ++ [l[a + k]?.getD false] := by
  rw [List.take_add_one, List.getElem?_drop, List.getElem?_eq_getElem h]
  rfl
theorem num_small (l : List Bool) (k : Nat) (h : k < 64) : 2 * numOf (l.take k) < 2 ^ 64 := by
  have h1 := numOf_lt (l.take k)
  have h2 : (l.take k).length ≤ k := List.length_take_le _ _
  have h3 : 2 ^ (l.take k).length ≤ 2 ^ 63 := Nat.pow_le_pow_right (by omega) (by omega)
  omega

end Go.Proofs.Ytlkmipcenlhacaa
