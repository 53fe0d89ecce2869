/-
  The document itself: Check and List. No condition but that the bytes can be read.
  The document itself: Of. No condition but that the truths can be read.
  Which bits are the same: the document itself, Same of package bits, and Equal of package bytes. No condition but that the bytes can be read.
  The document itself: Put. No condition but that the bytes can be read.
  The document itself: Get. No condition but that the bytes can be read.
  Parse of package bits and of the document itself answer as the document says, for every text. No condition.
  The document itself: Parse and Text, for every text and all bits. No condition but that the bytes can be read.
  A region whose order Go leaves open, walked once, where each operation yields one value in all worlds that keep what was there. No condition.
  Slice of package bits answers as the document says, for all bits and places. No condition but that the bytes can be read.
  The document itself: Slice. No condition but that the bytes can be read.
  Flip of package bits answers as the document says, for all bits and places. No condition but that the bytes and the places can be read.
-/
import Derived.Test.YtlkmipcenlhacaaQF
namespace Go.Proofs.Ytlkmipcenlhacaa
open Go.RowKit

theorem shr_test (x j : Nat) : (((x : Int) / 2 ^ j).tmod 2 == 1) = x.testBit j := by
  have e : ((x : Int) / 2 ^ j) = ((x / 2 ^ j : Nat) : Int) := by norm_cast
  rw [e, Nat.testBit_eq_decide_div_mod_eq, Int.tmod_eq_emod_of_nonneg (Int.natCast_nonneg _)]
  rcases Nat.mod_two_eq_zero_or_one (x / 2 ^ j) with h | h
  · have h' : ((x / 2 ^ j : Nat) : Int) % 2 = 0 := by omega
    rw [h, h']; rfl
  · have h' : ((x / 2 ^ j : Nat) : Int) % 2 = 1 := by omega
    rw [h, h']; rfl

theorem Try.info4 : (Try.prog.info? 4).map (fun i => (i.zero, i.size, i.bytes)) = some (some (.bool false), 1, 1) := by kernel_rfl
/-- What the document's List answers. -/
def Truths (w : World) (l : List Bool) (e : Ending) (w' : World) : Prop := ∃ v, e = .returned v ∧ w'.ownsRow w.heap.size 4 1 v l.length (l.map Value.bool) ∧ Below w.heap.size w w'

theorem own_mono {w : World} {b b' : Nat} {e : TypeId} {size : Nat} {v : Value} {n : Nat} {xs : List Value} (h : w.ownsRow b e size v n xs) (hb : b' ≤ b) : w.ownsRow b' e size v n xs := by
  refine ⟨h.1, ?_⟩
  rcases h.2 with h2 | ⟨g, cap, cur, hv, hg, r⟩
  · exact .inl h2
  · exact .inr ⟨g, cap, cur, hv, Nat.le_trans hb hg, r⟩
theorem own_grown_low {w w' : World} {b : Nat} {e : TypeId} {size : Nat} {v : Value} {n : Nat} {xs : List Value} {o : Obj} (h : w.ownsRow b e size v n xs) (hg : (w.alloc o).grownBy w' v.ownBlock) (q : Nat) (hq : q < b) (hq2 : q < w.heap.size) : w'.heap[q]? = w.heap[q]? := by
  refine (hg.block q (by simp; omega) (fun e => ?_)).trans (Below.heap_alloc w o q hq2)
  have := (h.lt q e.symm).1
  omega
theorem own_below {w w' a : World} {b B : Nat} {e : TypeId} {size : Nat} {v : Value} {n : Nat} {xs : List Value} {o : Obj} (h : w.ownsRow b e size v n xs) (hg : (w.alloc o).grownBy w' v.ownBlock) (hB : Below B a w) (h1 : B ≤ b) (h2 : B ≤ w.heap.size) : Below B a w' :=
  (hB.alloc h2 o).grown hg (by simp; omega) (fun k ek => Nat.le_trans h1 (h.lt k ek).1)

theorem take_snoc_map (l : List Bool) (k : Nat) (h : k < l.length) : (l.take (k + 1)).map Value.bool = (l.take k).map Value.bool ++ [.bool (l[k]?.getD false)] := by
  rw [List.take_add_one, List.map_append, List.getElem?_eq_getElem h]; rfl

end Go.Proofs.Ytlkmipcenlhacaa

namespace Go.Proofs.Ytlkmipcenlhacaa
open Go.RowKit

/-- The slice at A holds the truths l, in a block below n₀ (nil or empty where there are none). -/
def Bools (n₀ : Nat) (W : World) (A : Option Addr) (l : List Bool) : Prop :=
  l ≠ [] → ∃ b off, A = some ⟨b, off, none⟩ ∧ b < n₀ ∧ ∀ j, j < l.length → W.cell? ⟨b, off + j, none⟩ = some (.bool (l[j]?.getD false))
theorem Bools.below {n₀ : Nat} {W W' : World} {A : Option Addr} {l : List Bool} (h : Bools n₀ W A l) (hb : Below n₀ W W') : Bools n₀ W' A l := fun hn => by
  obtain ⟨b, off, e, hlt, hc⟩ := h hn
  exact ⟨b, off, e, hlt, fun j hj => (hb.cell (p := ⟨b, off + j, none⟩) hlt).trans (hc j hj)⟩
theorem Bools.mono {n₀ n₁ : Nat} {W : World} {A : Option Addr} {l : List Bool} (h : Bools n₀ W A l) (hn : n₀ ≤ n₁) : Bools n₁ W A l := fun hb => by
  obtain ⟨b, off, e, hlt, hc⟩ := h hb
  exact ⟨b, off, e, Nat.lt_of_lt_of_le hlt hn, hc⟩
theorem Bools.at_ {n₀ : Nat} {W : World} {A : Option Addr} {l : List Bool} (h : Bools n₀ W A l) {k : Nat} (hk : k < l.length) :
    ∃ b off, A = some ⟨b, off, none⟩ ∧ b < n₀ ∧ W.cell? ⟨b, off + k, none⟩ = some (.bool (l[k]?.getD false)) := by
  obtain ⟨b, off, e, hlt, hc⟩ := h (by rintro rfl; simp at hk)
  exact ⟨b, off, e, hlt, hc k hk⟩
theorem bools_of_own {w : World} {base : Nat} {v : Value} {k : Nat} {l : List Bool} (h : w.ownsRow base 4 1 v k (l.map Value.bool)) : ∃ A c, v = .slice A l.length c ∧ Bools w.heap.size w A l := by
  have hk : l.length = k := by have := h.1; simpa using this
  rcases h.2 with ⟨rfl, h0⟩ | ⟨g, cap, cur, rfl, _, hh, _⟩
  · exact ⟨none, 0, by rw [hk, h0], fun hne => absurd (List.eq_nil_of_length_eq_zero (hk.trans h0)) hne⟩
  · refine ⟨some ⟨g, 0, none⟩, cap, by rw [hk], fun _ => ⟨g, 0, rfl, (Array.getElem?_eq_some_iff.1 hh).1, fun j hj => ?_⟩⟩
    have := h.cells (g := g) rfl j (.bool (l[j]?.getD false)) (by simp [hj])
    rwa [addr_add] at this

theorem or_mask (x : UInt8) (k : Nat) (hk : k ≤ 7) (h : x.toNat.testBit k = false) : bits .or .u8 (x.toNat : Int) (2 ^ k) = ((x ^^^ UInt8.ofNat (2 ^ k)).toNat : Int) := by
  have hm : 2 ^ k < 2 ^ 8 := Nat.pow_lt_pow_right (by omega) (by omega)
  have hx := x.toNat_lt
  have e2 : (2 : Int) ^ k = ((2 ^ k : Nat) : Int) := by norm_cast
  rw [e2, u8_or_nat _ _ hx hm, UInt8.toNat_xor, UInt8.toNat_ofNat', Nat.mod_eq_of_lt hm]
  congr 1
  apply Nat.eq_of_testBit_eq
  intro i
  rw [Nat.testBit_or, Nat.testBit_xor, Nat.testBit_two_pow]
  by_cases e : k = i
  · subst e; simp [h]
  · simp [e]

theorem pow256 (j : Nat) (h : j ≤ 7) : (2 : Int) ^ j % 256 = 2 ^ j := by
  have hlt : 2 ^ j < 2 ^ 8 := Nat.pow_lt_pow_right (by omega) (by omega)
  have e : (2 : Int) ^ j = ((2 ^ j : Nat) : Int) := by norm_cast
  rw [e]; generalize 2 ^ j = q at hlt; omega
/-- Of, by the document. -/
def ofS (l : List Bool) : Int × List Bool := if 4096 < l.length then (3, []) else (0, l)

end Go.Proofs.Ytlkmipcenlhacaa

namespace Go.Proofs.Ytlkmipcenlhacaa
open Go.RowKit

/-- Whether bits are the same. -/
def sameB (N : Int) (bs : List UInt8) (N' : Int) (bs' : List UInt8) : Bool := decide (N = N') && decide (bs = bs')
theorem sameB_self (N : Int) (bs : List UInt8) : sameB N bs N bs = true := by simp [sameB]
theorem str_list (l : List UInt8) : (⟨l.toArray⟩ : ByteArray).toList = l := by rw [ByteArray.toList_eq]
theorem str_eq (l r : List UInt8) : ((⟨l.toArray⟩ : ByteArray).toList == (⟨r.toArray⟩ : ByteArray).toList) = decide (l = r) := by
  rw [str_list, str_list, Bool.eq_iff_iff]
  simp

end Go.Proofs.Ytlkmipcenlhacaa

namespace Go.Proofs.Ytlkmipcenlhacaa
open Go.RowKit

theorem numBits_take (v W k : Nat) (h : k < W) : (numBits v W).take (k + 1) = (numBits v W).take k ++ [v.testBit (W - 1 - k)] := by
  rw [List.take_add_one, List.getElem?_eq_getElem (by simp [numBits, h])]
  simp [numBits]

end Go.Proofs.Ytlkmipcenlhacaa

namespace Go.Proofs.Ytlkmipcenlhacaa
open Go.RowKit

theorem u64_more (x : Nat) (h : 2 * x < 2 ^ 64) : IntKind.u64.wrap (((2 * x : Nat) : Int) + 1) = ((2 * x + 1 : Nat) : Int) := by
  rw [IntKind.wrap_u64]; omega

end Go.Proofs.Ytlkmipcenlhacaa

namespace Go.Proofs.Ytlkmipcenlhacaa
open Go.RowKit

/-- Is a byte a digit? -/
def isDig (x : UInt8) : Bool := x == 48 || x == 49
/-- Parse, by the document. -/
def parseS (s : List UInt8) : Int × List Bool := if 4096 < s.length then (3, []) else if s.all isDig = true then (0, s.map (· == 49)) else (11, [])

theorem bytes_length (s : ByteArray) : s.data.toList.length = s.size := Array.length_toList
theorem byte_at (s : ByteArray) (k : Nat) (h : k < s.size) : s.data.toList[k]? = some s[k] := by
  rw [List.getElem?_eq_getElem (by rw [bytes_length]; exact h)]
  rfl
theorem take_all (s : ByteArray) (k : Nat) (h : k < s.size) : (s.data.toList.take (k + 1)).all isDig = ((s.data.toList.take k).all isDig && isDig s[k]) := by
  rw [List.take_add_one, byte_at s k h, List.all_append]
  simp
theorem digit_at (s : ByteArray) (k : Nat) (h : k < s.size) : (s.data.toList.map (· == 49))[k]?.getD false = (s[k] == 49) := by
  rw [List.getElem?_map, byte_at s k h]
  rfl
theorem is48 (x : UInt8) : ((x.toNat : Int) == 48) = (x == 48) := by
  rw [Bool.eq_iff_iff, beq_iff_eq, beq_iff_eq, ← UInt8.toNat_inj]
  have : (48 : UInt8).toNat = 48 := rfl
  omega
theorem is49 (x : UInt8) : ((x.toNat : Int) == 49) = (x == 49) := by
  rw [Bool.eq_iff_iff, beq_iff_eq, beq_iff_eq, ← UInt8.toNat_inj]
  have : (49 : UInt8).toNat = 49 := rfl
  omega
theorem not_all (s : ByteArray) (k : Nat) (h : k < s.size) (hd : isDig s[k] = false) : s.data.toList.all isDig = false := by
  rw [List.all_eq_false]
  exact ⟨s[k], List.mem_of_getElem? (byte_at s k h), by rw [hd]; decide⟩

end Go.Proofs.Ytlkmipcenlhacaa

namespace Go.Proofs.Ytlkmipcenlhacaa
open Go.RowKit

theorem take_snoc_dig (s : ByteArray) (k : Nat) (h : k < s.size) : ((s.data.toList.take (k + 1)).map (· == 49)).map Value.bool = ((s.data.toList.take k).map (· == 49)).map Value.bool ++ [.bool (s[k] == 49)] := by
  rw [List.take_add_one, byte_at s k h]; simp

theorem take_snoc_text (l : List Bool) (k : Nat) (h : k < l.length) : ((l.take (k + 1)).map dig).map (fun x => Value.int .u8 (x.toNat : Int)) = ((l.take k).map dig).map (fun x => Value.int .u8 (x.toNat : Int)) ++ [.int .u8 ((dig (l[k]?.getD false)).toNat : Int)] := by
  rw [List.take_add_one, List.getElem?_eq_getElem h, List.map_append, List.map_append]; rfl

end Go.Proofs.Ytlkmipcenlhacaa

namespace Go.Proofs.Ytlkmipcenlhacaa
open Go.RowKit

/-- A world that keeps all that lay in w0. -/
structure NearW (w0 : World) where
  W : World
  h : Below w0.heap.size w0 W
instance (w0 : World) : Nonempty (NearW w0) := ⟨⟨w0, Below.refl _ _⟩⟩
theorem wp_region_near {P : Program} {id : Nat} {Q : Exit → Act → World → Prop} {a : Act} {w : World} {l : List Oper} (hm : P.follows .mixedOrders = true) (hB : Region.lexB .any l.toArray = true)
    (h : wpQuiet P l.toArray (fun w' => ∃ n : NearW w, w' = n.W) (fun a' => ∀ w', (∃ n : NearW w, w' = n.W) → Q .normal a' w') l a) : (Code.region id l.toArray true).wp P Q a w :=
  wp_region_quiet (C := fun w' => ∃ n : NearW w, w' = n.W) hm hB ⟨⟨_, (Below.refl _ w).drew⟩, rfl⟩ (by simpa using h)
theorem near_call {P : Program} {f : FuncId} {args : Array Value} {w0 : World} {n : NearW w0} {v : Value} (h : Calls P f args n.W fun e w' => e = .returned v ∧ Below n.W.heap.size n.W w') :
    Calls P f args n.W fun e w'' => e = .returned v ∧ ∃ m : NearW w0, w'' = m.W :=
  h.mono fun _ w' ⟨he, hb⟩ => ⟨he, ⟨w', n.h.trans (hb.mono n.h.size)⟩, rfl⟩
theorem near_byt {w0 : World} {A : Option Addr} {bs : List UInt8} (h : Byt w0.heap.size w0 A bs) (n : NearW w0) : Byt n.W.heap.size n.W A bs := (h.below n.h).mono n.h.size
theorem near_two {w0 : World} {g : Nat} {t : TypeId} {a b : Value} (h : Blk w0 g t #[a, b]) : (∀ n : NearW w0, n.W.cell? ⟨g, 0, none⟩ = some a) ∧ (∀ n : NearW w0, n.W.cell? ⟨g, 1, none⟩ = some b) :=
  ⟨fun n => (h.below n.h h.lt).two.1, fun n => (h.below n.h h.lt).two.2.1⟩
end Go.Proofs.Ytlkmipcenlhacaa

namespace Go.Proofs.Ytlkmipcenlhacaa
open Go.RowKit

/-- Slice, by the document. -/
def sliceS (N : Int) (bs : List UInt8) (fr to : Int) : Int × List Bool :=
  if goodB N bs = true then
    if 0 ≤ fr ∧ fr ≤ to ∧ to ≤ N then (0, ((listOf N bs).drop fr.toNat).take (to.toNat - fr.toNat)) else (2, [])
  else (10, [])

theorem part_length (l : List Bool) (f t : Nat) (h : t ≤ l.length) : ((l.drop f).take (t - f)).length = t - f := by simp; omega
theorem part_get (l : List Bool) (f t k : Nat) (hk : k < t - f) : ((l.drop f).take (t - f))[k]?.getD false = l[f + k]?.getD false := by
  rw [List.getElem?_take_of_lt hk, List.getElem?_drop]

end Go.Proofs.Ytlkmipcenlhacaa

namespace Go.Proofs.Ytlkmipcenlhacaa
open Go.RowKit

/-- Truths in a row of the call's own: nil, or a block. -/
theorem own_bools {w : World} {base : Nat} {v : Value} {k : Nat} {l : List Bool} (h : w.ownsRow base 4 1 v k (l.map Value.bool)) :
    (v = .slice none 0 0 ∧ l = []) ∨ ∃ g cap, v = .slice (some ⟨g, 0, none⟩) l.length cap ∧ base ≤ g ∧ g < w.heap.size ∧ l.length ≤ cap ∧ cap ≤ maxLen ∧ (∀ j, j < l.length → w.cell? ⟨g, j, none⟩ = some (.bool (l[j]?.getD false))) ∧ ∀ j, w.frozen? ⟨g, j, none⟩ = false := by
  have hk : l.length = k := by have := h.1; simpa using this
  rcases h.2 with ⟨rfl, h0⟩ | ⟨g, cap, cur, rfl, hb, hh, h1, h2, _⟩
  · exact .inl ⟨rfl, List.eq_nil_of_length_eq_zero (hk.trans h0)⟩
  · refine .inr ⟨g, cap, by rw [hk], hb, (Array.getElem?_eq_some_iff.1 hh).1, by omega, h2, fun j hj => ?_, fun j => by simp [World.frozen?, hh]⟩
    have := h.cells (g := g) rfl j (.bool (l[j]?.getD false)) (by simp [hj])
    rwa [addr_add, Nat.zero_add] at this

end Go.Proofs.Ytlkmipcenlhacaa

namespace Go.Proofs.Ytlkmipcenlhacaa
open Go.RowKit

/-- The slice at A holds the places zs, in a block below n₀ (nil or empty where there are none). -/
def Ints (n₀ : Nat) (W : World) (A : Option Addr) (zs : List Int) : Prop :=
  zs ≠ [] → ∃ b off, A = some ⟨b, off, none⟩ ∧ b < n₀ ∧ ∀ j, j < zs.length → W.cell? ⟨b, off + j, none⟩ = some (.int .i64 (zs[j]?.getD 0))
theorem Ints.below {n₀ : Nat} {W W' : World} {A : Option Addr} {zs : List Int} (h : Ints n₀ W A zs) (hb : Below n₀ W W') : Ints n₀ W' A zs := fun hn => by
  obtain ⟨b, off, e, hlt, hc⟩ := h hn
  exact ⟨b, off, e, hlt, fun j hj => (hb.cell (p := ⟨b, off + j, none⟩) hlt).trans (hc j hj)⟩
theorem Ints.mono {n₀ n₁ : Nat} {W : World} {A : Option Addr} {zs : List Int} (h : Ints n₀ W A zs) (hn : n₀ ≤ n₁) : Ints n₁ W A zs := fun hb => by
  obtain ⟨b, off, e, hlt, hc⟩ := h hb
  exact ⟨b, off, e, Nat.lt_of_lt_of_le hlt hn, hc⟩
theorem Ints.at_ {n₀ : Nat} {W : World} {A : Option Addr} {zs : List Int} (h : Ints n₀ W A zs) {k : Nat} (hk : k < zs.length) :
    ∃ b off, A = some ⟨b, off, none⟩ ∧ b < n₀ ∧ W.cell? ⟨b, off + k, none⟩ = some (.int .i64 (zs[k]?.getD 0)) := by
  obtain ⟨b, off, e, hlt, hc⟩ := h (by rintro rfl; simp at hk)
  exact ⟨b, off, e, hlt, hc k hk⟩

/-- One bit turned. -/
def flip1 (l : List Bool) (i : Int) : List Bool := l.set i.toNat (!(l[i.toNat]?.getD false))
def okAt (N : Int) (zs : List Int) : Bool := zs.all fun i => decide (0 ≤ i) && decide (i < N)
def flips (l : List Bool) (zs : List Int) : List Bool := zs.foldl flip1 l
/-- Flip, by the document. -/
def flipS (N : Int) (bs : List UInt8) (zs : List Int) : Int × List Bool :=
  if goodB N bs = true then if okAt N zs = true then (0, flips (listOf N bs) zs) else (2, []) else (10, [])
theorem flip1_length (l : List Bool) (i : Int) : (flip1 l i).length = l.length := by simp [flip1]
theorem flips_length (zs : List Int) : ∀ l : List Bool, (flips l zs).length = l.length := by
  induction zs with
  | nil => intro l; rfl
  | cons z zs ih => intro l; show (flips (flip1 l z) zs).length = _; rw [ih, flip1_length]
theorem int_at (zs : List Int) (k : Nat) (h : k < zs.length) : zs.take (k + 1) = zs.take k ++ [zs[k]?.getD 0] := by
  rw [List.take_add_one, List.getElem?_eq_getElem h]; rfl
theorem flips_snoc (l : List Bool) (zs : List Int) (z : Int) : flips l (zs ++ [z]) = flip1 (flips l zs) z := by simp [flips]
theorem ok_snoc (N : Int) (zs : List Int) (z : Int) : okAt N (zs ++ [z]) = (okAt N zs && (decide (0 ≤ z) && decide (z < N))) := by simp [okAt]
theorem ok_not (N : Int) (zs : List Int) (k : Nat) (h : k < zs.length) (hb : ¬ (0 ≤ zs[k]?.getD 0 ∧ zs[k]?.getD 0 < N)) : okAt N zs = false := by
  unfold okAt
  rw [List.all_eq_false]
  refine ⟨zs[k], List.getElem_mem h, ?_⟩
  rw [List.getElem?_eq_getElem h] at hb
  simpa using hb

end Go.Proofs.Ytlkmipcenlhacaa
