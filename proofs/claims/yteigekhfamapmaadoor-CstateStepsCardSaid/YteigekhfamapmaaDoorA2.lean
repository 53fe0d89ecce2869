/-
  The document's Bits of package cstate. No condition.
-/
import Derived.Test.YteigekhfamapmaaDoorA1
namespace Go.Proofs.YteigekhfamapmaaDoor
open Go.RowKit

theorem Byt.on {w w' : World} {A : Option Addr} {bs : List UInt8} (h : Byt w.heap.size w A bs) (hb : Below w.heap.size w w') : Byt w'.heap.size w' A bs := (h.below hb).mono hb.size
theorem Blk.on {w w' : World} {g : Nat} {t : TypeId} {cs : Array Value} (h : Blk w g t cs) (hb : Below w.heap.size w w') : Blk w' g t cs := h.below hb h.lt
/-- A state's bits, by the document. -/
def bitsOf (c : CS) : List Bool := numBits c.T.toNat 8 ++ numBits c.P.toNat 3 ++ numBits c.Mo.toNat 2 ++ numBits c.Nx.toNat 3 ++ numBits c.Me.toNat 8
def bitsC (c : CS) : Int × List Bool := if mayC c 8 = true then (0, bitsOf c) else (40, [])
theorem bitsOf_length (c : CS) : (bitsOf c).length = 24 := by simp [bitsOf, numBits_length]
/-- One number more behind bits that are there. -/
theorem rput_more (l : List Bool) (A : Option Addr) (n c : Nat) (bs : List UInt8) (v : Nat) (width : Nat) (w : World) (hn : n = bs.length) (his : IsBits l bs) (hl : l.length + width ≤ 4096) (hw : width ≤ 64) (hv : v < 2 ^ width) (hA : Byt w.heap.size w A bs) :
    Calls Tryd.prog 32 #[.agg #[.int .i64 l.length, .slice A n c], .int .u64 v, .int .i64 (width : Int)] w (Res w (0, l ++ numBits v width)) := by
  have h64 : v < 2 ^ 64 := Nat.lt_of_lt_of_le hv (Nat.pow_le_pow_right (by decide) hw)
  have h := rput_any (l.length : Int) (width : Int) v A n c bs w hn (by rw [hn]; exact bytes_small his (by omega)) hA h64
  have e : putS (l.length : Int) bs v (width : Int) = (0, l ++ numBits v width) := by
    unfold putS
    rw [if_pos (isBits_good his (by omega)), if_pos ⟨by omega, by rw [Int.toNat_natCast]; exact Nat.div_eq_of_lt hv⟩, if_neg (by omega), isBits_listOf his, Int.toNat_natCast]
  rw [e] at h
  exact h
end Go.Proofs.YteigekhfamapmaaDoor
