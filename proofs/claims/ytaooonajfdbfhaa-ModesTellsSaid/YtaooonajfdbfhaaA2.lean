/-
  The document's Bits of package cstate. No condition.
-/
import Derived.Test.YtaooonajfdbfhaaA1
namespace Go.Proofs.Ytaooonajfdbfhaa
open Go.RowKit

theorem Byt.on {w w' : World} {A : Option Addr} {bs : List UInt8} (h : Byt w.heap.size w A bs) (hb : Below w.heap.size w w') : Byt w'.heap.size w' A bs := (h.below hb).mono hb.size
theorem Blk.on {w w' : World} {g : Nat} {t : TypeId} {cs : Array Value} (h : Blk w g t cs) (hb : Below w.heap.size w w') : Blk w' g t cs := h.below hb h.lt
/-- A state's bits, by the document. -/
def bitsOf (c : CS) : List Bool := numBits c.T.toNat 8 ++ numBits c.P.toNat 3 ++ numBits c.Mo.toNat 2 ++ numBits c.Nx.toNat 3 ++ numBits c.Me.toNat 8
def bitsC (c : CS) : Int × List Bool := if mayC c 8 = true then (0, bitsOf c) else (40, [])
theorem bitsOf_length (c : CS) : (bitsOf c).length = 24 := by simp [bitsOf, numBits_length]
end Go.Proofs.Ytaooonajfdbfhaa
