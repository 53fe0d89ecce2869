/-
  A slice's value, and bytes that lie where it says. No condition.
-/
import Derived.Test.YtnlmpemfpkmodaaSZ
namespace Go.Proofs.Ytnlmpemfpkmodaa
open Go.RowKit

/-- A slice's value. -/
structure Sl3 where
  A : Option Addr
  n : Nat
  c : Nat
/-- Bytes lie where a slice's value says. -/
structure BOk (n₀ : Nat) (W : World) (bs : List UInt8) (v : Sl3) : Prop where
  by_ : Byt n₀ W v.A bs
  bn : v.n = bs.length
  bc : v.n ≤ v.c
  bm : v.c ≤ maxLen
  bz : v.A = none → v.c = 0
theorem BOk.below {n₀ : Nat} {W W' : World} {s : List UInt8} {v : Sl3} (h : BOk n₀ W s v) (hb : Below n₀ W W') : BOk n₀ W' s v := ⟨h.by_.below hb, h.bn, h.bc, h.bm, h.bz⟩
theorem BOk.mono {n₀ n₁ : Nat} {W : World} {s : List UInt8} {v : Sl3} (h : BOk n₀ W s v) (hn : n₀ ≤ n₁) : BOk n₁ W s v := ⟨h.by_.mono hn, h.bn, h.bc, h.bm, h.bz⟩
theorem BOk.on {W W' : World} {s : List UInt8} {v : Sl3} (h : BOk W.heap.size W s v) (hb : Below W.heap.size W W') : BOk W'.heap.size W' s v := (h.below hb).mono hb.size
theorem BOk.nil (n₀ : Nat) (W : World) : BOk n₀ W [] ⟨none, 0, 0⟩ := ⟨fun h => absurd rfl h, rfl, Nat.le_refl _, Nat.zero_le _, fun _ => rfl⟩
end Go.Proofs.Ytnlmpemfpkmodaa
