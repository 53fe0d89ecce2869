/-
  The document itself: Flip. No condition but that the bytes and the places can be read.
-/
import Derived.Test.YtdmedhklcicpeaaH3
namespace Go.Proofs.Ytdmedhklcicpeaa
open Go.RowKit

theorem flip_row {w : World} {base g cap zz n : Nat} {lk : List Bool} (h : w.ownsRow base 4 1 (.slice (some ⟨g, 0, none⟩) lk.length cap) n (lk.map Value.bool)) (hn : lk.length = n) (q : Nat) :
    ((w.drewN q).setCell ⟨g, zz, none⟩ (.bool (!(lk[zz]?.getD false)))).ownsRow base 4 1 (.slice (some ⟨g, 0, none⟩) lk.length cap) n ((flip1 lk zz).map Value.bool) ∧ w.grownBy ((w.drewN q).setCell ⟨g, zz, none⟩ (.bool (!(lk[zz]?.getD false)))) (some g) := by
  subst hn
  have hd : (w.drewN q).ownsRow base 4 1 (.slice (some ⟨g, 0, none⟩) lk.length cap) lk.length (lk.map Value.bool) := h
  obtain ⟨h1, h2⟩ := hd.stored zz (.bool (!(lk[zz]?.getD false)))
  refine ⟨?_, h2.os, h2.tape, h2.output, h2.size, h2.block⟩
  unfold flip1
  rw [Int.toNat_natCast, List.map_set]
  exact h1

end Go.Proofs.Ytdmedhklcicpeaa
