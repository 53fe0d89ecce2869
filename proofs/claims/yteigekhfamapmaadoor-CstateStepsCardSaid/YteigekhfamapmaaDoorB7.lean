/-
  What the statements of package cstate begin with: a state's bits. Condition: the array of widths holds what the program's text lays.
-/
import Derived.Test.YteigekhfamapmaaDoorB6
namespace Go.Proofs.YteigekhfamapmaaDoor
open Go.RowKit

theorem Below.al (w : World) (o : Obj) : Below w.heap.size w (w.alloc o) := (Below.refl _ _).alloc (Nat.le_refl _) _
/-- Two answers of one content are the same. -/
theorem same_res {l : List Bool} {A A' : Option Addr} {n n' c c' : Nat} {bs bs' : List UInt8} {w : World} (h : IsBits l bs) (h' : IsBits l bs') (hn : n = bs.length) (hn' : n' = bs'.length) (hA : Byt w.heap.size w A bs) (hA' : Byt w.heap.size w A' bs') :
    Calls Tryd.prog 14 #[.agg #[.int .i64 (l.length : Nat), .slice A n c], .agg #[.int .i64 (l.length : Nat), .slice A' n' c']] w fun e w' => e = .returned (.bool true) ∧ Below w.heap.size w w' := by
  obtain rfl := h.unique h'
  have := rsame_any l.length l.length A A' n n' c c' bs bs w hn hn' hA hA'
  rwa [sameB_self] at this
/-- The bits of the first example. -/
def ex4 : List Bool := [false, false, false, false, false, false, false, true, false, true, false, false, true, false, false, false, false, false, false, false, false, true, false, true]
theorem ex4_bits : bitsC ⟨1, 2, 1, 0, 5⟩ = (0, ex4) := by decide
theorem ex4_text : parseS (⟨#[48, 48, 48, 48, 48, 48, 48, 49, 48, 49, 48, 48, 49, 48, 48, 48, 48, 48, 48, 48, 48, 49, 48, 49]⟩ : ByteArray).data.toList = (0, ex4) := by decide
theorem ex4_len : ex4.length = 24 := rfl

set_option maxRecDepth 8000 in
set_option maxHeartbeats 1000000 in
theorem begun_any (w : World) (hT : WTab w) : Calls Tryd.prog 11 #[] w fun e w' => e = .returned (.bool true) ∧ Below w.heap.size w w' := by
  have hbi := bitsC_any ⟨1, 2, 1, 0, 5⟩ w hT
  rw [ex4_bits] at hbi
  have hpa := fun W => rparse_any ⟨#[48, 48, 48, 48, 48, 48, 48, 49, 48, 49, 48, 48, 49, 48, 48, 48, 48, 48, 48, 48, 48, 49, 48, 49]⟩ W (by decide)
  rw [ex4_text] at hpa
  generalize hL : ex4 = L at *
  have hl : L.length = 24 := by rw [← hL]; rfl
  clear hL
  unfold CS.cells at hbi
  dsimp only at hbi
  have HBI := Lib.hid hbi; have HPA := Lib.hid hpa; clear hbi hpa hT
  go_enter Tryd.func11, Tryd.ntmps11
  go_wp2_with fail
  refine HBI.out.mono ?_
  rintro e w1 ⟨A1, n1, c1, bs1, rfl, hn1, his1, hl1, hA1, hB1, hF1⟩
  dsimp only at hl1 his1 ⊢
  rw [hl]
  have HN1 := Lib.hid hn1; have HI1 := Lib.hid his1; clear hn1 his1
  have k1 := Blk.new w1 26 #[.int .i64 24, .slice A1 n1 c1]
  have hA2 := hA1.on (Below.al w1 (.cells #[.int .i64 24, .slice A1 n1 c1] 26))
  have b1 := hB1.trans ((Below.al w1 (.cells #[.int .i64 24, .slice A1 n1 c1] 26)).mono hB1.size)
  clear hA1 hB1 hF1
  go_wp2_with fail
  generalize w1.alloc (.cells #[.int .i64 24, .slice A1 n1 c1] 26) = w2 at *
  refine (HPA.out _).mono ?_
  rintro e w3 ⟨A3, n3, c3, bs3, rfl, hn3, his3, hl3, hA3, hB3, hF3⟩
  dsimp only at hl3 his3 ⊢
  rw [hl]
  have HN3 := Lib.hid hn3; have HI3 := Lib.hid his3; clear hn3 his3
  have hal := Below.al w3 (.cells #[.int .i64 24, .slice A3 n3 c3] 26)
  have k3 := Blk.new w3 26 #[.int .i64 24, .slice A3 n3 c3]
  have hA4 := hA3.on hal
  have hA5 := (hA2.on hB3).on hal
  have k13 := (k1.on hB3).on hal
  have b3 := b1.trans (hB3.mono b1.size)
  have b4 := b3.trans (hal.mono b3.size)
  clear hA3 hB3 hF3 hA2 k1 b1 b3 hal
  obtain ⟨r0, r1, -, -⟩ := k13.two
  obtain ⟨s0, s1, -, -⟩ := k3.two
  have hs := same_res (w := w3.alloc (.cells #[.int .i64 24, .slice A3 n3 c3] 26)) (c := c1) (c' := c3) HI1.out HI3.out HN1.out HN3.out hA5 hA4
  rw [hl] at hs
  have HS := Lib.hid hs; clear hs hA4 hA5
  go_wp2_with fail
  refine HS.out.mono ?_
  rintro e w5 ⟨rfl, hB5⟩
  dsimp only
  go_wp2
  go_ret
  exact ⟨rfl, b4.trans (hB5.mono b4.size)⟩
end Go.Proofs.YteigekhfamapmaaDoor
