/-
  States, and the document's Check of package cstate. No condition.
  The document's Bits of package cstate. No condition.
  The document's Bits of package cstate, the walk. No condition.
  The document's Slots of package cstate. No condition.
  Contracts of the small functions of package cstate: a state's fields as an array and back, the first numbers that they may not be, a state's slot, whether a number is a node's. Conditions: those that each theorem names.
  Check of package cstate answers as the document says. No condition.
  Step of package cstate answers as the document says, the program's and the document's own. No condition.
  With, Without and Has of package cstate answer as the document says, the program's and the document's own. No condition.
  Bits of package cstate answers as the document says. Condition: the array of widths holds what the program's text lays.
  Slots of package cstate answers as the document says. No condition.
  What the statements of package cstate begin with: a state's bits. Condition: the array of widths holds what the program's text lays.
  Plain facts of a round of states: what comes of a state that may be may be, how far one is from the next, a member more and a member less. No condition.
  Parse of package cstate answers as the document says. Condition: the array of widths holds what the program's text lays.
  The document's Parse of package cstate. No condition but that the bytes can be read.
-/
import Derived.Test.YtcfbeelljhjnoaaDoorQB
import Derived.Laws.BitsAllLaws
import Derived.Deep.RegionHeld3
namespace Go.Proofs.YtcfbeelljhjnoaaDoor
open Go.RowKit

/-- A state. -/
structure CS where
  T : Int
  P : Int
  Mo : Int
  Nx : Int
  Me : Int
/-- Its cells. -/
def CS.cells (c : CS) : Array Value := #[.int .i64 c.T, .int .i64 c.P, .int .i64 c.Mo, .int .i64 c.Nx, .int .i64 c.Me]
/-- May it be, with n nodes? -/
def mayC (c : CS) (n : Int) : Bool := decide (0 ≤ c.T ∧ c.T ≤ 255 ∧ 0 ≤ c.P ∧ c.P < n ∧ 0 ≤ c.Mo ∧ c.Mo < 4 ∧ 0 ≤ c.Nx ∧ c.Nx ≤ 4 ∧ 0 ≤ c.Me ∧ c.Me < 2 ^ n.toNat)
/-- Check, by the document. -/
def checkC (c : CS) (n : Int) : Int := if n < 4 ∨ 8 < n then 2 else if mayC c n = true then 0 else 40

set_option maxRecDepth 8000 in
set_option maxHeartbeats 2000000 in
theorem rcheckC_any (c : CS) (n : Int) (w : World) : Calls Tryd.prog 24 #[.agg c.cells, .int .i64 n] w fun e w' => e = .returned (.int .i64 (checkC c n)) ∧ Below w.heap.size w w' := by
  obtain ⟨T, P, Mo, Nx, Me⟩ := c
  unfold CS.cells
  dsimp only
  have hB : Below w.heap.size w (w.alloc (.cells #[.int .i64 T, .int .i64 P, .int .i64 Mo, .int .i64 Nx, .int .i64 Me] 23)) := (Below.refl _ _).alloc (Nat.le_refl _) _
  have HB := Lib.hid hB; clear hB
  obtain ⟨R, hR⟩ : ∃ R, R = checkC ⟨T, P, Mo, Nx, Me⟩ n := ⟨_, rfl⟩
  rw [← hR]
  have HR := Lib.hid hR; clear hR
  by_cases h0 : n < 4 ∨ 8 < n
  · have hr : R = 2 := by rw [HR.out]; unfold checkC; rw [if_pos h0]
    subst hr
    by_cases h4 : n < 4
    · have d1 : decide (n < 4) = true := by simpa using h4
      clear h0
      go_enter Tryd.func24, Tryd.ntmps24
      go_wp2
      go_ret
      exact ⟨rfl, HB.out⟩
    · have d1 : decide (n < 4) = false := by simpa using h4
      have d2 : decide (8 < n) = true := by simp; omega
      clear h0
      go_enter Tryd.func24, Tryd.ntmps24
      go_wp2
      go_ret
      exact ⟨rfl, HB.out⟩
  · have d1 : decide (n < 4) = false := by simp; omega
    have d2 : decide (8 < n) = false := by simp; omega
    have hr : R = if mayC ⟨T, P, Mo, Nx, Me⟩ n = true then 0 else 40 := by rw [HR.out]; unfold checkC; rw [if_neg h0]
    have HR2 := Lib.hid hr; clear hr
    by_cases c0 : T < 0
    · have e0 : decide (T < 0) = true := by simpa using c0
      have hq : (if mayC ⟨T, P, Mo, Nx, Me⟩ n = true then (0 : Int) else 40) = 40 := by rw [if_neg]; unfold mayC; simp only [decide_eq_true_eq]; omega
      have HQ := Lib.hid hq; clear hq h0
      go_enter Tryd.func24, Tryd.ntmps24
      go_wp2
      go_ret
      rw [HR2.out, HQ.out]
      exact ⟨rfl, HB.out⟩
    · have e0 : decide (T < 0) = false := by simpa using c0
      by_cases c1 : 255 < T
      · have e1 : decide (255 < T) = true := by simpa using c1
        have hq : (if mayC ⟨T, P, Mo, Nx, Me⟩ n = true then (0 : Int) else 40) = 40 := by rw [if_neg]; unfold mayC; simp only [decide_eq_true_eq]; omega
        have HQ := Lib.hid hq; clear hq h0
        go_enter Tryd.func24, Tryd.ntmps24
        go_wp2
        go_ret
        rw [HR2.out, HQ.out]
        exact ⟨rfl, HB.out⟩
      · have e1 : decide (255 < T) = false := by simpa using c1
        by_cases c2 : P < 0
        · have e2 : decide (P < 0) = true := by simpa using c2
          have hq : (if mayC ⟨T, P, Mo, Nx, Me⟩ n = true then (0 : Int) else 40) = 40 := by rw [if_neg]; unfold mayC; simp only [decide_eq_true_eq]; omega
          have HQ := Lib.hid hq; clear hq h0
          go_enter Tryd.func24, Tryd.ntmps24
          go_wp2
          go_ret
          rw [HR2.out, HQ.out]
          exact ⟨rfl, HB.out⟩
        · have e2 : decide (P < 0) = false := by simpa using c2
          by_cases c3 : n ≤ P
          · have e3 : decide (n ≤ P) = true := by simpa using c3
            have hq : (if mayC ⟨T, P, Mo, Nx, Me⟩ n = true then (0 : Int) else 40) = 40 := by rw [if_neg]; unfold mayC; simp only [decide_eq_true_eq]; omega
            have HQ := Lib.hid hq; clear hq h0
            go_enter Tryd.func24, Tryd.ntmps24
            go_wp2
            go_ret
            rw [HR2.out, HQ.out]
            exact ⟨rfl, HB.out⟩
          · have e3 : decide (n ≤ P) = false := by simpa using c3
            by_cases c4 : Mo < 0
            · have e4 : decide (Mo < 0) = true := by simpa using c4
              have hq : (if mayC ⟨T, P, Mo, Nx, Me⟩ n = true then (0 : Int) else 40) = 40 := by rw [if_neg]; unfold mayC; simp only [decide_eq_true_eq]; omega
              have HQ := Lib.hid hq; clear hq h0
              go_enter Tryd.func24, Tryd.ntmps24
              go_wp2
              go_ret
              rw [HR2.out, HQ.out]
              exact ⟨rfl, HB.out⟩
            · have e4 : decide (Mo < 0) = false := by simpa using c4
              by_cases c5 : 4 ≤ Mo
              · have e5 : decide (4 ≤ Mo) = true := by simpa using c5
                have hq : (if mayC ⟨T, P, Mo, Nx, Me⟩ n = true then (0 : Int) else 40) = 40 := by rw [if_neg]; unfold mayC; simp only [decide_eq_true_eq]; omega
                have HQ := Lib.hid hq; clear hq h0
                go_enter Tryd.func24, Tryd.ntmps24
                go_wp2
                go_ret
                rw [HR2.out, HQ.out]
                exact ⟨rfl, HB.out⟩
              · have e5 : decide (4 ≤ Mo) = false := by simpa using c5
                by_cases c6 : Nx < 0
                · have e6 : decide (Nx < 0) = true := by simpa using c6
                  have hq : (if mayC ⟨T, P, Mo, Nx, Me⟩ n = true then (0 : Int) else 40) = 40 := by rw [if_neg]; unfold mayC; simp only [decide_eq_true_eq]; omega
                  have HQ := Lib.hid hq; clear hq h0
                  go_enter Tryd.func24, Tryd.ntmps24
                  go_wp2
                  go_ret
                  rw [HR2.out, HQ.out]
                  exact ⟨rfl, HB.out⟩
                · have e6 : decide (Nx < 0) = false := by simpa using c6
                  by_cases c7 : 4 < Nx
                  · have e7 : decide (4 < Nx) = true := by simpa using c7
                    have hq : (if mayC ⟨T, P, Mo, Nx, Me⟩ n = true then (0 : Int) else 40) = 40 := by rw [if_neg]; unfold mayC; simp only [decide_eq_true_eq]; omega
                    have HQ := Lib.hid hq; clear hq h0
                    go_enter Tryd.func24, Tryd.ntmps24
                    go_wp2
                    go_ret
                    rw [HR2.out, HQ.out]
                    exact ⟨rfl, HB.out⟩
                  · have e7 : decide (4 < Nx) = false := by simpa using c7
                    by_cases c8 : Me < 0
                    · have e8 : decide (Me < 0) = true := by simpa using c8
                      have hq : (if mayC ⟨T, P, Mo, Nx, Me⟩ n = true then (0 : Int) else 40) = 40 := by rw [if_neg]; unfold mayC; simp only [decide_eq_true_eq]; omega
                      have HQ := Lib.hid hq; clear hq h0
                      go_enter Tryd.func24, Tryd.ntmps24
                      go_wp2
                      go_ret
                      rw [HR2.out, HQ.out]
                      exact ⟨rfl, HB.out⟩
                    · have e8 : decide (Me < 0) = false := by simpa using c8
                      have hn : n = 4 ∨ n = 5 ∨ n = 6 ∨ n = 7 ∨ n = 8 := by omega
                      clear h0
                      rcases hn with rfl | rfl | rfl | rfl | rfl
                      · have hp : (2 : Int) ^ (4 : Int).toNat = 16 := by decide
                        by_cases c9 : 16 ≤ Me
                        · have e9 : decide (16 ≤ Me) = true := by simpa using c9
                          have hq : (if mayC ⟨T, P, Mo, Nx, Me⟩ 4 = true then (0 : Int) else 40) = 40 := by rw [if_neg]; unfold mayC; simp only [decide_eq_true_eq, hp]; omega
                          have HQ := Lib.hid hq; clear hq
                          go_enter Tryd.func24, Tryd.ntmps24
                          go_wp2
                          go_ret
                          rw [HR2.out, HQ.out]
                          exact ⟨rfl, HB.out⟩
                        · have e9 : decide (16 ≤ Me) = false := by simpa using c9
                          have hq : (if mayC ⟨T, P, Mo, Nx, Me⟩ 4 = true then (0 : Int) else 40) = 0 := by rw [if_pos]; unfold mayC; simp only [decide_eq_true_eq, hp]; omega
                          have HQ := Lib.hid hq; clear hq
                          go_enter Tryd.func24, Tryd.ntmps24
                          go_wp2
                          go_ret
                          rw [HR2.out, HQ.out]
                          exact ⟨rfl, HB.out⟩
                      · have hp : (2 : Int) ^ (5 : Int).toNat = 32 := by decide
                        by_cases c9 : 32 ≤ Me
                        · have e9 : decide (32 ≤ Me) = true := by simpa using c9
                          have hq : (if mayC ⟨T, P, Mo, Nx, Me⟩ 5 = true then (0 : Int) else 40) = 40 := by rw [if_neg]; unfold mayC; simp only [decide_eq_true_eq, hp]; omega
                          have HQ := Lib.hid hq; clear hq
                          go_enter Tryd.func24, Tryd.ntmps24
                          go_wp2
                          go_ret
                          rw [HR2.out, HQ.out]
                          exact ⟨rfl, HB.out⟩
                        · have e9 : decide (32 ≤ Me) = false := by simpa using c9
                          have hq : (if mayC ⟨T, P, Mo, Nx, Me⟩ 5 = true then (0 : Int) else 40) = 0 := by rw [if_pos]; unfold mayC; simp only [decide_eq_true_eq, hp]; omega
                          have HQ := Lib.hid hq; clear hq
                          go_enter Tryd.func24, Tryd.ntmps24
                          go_wp2
                          go_ret
                          rw [HR2.out, HQ.out]
                          exact ⟨rfl, HB.out⟩
                      · have hp : (2 : Int) ^ (6 : Int).toNat = 64 := by decide
                        by_cases c9 : 64 ≤ Me
                        · have e9 : decide (64 ≤ Me) = true := by simpa using c9
                          have hq : (if mayC ⟨T, P, Mo, Nx, Me⟩ 6 = true then (0 : Int) else 40) = 40 := by rw [if_neg]; unfold mayC; simp only [decide_eq_true_eq, hp]; omega
                          have HQ := Lib.hid hq; clear hq
                          go_enter Tryd.func24, Tryd.ntmps24
                          go_wp2
                          go_ret
                          rw [HR2.out, HQ.out]
                          exact ⟨rfl, HB.out⟩
                        · have e9 : decide (64 ≤ Me) = false := by simpa using c9
                          have hq : (if mayC ⟨T, P, Mo, Nx, Me⟩ 6 = true then (0 : Int) else 40) = 0 := by rw [if_pos]; unfold mayC; simp only [decide_eq_true_eq, hp]; omega
                          have HQ := Lib.hid hq; clear hq
                          go_enter Tryd.func24, Tryd.ntmps24
                          go_wp2
                          go_ret
                          rw [HR2.out, HQ.out]
                          exact ⟨rfl, HB.out⟩
                      · have hp : (2 : Int) ^ (7 : Int).toNat = 128 := by decide
                        by_cases c9 : 128 ≤ Me
                        · have e9 : decide (128 ≤ Me) = true := by simpa using c9
                          have hq : (if mayC ⟨T, P, Mo, Nx, Me⟩ 7 = true then (0 : Int) else 40) = 40 := by rw [if_neg]; unfold mayC; simp only [decide_eq_true_eq, hp]; omega
                          have HQ := Lib.hid hq; clear hq
                          go_enter Tryd.func24, Tryd.ntmps24
                          go_wp2
                          go_ret
                          rw [HR2.out, HQ.out]
                          exact ⟨rfl, HB.out⟩
                        · have e9 : decide (128 ≤ Me) = false := by simpa using c9
                          have hq : (if mayC ⟨T, P, Mo, Nx, Me⟩ 7 = true then (0 : Int) else 40) = 0 := by rw [if_pos]; unfold mayC; simp only [decide_eq_true_eq, hp]; omega
                          have HQ := Lib.hid hq; clear hq
                          go_enter Tryd.func24, Tryd.ntmps24
                          go_wp2
                          go_ret
                          rw [HR2.out, HQ.out]
                          exact ⟨rfl, HB.out⟩
                      · have hp : (2 : Int) ^ (8 : Int).toNat = 256 := by decide
                        by_cases c9 : 256 ≤ Me
                        · have e9 : decide (256 ≤ Me) = true := by simpa using c9
                          have hq : (if mayC ⟨T, P, Mo, Nx, Me⟩ 8 = true then (0 : Int) else 40) = 40 := by rw [if_neg]; unfold mayC; simp only [decide_eq_true_eq, hp]; omega
                          have HQ := Lib.hid hq; clear hq
                          go_enter Tryd.func24, Tryd.ntmps24
                          go_wp2
                          go_ret
                          rw [HR2.out, HQ.out]
                          exact ⟨rfl, HB.out⟩
                        · have e9 : decide (256 ≤ Me) = false := by simpa using c9
                          have hq : (if mayC ⟨T, P, Mo, Nx, Me⟩ 8 = true then (0 : Int) else 40) = 0 := by rw [if_pos]; unfold mayC; simp only [decide_eq_true_eq, hp]; omega
                          have HQ := Lib.hid hq; clear hq
                          go_enter Tryd.func24, Tryd.ntmps24
                          go_wp2
                          go_ret
                          rw [HR2.out, HQ.out]
                          exact ⟨rfl, HB.out⟩
end Go.Proofs.YtcfbeelljhjnoaaDoor

namespace Go.Proofs.YtcfbeelljhjnoaaDoor
open Go.RowKit

theorem Byt.on {w w' : World} {A : Option Addr} {bs : List UInt8} (h : Byt w.heap.size w A bs) (hb : Below w.heap.size w w') : Byt w'.heap.size w' A bs := (h.below hb).mono hb.size
theorem Blk.on {w w' : World} {g : Nat} {t : TypeId} {cs : Array Value} (h : Blk w g t cs) (hb : Below w.heap.size w w') : Blk w' g t cs := h.below hb h.lt
/-- A state's bits, by the document. -/
def bitsOf (c : CS) : List Bool := numBits c.T.toNat 8 ++ numBits c.P.toNat 3 ++ numBits c.Mo.toNat 2 ++ numBits c.Nx.toNat 3 ++ numBits c.Me.toNat 8
def bitsC (c : CS) : Int × List Bool := if mayC c 8 = true then (0, bitsOf c) else (40, [])
theorem bitsOf_length (c : CS) : (bitsOf c).length = 24 := by simp [bitsOf, numBits_length]
/-- One number more behind bits that are there. -/
theorem rput_more (l : List Bool) (A : Option Addr) (n c : Nat) (bs : List UInt8) (v : Nat) (width : Nat) (w : World) (hn : n = bs.length) (his : IsBits l bs) (hl : l.length + width ≤ 4096) (hw : width ≤ 64) (hv : v < 2 ^ width) (hA : Byt w.heap.size w A bs) :
    Calls Tryd.prog 65 #[.agg #[.int .i64 l.length, .slice A n c], .int .u64 v, .int .i64 (width : Int)] w (Res w (0, l ++ numBits v width)) := by
  have h64 : v < 2 ^ 64 := Nat.lt_of_lt_of_le hv (Nat.pow_le_pow_right (by decide) hw)
  have h := rput_any (l.length : Int) (width : Int) v A n c bs w hn (by rw [hn]; exact bytes_small his (by omega)) hA h64
  have e : putS (l.length : Int) bs v (width : Int) = (0, l ++ numBits v width) := by
    unfold putS
    rw [if_pos (isBits_good his (by omega)), if_pos ⟨by omega, by rw [Int.toNat_natCast]; exact Nat.div_eq_of_lt hv⟩, if_neg (by omega), isBits_listOf his, Int.toNat_natCast]
  rw [e] at h
  exact h
end Go.Proofs.YtcfbeelljhjnoaaDoor

namespace Go.Proofs.YtcfbeelljhjnoaaDoor
open Go.RowKit

set_option maxRecDepth 8000 in
set_option maxHeartbeats 2000000 in
theorem rbitsC_any (c : CS) (w : World) : Calls Tryd.prog 32 #[.agg c.cells] w (Res w (bitsC c)) := by
  have hck := fun W => rcheckC_any c 8 W
  obtain ⟨T, P, Mo, Nx, Me⟩ := c
  have hB : Below w.heap.size w ((w.alloc (.cells #[.int .i64 T, .int .i64 P, .int .i64 Mo, .int .i64 Nx, .int .i64 Me] 23)).alloc (.cells #[.int .i64 0, .slice none 0 0] 28)) := ((Below.refl _ _).alloc (Nat.le_refl _) _).alloc (by simp) _
  have k1 := (Blk.new w 23 #[.int .i64 T, .int .i64 P, .int .i64 Mo, .int .i64 Nx, .int .i64 Me]).alloc (.cells #[.int .i64 0, .slice none 0 0] 28)
  have k2 : Blk ((w.alloc (.cells #[.int .i64 T, .int .i64 P, .int .i64 Mo, .int .i64 Nx, .int .i64 Me] 23)).alloc (.cells #[.int .i64 0, .slice none 0 0] 28)) (w.heap.size + 1) 28 #[.int .i64 0, .slice none 0 0] := by simpa using Blk.new (w.alloc (.cells #[.int .i64 T, .int .i64 P, .int .i64 Mo, .int .i64 Nx, .int .i64 Me] 23)) 28 #[.int .i64 0, .slice none 0 0]
  unfold CS.cells at *
  dsimp only at *
  unfold bitsC
  by_cases hm : mayC ⟨T, P, Mo, Nx, Me⟩ 8 = true
  · rw [if_pos hm]
    have hc0 : checkC ⟨T, P, Mo, Nx, Me⟩ 8 = 0 := by unfold checkC; rw [if_neg (by omega), if_pos hm]
    rw [hc0] at hck
    unfold mayC at hm
    simp only [decide_eq_true_eq] at hm
    rw [show (2 : Int) ^ (8 : Int).toNat = 256 from by decide] at hm
    obtain ⟨t0, t1, p0, p1, m0, m1, n0, n1, e0, e1⟩ := hm
    obtain ⟨T', rfl⟩ := Int.eq_ofNat_of_zero_le t0
    obtain ⟨P', rfl⟩ := Int.eq_ofNat_of_zero_le p0
    obtain ⟨Mo', rfl⟩ := Int.eq_ofNat_of_zero_le m0
    obtain ⟨Nx', rfl⟩ := Int.eq_ofNat_of_zero_le n0
    obtain ⟨Me', rfl⟩ := Int.eq_ofNat_of_zero_le e0
    have u1 : IntKind.u64.wrap (T' : Int) = (T' : Int) := IntWalk.u64_in _ (by omega)
    have u2 : IntKind.u64.wrap (P' : Int) = (P' : Int) := IntWalk.u64_in _ (by omega)
    have u3 : IntKind.u64.wrap (Mo' : Int) = (Mo' : Int) := IntWalk.u64_in _ (by omega)
    have u4 : IntKind.u64.wrap (Nx' : Int) = (Nx' : Int) := IntWalk.u64_in _ (by omega)
    have u5 : IntKind.u64.wrap (Me' : Int) = (Me' : Int) := IntWalk.u64_in _ (by omega)
    unfold bitsOf
    dsimp only
    simp only [Int.toNat_natCast]
    obtain ⟨R, hR⟩ : ∃ R, R = numBits T' 8 ++ numBits P' 3 ++ numBits Mo' 2 ++ numBits Nx' 3 ++ numBits Me' 8 := ⟨_, rfl⟩
    rw [← hR]
    have HR := Lib.hid hR; clear hR
    have HCK := Lib.hid hck; clear hck hc0
    go_enter Tryd.func32, Tryd.ntmps32
    go_wp2_with fail
    refine (HCK.out _).mono ?_
    rintro e w1 ⟨rfl, hB1⟩
    replace k1 := k1.on hB1
    replace k2 := k2.on hB1
    have b1 := hB.trans (hB1.mono hB.size)
    have c0 := k1.cell 0; have c1 := k1.cell 1; have c2 := k1.cell 2; have c3 := k1.cell 3; have c4 := k1.cell 4
    simp at c0 c1 c2 c3 c4
    go_wp2_with fail
    have hp1 := rput_more [] none 0 0 [] T' 8 w1 rfl isBits_nil (by decide) (by decide) (by omega) (fun h => absurd rfl h)
    rw [List.nil_append] at hp1
    obtain ⟨L1, hL1⟩ : ∃ L, L = numBits T' 8 := ⟨_, rfl⟩
    rw [← hL1] at hp1
    have hl1 : L1.length = 8 := by rw [hL1, numBits_length]
    have HP1 := Lib.hid hp1; have HL1 := Lib.hid hl1; have HE1 := Lib.hid hL1; clear hp1 hl1 hL1
    refine HP1.out.mono ?_
    rintro e w2 ⟨A1, a1, b1', bs1, rfl, hn1, his1, _, hA1, hB2, hF1⟩
    dsimp only at his1
    replace k1 := k1.on hB2
    replace k2 := k2.on hB2
    have b2 := b1.trans (hB2.mono b1.size)
    have HN1 := Lib.hid hn1; have HI1 := Lib.hid his1; clear hn1 his1
    have z1 := k1.lt
    have z2 := k2.lt
    have d1 := k1.cell 1
    simp at d1
    clear c0 c1 c2 c3 c4
    dsimp only
    have al2 : Below w2.heap.size w2 (w2.alloc (.cells #[.int .i64 L1.length, .slice A1 a1 b1'] 28)) := (Below.refl _ _).alloc (Nat.le_refl _) _
    have k4 := Blk.new w2 28 #[.int .i64 L1.length, .slice A1 a1 b1']
    have hg4 : w.heap.size + 1 < w2.heap.size := z2
    replace k1 := k1.on al2
    replace k2 := k2.on al2
    have b3 := b2.trans (al2.mono b2.size)
    have hA1' := hA1.on al2
    have hF1' : Fresh w1.heap.size A1 bs1 := hF1
    go_wp2_with fail
    clear d1
    obtain ⟨g4, hg4e⟩ : ∃ g, g = w2.heap.size := ⟨_, rfl⟩
    rw [← hg4e] at k4 hg4 ⊢
    generalize w2.alloc (.cells #[.int .i64 L1.length, .slice A1 a1 b1'] 28) = W1 at *
    clear hg4e al2 hA1 hF1 hF1' z1 z2
    have hp2 := rput_more L1 A1 a1 b1' bs1 P' 3 W1 HN1.out HI1.out (by have := HL1.out; omega) (by decide) (by omega) hA1'
    obtain ⟨L2, hL2⟩ : ∃ L, L = L1 ++ numBits P' 3 := ⟨_, rfl⟩
    rw [← hL2] at hp2
    have hl2 : L2.length = 11 := by rw [hL2, List.length_append, numBits_length, HL1.out]
    have HP2 := Lib.hid hp2; have HL2 := Lib.hid hl2; have HE2 := Lib.hid hL2; clear hp2 hl2 hL2
    refine HP2.out.mono ?_
    rintro e V2 ⟨A2, a2, b2', bs2, rfl, hn2, his2, hle2, hA2, hBV2, hF2⟩
    dsimp only at his2 hle2
    replace k1 := k1.on hBV2
    replace k2 := k2.on hBV2
    have g4lt := k4.lt
    replace k4 := k4.on hBV2
    have b4 := b3.trans (hBV2.mono b3.size)
    have HN2 := Lib.hid hn2; have HI2 := Lib.hid his2; clear hn2 his2
    dsimp only
    obtain ⟨r0, r1, q0, q1⟩ := k4.two
    have d1 := k1.cell 2
    simp at d1
    have z1 := k1.lt
    have z4 := k4.lt
    have hne1 : w.heap.size ≠ g4 := by omega
    have hne2 : w.heap.size + 1 ≠ g4 := by omega
    have k4n : Blk ((V2.setCell ⟨g4, 0, none⟩ (.int .i64 L2.length)).setCell ⟨g4, 1, none⟩ (.slice A2 a2 b2')) g4 28 #[.int .i64 L2.length, .slice A2 a2 b2'] := k4.put2 _ _
    have k1n := (k1.far (p := ⟨g4, 0, none⟩) hne1 (.int .i64 L2.length)).far (p := ⟨g4, 1, none⟩) hne1 (.slice A2 a2 b2')
    have k2n := (k2.far (p := ⟨g4, 0, none⟩) hne2 (.int .i64 L2.length)).far (p := ⟨g4, 1, none⟩) hne2 (.slice A2 a2 b2')
    have hAn := (hA2.set_low hF2 (p := ⟨g4, 0, none⟩) g4lt (.int .i64 L2.length)).set_low hF2 (p := ⟨g4, 1, none⟩) g4lt (.slice A2 a2 b2')
    have hA2' : Byt ((V2.setCell ⟨g4, 0, none⟩ (.int .i64 L2.length)).setCell ⟨g4, 1, none⟩ (.slice A2 a2 b2')).heap.size ((V2.setCell ⟨g4, 0, none⟩ (.int .i64 L2.length)).setCell ⟨g4, 1, none⟩ (.slice A2 a2 b2')) A2 bs2 := by simpa using hAn
    have bb2 : Below w.heap.size w ((V2.setCell ⟨g4, 0, none⟩ (.int .i64 L2.length)).setCell ⟨g4, 1, none⟩ (.slice A2 a2 b2')) := (b4.setCell (p := ⟨g4, 0, none⟩) (by simp; omega) _).setCell (p := ⟨g4, 1, none⟩) (by simp; omega) _
    go_wp2_with fail
    clear d1 r0 r1 q0 q1 hAn k1 k2 k4 hA2 hF2 hBV2 z1 z4 b4
    have k1 := k1n; have k2 := k2n; have k4 := k4n; have b4 := bb2
    clear k1n k2n k4n bb2
    generalize (V2.setCell ⟨g4, 0, none⟩ (.int .i64 L2.length)).setCell ⟨g4, 1, none⟩ (.slice A2 a2 b2') = W2 at *
    clear g4lt hne1 hne2
    have hp3 := rput_more L2 A2 a2 b2' bs2 Mo' 2 W2 HN2.out HI2.out (by have := HL2.out; omega) (by decide) (by omega) hA2'
    obtain ⟨L3, hL3⟩ : ∃ L, L = L2 ++ numBits Mo' 2 := ⟨_, rfl⟩
    rw [← hL3] at hp3
    have hl3 : L3.length = 13 := by rw [hL3, List.length_append, numBits_length, HL2.out]
    have HP3 := Lib.hid hp3; have HL3 := Lib.hid hl3; have HE3 := Lib.hid hL3; clear hp3 hl3 hL3
    refine HP3.out.mono ?_
    rintro e V3 ⟨A3, a3, b3', bs3, rfl, hn3, his3, hle3, hA3, hBV3, hF3⟩
    dsimp only at his3 hle3
    replace k1 := k1.on hBV3
    replace k2 := k2.on hBV3
    have g4lt := k4.lt
    replace k4 := k4.on hBV3
    have b5 := b4.trans (hBV3.mono b4.size)
    have HN3 := Lib.hid hn3; have HI3 := Lib.hid his3; clear hn3 his3
    dsimp only
    obtain ⟨r0, r1, q0, q1⟩ := k4.two
    have d1 := k1.cell 3
    simp at d1
    have z1 := k1.lt
    have z4 := k4.lt
    have hne1 : w.heap.size ≠ g4 := by omega
    have hne2 : w.heap.size + 1 ≠ g4 := by omega
    have k4n : Blk ((V3.setCell ⟨g4, 0, none⟩ (.int .i64 L3.length)).setCell ⟨g4, 1, none⟩ (.slice A3 a3 b3')) g4 28 #[.int .i64 L3.length, .slice A3 a3 b3'] := k4.put2 _ _
    have k1n := (k1.far (p := ⟨g4, 0, none⟩) hne1 (.int .i64 L3.length)).far (p := ⟨g4, 1, none⟩) hne1 (.slice A3 a3 b3')
    have k2n := (k2.far (p := ⟨g4, 0, none⟩) hne2 (.int .i64 L3.length)).far (p := ⟨g4, 1, none⟩) hne2 (.slice A3 a3 b3')
    have hAn := (hA3.set_low hF3 (p := ⟨g4, 0, none⟩) g4lt (.int .i64 L3.length)).set_low hF3 (p := ⟨g4, 1, none⟩) g4lt (.slice A3 a3 b3')
    have hA3' : Byt ((V3.setCell ⟨g4, 0, none⟩ (.int .i64 L3.length)).setCell ⟨g4, 1, none⟩ (.slice A3 a3 b3')).heap.size ((V3.setCell ⟨g4, 0, none⟩ (.int .i64 L3.length)).setCell ⟨g4, 1, none⟩ (.slice A3 a3 b3')) A3 bs3 := by simpa using hAn
    have bb3 : Below w.heap.size w ((V3.setCell ⟨g4, 0, none⟩ (.int .i64 L3.length)).setCell ⟨g4, 1, none⟩ (.slice A3 a3 b3')) := (b5.setCell (p := ⟨g4, 0, none⟩) (by simp; omega) _).setCell (p := ⟨g4, 1, none⟩) (by simp; omega) _
    go_wp2_with fail
    clear d1 r0 r1 q0 q1 hAn k1 k2 k4 hA3 hF3 hBV3 z1 z4 b5
    have k1 := k1n; have k2 := k2n; have k4 := k4n; have b5 := bb3
    clear k1n k2n k4n bb3
    generalize (V3.setCell ⟨g4, 0, none⟩ (.int .i64 L3.length)).setCell ⟨g4, 1, none⟩ (.slice A3 a3 b3') = W3 at *
    clear g4lt hne1 hne2
    have hp4 := rput_more L3 A3 a3 b3' bs3 Nx' 3 W3 HN3.out HI3.out (by have := HL3.out; omega) (by decide) (by omega) hA3'
    obtain ⟨L4, hL4⟩ : ∃ L, L = L3 ++ numBits Nx' 3 := ⟨_, rfl⟩
    rw [← hL4] at hp4
    have hl4 : L4.length = 16 := by rw [hL4, List.length_append, numBits_length, HL3.out]
    have HP4 := Lib.hid hp4; have HL4 := Lib.hid hl4; have HE4 := Lib.hid hL4; clear hp4 hl4 hL4
    refine HP4.out.mono ?_
    rintro e V4 ⟨A4, a4, b4', bs4, rfl, hn4, his4, hle4, hA4, hBV4, hF4⟩
    dsimp only at his4 hle4
    replace k1 := k1.on hBV4
    replace k2 := k2.on hBV4
    have g4lt := k4.lt
    replace k4 := k4.on hBV4
    have b6 := b5.trans (hBV4.mono b5.size)
    have HN4 := Lib.hid hn4; have HI4 := Lib.hid his4; clear hn4 his4
    dsimp only
    obtain ⟨r0, r1, q0, q1⟩ := k4.two
    have d1 := k1.cell 4
    simp at d1
    have z1 := k1.lt
    have z4 := k4.lt
    have hne1 : w.heap.size ≠ g4 := by omega
    have hne2 : w.heap.size + 1 ≠ g4 := by omega
    have k4n : Blk ((V4.setCell ⟨g4, 0, none⟩ (.int .i64 L4.length)).setCell ⟨g4, 1, none⟩ (.slice A4 a4 b4')) g4 28 #[.int .i64 L4.length, .slice A4 a4 b4'] := k4.put2 _ _
    have k1n := (k1.far (p := ⟨g4, 0, none⟩) hne1 (.int .i64 L4.length)).far (p := ⟨g4, 1, none⟩) hne1 (.slice A4 a4 b4')
    have k2n := (k2.far (p := ⟨g4, 0, none⟩) hne2 (.int .i64 L4.length)).far (p := ⟨g4, 1, none⟩) hne2 (.slice A4 a4 b4')
    have hAn := (hA4.set_low hF4 (p := ⟨g4, 0, none⟩) g4lt (.int .i64 L4.length)).set_low hF4 (p := ⟨g4, 1, none⟩) g4lt (.slice A4 a4 b4')
    have hA4' : Byt ((V4.setCell ⟨g4, 0, none⟩ (.int .i64 L4.length)).setCell ⟨g4, 1, none⟩ (.slice A4 a4 b4')).heap.size ((V4.setCell ⟨g4, 0, none⟩ (.int .i64 L4.length)).setCell ⟨g4, 1, none⟩ (.slice A4 a4 b4')) A4 bs4 := by simpa using hAn
    have bb4 : Below w.heap.size w ((V4.setCell ⟨g4, 0, none⟩ (.int .i64 L4.length)).setCell ⟨g4, 1, none⟩ (.slice A4 a4 b4')) := (b6.setCell (p := ⟨g4, 0, none⟩) (by simp; omega) _).setCell (p := ⟨g4, 1, none⟩) (by simp; omega) _
    go_wp2_with fail
    clear d1 r0 r1 q0 q1 hAn k1 k2 k4 hA4 hF4 hBV4 z1 z4 b6
    have k1 := k1n; have k2 := k2n; have k4 := k4n; have b6 := bb4
    clear k1n k2n k4n bb4
    generalize (V4.setCell ⟨g4, 0, none⟩ (.int .i64 L4.length)).setCell ⟨g4, 1, none⟩ (.slice A4 a4 b4') = W4 at *
    clear g4lt hne1 hne2
    have hp5 := rput_more L4 A4 a4 b4' bs4 Me' 8 W4 HN4.out HI4.out (by have := HL4.out; omega) (by decide) (by omega) hA4'
    obtain ⟨L5, hL5⟩ : ∃ L, L = L4 ++ numBits Me' 8 := ⟨_, rfl⟩
    rw [← hL5] at hp5
    have hl5 : L5.length = 24 := by rw [hL5, List.length_append, numBits_length, HL4.out]
    have HP5 := Lib.hid hp5; have HL5 := Lib.hid hl5; have HE5 := Lib.hid hL5; clear hp5 hl5 hL5
    refine HP5.out.mono ?_
    rintro e V5 ⟨A5, a5, b5', bs5, rfl, hn5, his5, hle5, hA5, hBV5, hF5⟩
    dsimp only at his5 hle5
    replace k1 := k1.on hBV5
    have k2p := k2.lt
    replace k2 := k2.on hBV5
    have g4lt := k4.lt
    replace k4 := k4.on hBV5
    have b7 := b6.trans (hBV5.mono b6.size)
    have HN5 := Lib.hid hn5; have HI5 := Lib.hid his5; clear hn5 his5
    dsimp only
    obtain ⟨r0, r1, q0, q1⟩ := k2.two
    have z2 := k2.lt
    have y2 : w.heap.size + 1 < W4.heap.size := by have := k2p; omega
    go_wp2_with fail
    have k2n : Blk ((V5.setCell ⟨w.heap.size + 1, 0, none⟩ (.int .i64 L5.length)).setCell ⟨w.heap.size + 1, 1, none⟩ (.slice A5 a5 b5')) (w.heap.size + 1) 28 #[.int .i64 L5.length, .slice A5 a5 b5'] := k2.put2 _ _
    have hAn := (hA5.set_low hF5 (p := ⟨w.heap.size + 1, 0, none⟩) y2 (.int .i64 L5.length)).set_low hF5 (p := ⟨w.heap.size + 1, 1, none⟩) y2 (.slice A5 a5 b5')
    have bb5 : Below w.heap.size w ((V5.setCell ⟨w.heap.size + 1, 0, none⟩ (.int .i64 L5.length)).setCell ⟨w.heap.size + 1, 1, none⟩ (.slice A5 a5 b5')) := (b7.setCell (p := ⟨w.heap.size + 1, 0, none⟩) (by simp) _).setCell (p := ⟨w.heap.size + 1, 1, none⟩) (by simp) _
    have hRL : R = L5 := by rw [HR.out, HE5.out, HE4.out, HE3.out, HE2.out, HE1.out]
    obtain ⟨d1, d2, -, -⟩ := k2n.two
    have hsz := b6.size
    have hres : Res w (0, R) (.returned (.tuple #[.agg #[.int .i64 L5.length, .slice A5 a5 b5'], .int .i64 0])) ((V5.setCell ⟨w.heap.size + 1, 0, none⟩ (.int .i64 L5.length)).setCell ⟨w.heap.size + 1, 1, none⟩ (.slice A5 a5 b5')) := by
      rw [hRL]
      exact ⟨A5, a5, b5', bs5, rfl, HN5.out, HI5.out, hle5, by simpa using hAn, bb5, fun a h1 h2 => Nat.le_trans hsz (hF5 a h1 h2)⟩
    exact bodyPost_ret (v := .tuple #[.agg #[.int .i64 L5.length, .slice A5 a5 b5'], .int .i64 0]) (by simp [results, Tryd.results32, go_sem, r0, r1]) rfl hres
  · rw [if_neg hm]
    have hc0 : checkC ⟨T, P, Mo, Nx, Me⟩ 8 = 40 := by unfold checkC; rw [if_neg (by omega), if_neg hm]
    rw [hc0] at hck
    clear hm
    have HCK := Lib.hid hck; clear hck hc0
    go_enter Tryd.func32, Tryd.ntmps32
    go_wp2_with fail
    refine (HCK.out _).mono ?_
    rintro e w1 ⟨rfl, hB1⟩
    replace k1 := k1.on hB1
    replace k2 := k2.on hB1
    have b1 := hB.trans (hB1.mono hB.size)
    obtain ⟨r0, r1, q0, q1⟩ := k2.two
    have z2 := k2.lt
    go_wp2
    exact bodyPost_ret (v := .tuple #[.agg #[.int .i64 0, .slice none 0 0], .int .i64 40]) (by simp [results, Tryd.results32, go_sem, r0, r1]) rfl
      (res_err 40 ((b1.setCell (p := ⟨w.heap.size + 1, 0, none⟩) (by simp) _).setCell (p := ⟨w.heap.size + 1, 1, none⟩) (by simp) _))
end Go.Proofs.YtcfbeelljhjnoaaDoor

namespace Go.Proofs.YtcfbeelljhjnoaaDoor
open Go.RowKit

/-- Slots, by the document: an error and a number. -/
def slotsC (a b : CS) (n : Int) : Int × Int :=
  if checkC a n ≠ 0 then (checkC a n, 0) else if checkC b n ≠ 0 then (checkC b n, 0) else (0, (b.T * n + b.P - a.T * n - a.P + 256 * n) % (256 * n))

/-- A state that may be. -/
theorem checkC_zero {c : CS} {n : Int} (h : checkC c n = 0) : 4 ≤ n ∧ n ≤ 8 ∧ 0 ≤ c.T ∧ c.T ≤ 255 ∧ 0 ≤ c.P ∧ c.P < n ∧ 0 ≤ c.Mo ∧ c.Mo < 4 ∧ 0 ≤ c.Nx ∧ c.Nx ≤ 4 ∧ 0 ≤ c.Me ∧ c.Me < 2 ^ n.toNat := by
  unfold checkC at h
  by_cases h0 : n < 4 ∨ 8 < n
  · rw [if_pos h0] at h; omega
  · rw [if_neg h0] at h
    by_cases hm : mayC c n = true
    · unfold mayC at hm
      simp only [decide_eq_true_eq] at hm
      exact ⟨by omega, by omega, hm⟩
    · rw [if_neg hm] at h; omega

end Go.Proofs.YtcfbeelljhjnoaaDoor

namespace Go.Proofs.YtcfbeelljhjnoaaDoor
open Go.RowKit

set_option maxRecDepth 8000 in
set_option maxHeartbeats 400000 in
theorem values_any (c : CS) (w : World) : Calls Tryd.prog 58 #[.agg c.cells] w fun e w' => e = .returned (.agg c.cells) ∧ Below w.heap.size w w' := by
  obtain ⟨T, P, Mo, Nx, Me⟩ := c
  unfold CS.cells
  dsimp only
  go_enter Tryd.func58, Tryd.ntmps58
  go_wp2
  exact bodyPost_ret (v := .agg #[.int .i64 T, .int .i64 P, .int .i64 Mo, .int .i64 Nx, .int .i64 Me]) (by simp [results, Tryd.results58, go_sem]) rfl ⟨rfl, ((Below.refl _ _).alloc (Nat.le_refl _) _).alloc (by simp) _⟩

set_option maxRecDepth 8000 in
set_option maxHeartbeats 400000 in
theorem stateOf_any (c : CS) (w : World) : Calls Tryd.prog 88 #[.agg c.cells] w fun e w' => e = .returned (.agg c.cells) ∧ Below w.heap.size w w' := by
  obtain ⟨T, P, Mo, Nx, Me⟩ := c
  unfold CS.cells
  dsimp only
  go_enter Tryd.func88, Tryd.ntmps88
  go_wp2
  exact bodyPost_ret (v := .agg #[.int .i64 T, .int .i64 P, .int .i64 Mo, .int .i64 Nx, .int .i64 Me]) (by simp [results, Tryd.results88, go_sem]) rfl ⟨rfl, ((Below.refl _ _).alloc (Nat.le_refl _) _).alloc (by simp) _⟩

/-- The first numbers that the fields may not be. -/
def endsC (n : Int) : CS := ⟨256, n, 4, 5, 2 ^ n.toNat⟩
set_option maxRecDepth 8000 in
set_option maxHeartbeats 400000 in
theorem ends_any (n : Int) (w : World) (h0 : 4 ≤ n) (h1 : n ≤ 8) : Calls Tryd.prog 70 #[.int .i64 n] w fun e w' => e = .returned (.agg (endsC n).cells) ∧ Below w.heap.size w w' := by
  have hn : n = 4 ∨ n = 5 ∨ n = 6 ∨ n = 7 ∨ n = 8 := by omega
  clear h0 h1
  unfold endsC CS.cells
  dsimp only
  rcases hn with rfl | rfl | rfl | rfl | rfl
  · go_enter Tryd.func70, Tryd.ntmps70
    go_wp2
    exact bodyPost_ret (v := .agg #[.int .i64 256, .int .i64 4, .int .i64 4, .int .i64 5, .int .i64 16]) (by simp [results, Tryd.results70, go_sem]) rfl ⟨rfl, (Below.refl _ _).alloc (Nat.le_refl _) _⟩
  · go_enter Tryd.func70, Tryd.ntmps70
    go_wp2
    exact bodyPost_ret (v := .agg #[.int .i64 256, .int .i64 5, .int .i64 4, .int .i64 5, .int .i64 32]) (by simp [results, Tryd.results70, go_sem]) rfl ⟨rfl, (Below.refl _ _).alloc (Nat.le_refl _) _⟩
  · go_enter Tryd.func70, Tryd.ntmps70
    go_wp2
    exact bodyPost_ret (v := .agg #[.int .i64 256, .int .i64 6, .int .i64 4, .int .i64 5, .int .i64 64]) (by simp [results, Tryd.results70, go_sem]) rfl ⟨rfl, (Below.refl _ _).alloc (Nat.le_refl _) _⟩
  · go_enter Tryd.func70, Tryd.ntmps70
    go_wp2
    exact bodyPost_ret (v := .agg #[.int .i64 256, .int .i64 7, .int .i64 4, .int .i64 5, .int .i64 128]) (by simp [results, Tryd.results70, go_sem]) rfl ⟨rfl, (Below.refl _ _).alloc (Nat.le_refl _) _⟩
  · go_enter Tryd.func70, Tryd.ntmps70
    go_wp2
    exact bodyPost_ret (v := .agg #[.int .i64 256, .int .i64 8, .int .i64 4, .int .i64 5, .int .i64 256]) (by simp [results, Tryd.results70, go_sem]) rfl ⟨rfl, (Below.refl _ _).alloc (Nat.le_refl _) _⟩

end Go.Proofs.YtcfbeelljhjnoaaDoor

namespace Go.Proofs.YtcfbeelljhjnoaaDoor
open Go.RowKit

/-- A field by its place. -/
def CS.fld (c : CS) (k : Nat) : Int := if k = 0 then c.T else if k = 1 then c.P else if k = 2 then c.Mo else if k = 3 then c.Nx else c.Me
theorem five {k : Nat} (h : k < 5) : k = 0 ∨ k = 1 ∨ k = 2 ∨ k = 3 ∨ k = 4 := by omega
theorem CS.cells_at (c : CS) {k : Nat} (h : k < 5) : c.cells[k]? = some (.int .i64 (c.fld k)) := by
  rcases five h with rfl | rfl | rfl | rfl | rfl <;> rfl
theorem CS.cells_size (c : CS) : c.cells.size = 5 := rfl
theorem mayC_iff (c : CS) (n : Int) : mayC c n = true ↔ ∀ k, k < 5 → 0 ≤ c.fld k ∧ c.fld k < (endsC n).fld k := by
  unfold mayC
  simp only [decide_eq_true_eq]
  constructor
  · intro h k hk
    rcases five hk with rfl | rfl | rfl | rfl | rfl <;> simp [CS.fld, endsC] <;> omega
  · intro h
    have a0 := h 0 (by omega)
    have a1 := h 1 (by omega)
    have a2 := h 2 (by omega)
    have a3 := h 3 (by omega)
    have a4 := h 4 (by omega)
    simp [CS.fld, endsC] at a0 a1 a2 a3 a4
    omega
/-- What Check says of a state with a count of nodes that may be. -/
def may40 (c : CS) (n : Int) : Int := if mayC c n = true then 0 else 40

set_option maxRecDepth 8000 in
set_option maxHeartbeats 2000000 in
theorem checkC_any (c : CS) (n : Int) (w : World) : Calls Tryd.prog 39 #[.agg c.cells, .int .i64 n] w fun e w' => e = .returned (.int .i64 (checkC c n)) ∧ Below w.heap.size w w' := by
  have hv := fun W => values_any c W
  have hmay := mayC_iff c n
  by_cases h0 : n < 4 ∨ 8 < n
  · have hr : checkC c n = 2 := by unfold checkC; rw [if_pos h0]
    rw [hr]
    clear hr hv hmay
    obtain ⟨T, P, Mo, Nx, Me⟩ := c
    unfold CS.cells
    dsimp only
    have hB : Below w.heap.size w (w.alloc (.cells #[.int .i64 T, .int .i64 P, .int .i64 Mo, .int .i64 Nx, .int .i64 Me] 23)) := (Below.refl _ _).alloc (Nat.le_refl _) _
    have HB := Lib.hid hB; clear hB
    by_cases h4 : n < 4
    · have d1 : decide (n < 4) = true := by simpa using h4
      clear h0
      go_enter Tryd.func39, Tryd.ntmps39
      go_wp2
      go_ret
      exact ⟨rfl, HB.out⟩
    · have d1 : decide (n < 4) = false := by simpa using h4
      have d2 : decide (8 < n) = true := by simp; omega
      clear h0
      go_enter Tryd.func39, Tryd.ntmps39
      go_wp2
      go_ret
      exact ⟨rfl, HB.out⟩
  · have d1 : decide (n < 4) = false := by simp; omega
    have d2 : decide (8 < n) = false := by simp; omega
    have he := fun W => ends_any n W (by omega) (by omega)
    have hr : checkC c n = may40 c n := by unfold checkC may40; rw [if_neg h0]
    rw [hr]
    clear hr h0
    obtain ⟨R, hR⟩ : ∃ R, R = may40 c n := ⟨_, rfl⟩
    rw [← hR]
    have HR := Lib.hid hR; have HM := Lib.hid hmay; clear hR hmay
    generalize hends : endsC n = en at *
    have HV := Lib.hid hv; have HE := Lib.hid he; clear hv he hends
    obtain ⟨c', hc'⟩ : ∃ c', c' = c := ⟨_, rfl⟩
    obtain ⟨T, P, Mo, Nx, Me⟩ := c
    obtain ⟨en', hen'⟩ : ∃ en', en' = en := ⟨_, rfl⟩
    obtain ⟨E0, E1, E2, E3, E4⟩ := en
    have HC := Lib.hid hc'; have HEN := Lib.hid hen'; clear hc' hen'
    unfold CS.cells at *
    dsimp only at *
    have hB : Below w.heap.size w (w.alloc (.cells #[.int .i64 T, .int .i64 P, .int .i64 Mo, .int .i64 Nx, .int .i64 Me] 23)) := (Below.refl _ _).alloc (Nat.le_refl _) _
    go_enter Tryd.func39, Tryd.ntmps39
    go_wp2_with fail
    refine (HV.out _).mono ?_
    rintro e w1 ⟨rfl, hB1⟩
    dsimp only
    go_wp2_with fail
    refine (HE.out _).mono ?_
    rintro e w2 ⟨rfl, hB2⟩
    dsimp only
    have hb1 := hB.trans (hB1.mono hB.size)
    have hb2 := hb1.trans (hB2.mono hb1.size)
    go_wp2_with fail
    have k5 : Blk ((w2.alloc (.cells #[.int .i64 T, .int .i64 P, .int .i64 Mo, .int .i64 Nx, .int .i64 Me] 83)).alloc (.cells #[.int .i64 E0, .int .i64 E1, .int .i64 E2, .int .i64 E3, .int .i64 E4] 83)) w2.heap.size 83 #[.int .i64 T, .int .i64 P, .int .i64 Mo, .int .i64 Nx, .int .i64 Me] := (Blk.new w2 _ _).alloc _
    have k6 : Blk ((w2.alloc (.cells #[.int .i64 T, .int .i64 P, .int .i64 Mo, .int .i64 Nx, .int .i64 Me] 83)).alloc (.cells #[.int .i64 E0, .int .i64 E1, .int .i64 E2, .int .i64 E3, .int .i64 E4] 83)) (w2.heap.size + 1) 83 #[.int .i64 E0, .int .i64 E1, .int .i64 E2, .int .i64 E3, .int .i64 E4] := by
      simpa using Blk.new (w2.alloc (.cells #[.int .i64 T, .int .i64 P, .int .i64 Mo, .int .i64 Nx, .int .i64 Me] 83)) 83 #[.int .i64 E0, .int .i64 E1, .int .i64 E2, .int .i64 E3, .int .i64 E4]
    have hb3 : Below w.heap.size w ((w2.alloc (.cells #[.int .i64 T, .int .i64 P, .int .i64 Mo, .int .i64 Nx, .int .i64 Me] 83)).alloc (.cells #[.int .i64 E0, .int .i64 E1, .int .i64 E2, .int .i64 E3, .int .i64 E4] 83)) := (hb2.alloc (hb2.size) _).alloc (by have := hb2.size; simp; omega) _
    clear hB hB1 hB2 hb1 hb2
    generalize (w2.alloc (.cells #[.int .i64 T, .int .i64 P, .int .i64 Mo, .int .i64 Nx, .int .i64 Me] 83)).alloc (.cells #[.int .i64 E0, .int .i64 E1, .int .i64 E2, .int .i64 E3, .int .i64 E4] 83) = w3 at *
    go_loopw [18] (fun i wr => ∃ k : Nat, k ≤ 5 ∧ i = .int .i64 k ∧ (∀ j : Nat, j < k → 0 ≤ CS.fld ⟨T, P, Mo, Nx, Me⟩ j ∧ CS.fld ⟨T, P, Mo, Nx, Me⟩ j < CS.fld ⟨E0, E1, E2, E3, E4⟩ j) ∧ Below w.heap.size w wr ∧ Blk wr w2.heap.size 83 (CS.cells ⟨T, P, Mo, Nx, Me⟩) ∧ Blk wr (w2.heap.size + 1) 83 (CS.cells ⟨E0, E1, E2, E3, E4⟩))
      (fun i _ => 5 - (intOf i).toNat)
    case atStart => exact ⟨0, by omega, rfl, fun j h => absurd h (by omega), hb3, k5, k6⟩
    case round =>
      obtain ⟨k, hk, rfl, hall, hB, h5, h6⟩ := hrel
      have HALL := Lib.hid hall; clear hall
      by_cases hlt : k < 5
      · have c5 := h5.cell k
        have c6 := h6.cell k
        rw [CS.cells_at _ hlt] at c5 c6
        have hk0 : (0 : Int) ≤ (k : Int) := by omega
        have hk1 : (k : Int) < 5 := by omega
        obtain ⟨x, hx⟩ : ∃ x, x = CS.fld ⟨T, P, Mo, Nx, Me⟩ k := ⟨_, rfl⟩
        obtain ⟨y, hy⟩ : ∃ y, y = CS.fld ⟨E0, E1, E2, E3, E4⟩ k := ⟨_, rfl⟩
        rw [← hx] at c5
        rw [← hy] at c6
        have HX := Lib.hid hx; have HY := Lib.hid hy; clear hx hy
        by_cases h1 : x < 0
        · have e1 : decide (x < 0) = true := by simpa using h1
          have hq : R = 40 := by
            rw [HR.out]; unfold may40; rw [if_neg]
            intro hm
            have := (HM.out.1 hm k hlt).1
            rw [← HX.out] at this; omega
          subst hq
          go_wp2
          go_quiet (fail)
          go_wp2
          go_ret
          exact ⟨rfl, below_drewN hB _⟩
        · have e1 : decide (x < 0) = false := by simpa using h1
          by_cases h2 : y ≤ x
          · have e2 : decide (y ≤ x) = true := by simpa using h2
            have hq : R = 40 := by
              rw [HR.out]; unfold may40; rw [if_neg]
              intro hm
              have := (HM.out.1 hm k hlt).2
              rw [← HX.out, ← HY.out] at this; omega
            subst hq
            go_wp2
            go_quiet (fail)
            go_wp2
            go_ret
            exact ⟨rfl, below_drewN hB _⟩
          · have e2 : decide (y ≤ x) = false := by simpa using h2
            go_wp2
            go_quiet (fail)
            go_wp2
            go_roundw
            case rel =>
              refine ⟨k + 1, by omega, by go_num, fun j hj => ?_, below_drewN hB _, h5.drewN _, h6.drewN _⟩
              rcases Nat.lt_or_ge j k with h | h
              · exact HALL.out j h
              · obtain rfl : j = k := by omega
                rw [← HX.out, ← HY.out]; omega
            case measure => simp [intOf]; omega
      · obtain rfl : k = 5 := by omega
        have hq : R = 0 := by rw [HR.out]; unfold may40; rw [if_pos (HM.out.2 HALL.out)]
        subst hq
        go_wp2
        go_ret
        exact ⟨rfl, hB⟩
end Go.Proofs.YtcfbeelljhjnoaaDoor

namespace Go.Proofs.YtcfbeelljhjnoaaDoor
open Go.RowKit

/-- Step, by the document: an error and a state. -/
def goneC (c : CS) (n : Int) : CS := if c.P + 1 < n then ⟨c.T, c.P + 1, c.Mo, c.Nx, c.Me⟩ else ⟨(c.T + 1) % 256, 0, if c.Nx = 0 then c.Mo else c.Nx - 1, 0, c.Me⟩
def zeroC : CS := ⟨0, 0, 0, 0, 0⟩
def stepC (c : CS) (n : Int) : Int × CS := if checkC c n = 0 then (0, goneC c n) else (checkC c n, zeroC)
/-- What a call answers: an error's number and a state. -/
def ResC (w : World) (r : Int × CS) (e : Ending) (w' : World) : Prop := e = .returned (.tuple #[.agg r.2.cells, .int .i64 r.1]) ∧ Below w.heap.size w w'
/-- A box of five cells. -/
theorem Blk.five {w : World} {g : Nat} {t : TypeId} {a b c d e : Value} (h : Blk w g t #[a, b, c, d, e]) :
    (w.cell? ⟨g, 0, none⟩ = some a ∧ w.cell? ⟨g, 1, none⟩ = some b ∧ w.cell? ⟨g, 2, none⟩ = some c ∧ w.cell? ⟨g, 3, none⟩ = some d ∧ w.cell? ⟨g, 4, none⟩ = some e) ∧
    (w.frozen? ⟨g, 0, none⟩ = false ∧ w.frozen? ⟨g, 1, none⟩ = false ∧ w.frozen? ⟨g, 2, none⟩ = false ∧ w.frozen? ⟨g, 3, none⟩ = false ∧ w.frozen? ⟨g, 4, none⟩ = false) :=
  ⟨⟨by simpa using h.cell 0, by simpa using h.cell 1, by simpa using h.cell 2, by simpa using h.cell 3, by simpa using h.cell 4⟩, h.frozen 0, h.frozen 1, h.frozen 2, h.frozen 3, h.frozen 4⟩
abbrev cC (T P Mo Nx Me : Int) : Array Value := #[.int .i64 T, .int .i64 P, .int .i64 Mo, .int .i64 Nx, .int .i64 Me]
theorem two_boxes (w : World) (T P Mo Nx Me : Int) :
    Blk ((w.alloc (.cells #[.int .i64 T, .int .i64 P, .int .i64 Mo, .int .i64 Nx, .int .i64 Me] 23)).alloc (.cells #[.int .i64 0, .int .i64 0, .int .i64 0, .int .i64 0, .int .i64 0] 23)) w.heap.size 23 #[.int .i64 T, .int .i64 P, .int .i64 Mo, .int .i64 Nx, .int .i64 Me] ∧
    Blk ((w.alloc (.cells #[.int .i64 T, .int .i64 P, .int .i64 Mo, .int .i64 Nx, .int .i64 Me] 23)).alloc (.cells #[.int .i64 0, .int .i64 0, .int .i64 0, .int .i64 0, .int .i64 0] 23)) (w.heap.size + 1) 23 #[.int .i64 0, .int .i64 0, .int .i64 0, .int .i64 0, .int .i64 0] ∧
    Below w.heap.size w ((w.alloc (.cells #[.int .i64 T, .int .i64 P, .int .i64 Mo, .int .i64 Nx, .int .i64 Me] 23)).alloc (.cells #[.int .i64 0, .int .i64 0, .int .i64 0, .int .i64 0, .int .i64 0] 23)) := by
  refine ⟨(Blk.new w _ _).alloc _, ?_, ((Below.refl _ _).alloc (Nat.le_refl _) _).alloc (by simp) _⟩
  simpa using Blk.new (w.alloc (.cells #[.int .i64 T, .int .i64 P, .int .i64 Mo, .int .i64 Nx, .int .i64 Me] 23)) 23 #[.int .i64 0, .int .i64 0, .int .i64 0, .int .i64 0, .int .i64 0]

end Go.Proofs.YtcfbeelljhjnoaaDoor

namespace Go.Proofs.YtcfbeelljhjnoaaDoor
open Go.RowKit

theorem eight {n : Int} (h0 : 0 ≤ n ∧ n < 8) : n = 0 ∨ n = 1 ∨ n = 2 ∨ n = 3 ∨ n = 4 ∨ n = 5 ∨ n = 6 ∨ n = 7 := by omega
/-- With and Without, by the document. -/
def withC (c : CS) (n : Int) : CS := if 0 ≤ n ∧ n < 8 then ⟨c.T, c.P, c.Mo, c.Nx, bits .or .i64 c.Me (2 ^ n.toNat)⟩ else c
def withoutC (c : CS) (n : Int) : CS := if 0 ≤ n ∧ n < 8 then ⟨c.T, c.P, c.Mo, c.Nx, bits .andNot .i64 c.Me (2 ^ n.toNat)⟩ else c
/-- Is the bit 2^k of a number 1? -/
def hasB (m : Int) (k : Nat) : Bool := decide (m / 2 ^ k % 2 = 1)
def hasC (c : CS) (n : Int) : Bool := decide (0 ≤ n ∧ n < 8) && hasB c.Me n.toNat
theorem i64_and1 (m : Int) : bits .and .i64 m 1 = m % 2 := by
  have h1 : (BitVec.ofInt 64 1).toNat = 2 ^ 1 - 1 := by decide
  have key : (BitVec.ofInt 64 m &&& BitVec.ofInt 64 1).toNat = (m % ((2 ^ 64 : Nat) : Int)).toNat % 2 ^ 1 := by
    rw [BitVec.toNat_and, BitVec.toNat_ofInt, h1, Nat.and_two_pow_sub_one_eq_mod]
  show IntKind.i64.wrap ((BitVec.ofInt 64 m &&& BitVec.ofInt 64 1).toNat : Nat) = m % 2
  rw [key, IntKind.wrap_i64]
  omega
theorem i64_andPow (m p : Int) (k : Nat) (hp : (BitVec.ofInt 64 p).toNat = 2 ^ k) : bits .and .i64 m p = IntKind.i64.wrap (((m % ((2 ^ 64 : Nat) : Int)).toNat / 2 ^ k % 2 * 2 ^ k : Nat) : Int) := by
  have key : (BitVec.ofInt 64 m &&& BitVec.ofInt 64 p).toNat = (m % ((2 ^ 64 : Nat) : Int)).toNat / 2 ^ k % 2 * 2 ^ k := by
    rw [BitVec.toNat_and, BitVec.toNat_ofInt, hp, nat_bit]
  show IntKind.i64.wrap ((BitVec.ofInt 64 m &&& BitVec.ofInt 64 p).toNat : Nat) = _
  rw [key]
theorem bne_dec {a b : Int} {p : Prop} [Decidable p] (h : a ≠ b ↔ p) : (a != b) = decide p := by
  by_cases hp : p
  · simp [hp, h.2 hp]
  · have := mt h.1 hp
    simp at this
    simp [hp, this]
theorem has_shr0 (m : Int) : (bits .and .i64 (m / 1) 1 == 1) = hasB m 0 := by
  rw [i64_and1]; unfold hasB; rw [show (2 : Int) ^ 0 = 1 from by decide]; rfl
theorem has_and0 (m : Int) : (bits .and .i64 m 1 != 0) = hasB m 0 := by
  rw [i64_andPow m 1 0 (by decide)]; unfold hasB; rw [show (2 : Int) ^ 0 = 1 from by decide]
  refine bne_dec ?_
  rw [IntKind.wrap_i64]; omega
theorem has_shr1 (m : Int) : (bits .and .i64 (m / 2) 1 == 1) = hasB m 1 := by
  rw [i64_and1]; unfold hasB; rw [show (2 : Int) ^ 1 = 2 from by decide]; rfl
theorem has_and1 (m : Int) : (bits .and .i64 m 2 != 0) = hasB m 1 := by
  rw [i64_andPow m 2 1 (by decide)]; unfold hasB; rw [show (2 : Int) ^ 1 = 2 from by decide]
  refine bne_dec ?_
  rw [IntKind.wrap_i64]; omega
theorem has_shr2 (m : Int) : (bits .and .i64 (m / 4) 1 == 1) = hasB m 2 := by
  rw [i64_and1]; unfold hasB; rw [show (2 : Int) ^ 2 = 4 from by decide]; rfl
theorem has_and2 (m : Int) : (bits .and .i64 m 4 != 0) = hasB m 2 := by
  rw [i64_andPow m 4 2 (by decide)]; unfold hasB; rw [show (2 : Int) ^ 2 = 4 from by decide]
  refine bne_dec ?_
  rw [IntKind.wrap_i64]; omega
theorem has_shr3 (m : Int) : (bits .and .i64 (m / 8) 1 == 1) = hasB m 3 := by
  rw [i64_and1]; unfold hasB; rw [show (2 : Int) ^ 3 = 8 from by decide]; rfl
theorem has_and3 (m : Int) : (bits .and .i64 m 8 != 0) = hasB m 3 := by
  rw [i64_andPow m 8 3 (by decide)]; unfold hasB; rw [show (2 : Int) ^ 3 = 8 from by decide]
  refine bne_dec ?_
  rw [IntKind.wrap_i64]; omega
theorem has_shr4 (m : Int) : (bits .and .i64 (m / 16) 1 == 1) = hasB m 4 := by
  rw [i64_and1]; unfold hasB; rw [show (2 : Int) ^ 4 = 16 from by decide]; rfl
theorem has_and4 (m : Int) : (bits .and .i64 m 16 != 0) = hasB m 4 := by
  rw [i64_andPow m 16 4 (by decide)]; unfold hasB; rw [show (2 : Int) ^ 4 = 16 from by decide]
  refine bne_dec ?_
  rw [IntKind.wrap_i64]; omega
theorem has_shr5 (m : Int) : (bits .and .i64 (m / 32) 1 == 1) = hasB m 5 := by
  rw [i64_and1]; unfold hasB; rw [show (2 : Int) ^ 5 = 32 from by decide]; rfl
theorem has_and5 (m : Int) : (bits .and .i64 m 32 != 0) = hasB m 5 := by
  rw [i64_andPow m 32 5 (by decide)]; unfold hasB; rw [show (2 : Int) ^ 5 = 32 from by decide]
  refine bne_dec ?_
  rw [IntKind.wrap_i64]; omega
theorem has_shr6 (m : Int) : (bits .and .i64 (m / 64) 1 == 1) = hasB m 6 := by
  rw [i64_and1]; unfold hasB; rw [show (2 : Int) ^ 6 = 64 from by decide]; rfl
theorem has_and6 (m : Int) : (bits .and .i64 m 64 != 0) = hasB m 6 := by
  rw [i64_andPow m 64 6 (by decide)]; unfold hasB; rw [show (2 : Int) ^ 6 = 64 from by decide]
  refine bne_dec ?_
  rw [IntKind.wrap_i64]; omega
theorem has_shr7 (m : Int) : (bits .and .i64 (m / 128) 1 == 1) = hasB m 7 := by
  rw [i64_and1]; unfold hasB; rw [show (2 : Int) ^ 7 = 128 from by decide]; rfl
theorem has_and7 (m : Int) : (bits .and .i64 m 128 != 0) = hasB m 7 := by
  rw [i64_andPow m 128 7 (by decide)]; unfold hasB; rw [show (2 : Int) ^ 7 = 128 from by decide]
  refine bne_dec ?_
  rw [IntKind.wrap_i64]; omega
end Go.Proofs.YtcfbeelljhjnoaaDoor

namespace Go.Proofs.YtcfbeelljhjnoaaDoor
open Go.RowKit

/-- The widths that the program's text lays. -/
def widL : List Int := [8, 3, 2, 3, 8]
/-- The array's cells hold them. -/
def WTab (w : World) : Prop := 0 < w.heap.size ∧ 0 < w.heap.size ∧ ∀ i, i < 5 → w.cell? ⟨0, i, none⟩ = some (.int .i64 (widL.getD i 0))
theorem WTab.below {B : Nat} {w w' : World} (h : WTab w) (hb : Below B w w') (hB : w.heap.size ≤ B ∨ 0 < B) : WTab w' :=
  have hlt : 0 < B := by
    rcases hB with h1 | h1
    · exact Nat.lt_of_lt_of_le h.2.1 h1
    · exact h1
  have hs : 0 < w'.heap.size := Nat.lt_of_lt_of_le h.2.1 hb.size
  ⟨by omega, hs, fun i hi => (hb.cell (p := ⟨0, i, none⟩) hlt).trans (h.2.2 i hi)⟩
theorem WTab.on {w w' : World} (h : WTab w) (hb : Below w.heap.size w w') : WTab w' := h.below hb (.inl (Nat.le_refl _))
/-- How many bits the field k has. -/
def wid (k : Nat) : Nat := [8, 3, 2, 3, 8].getD k 0
theorem wid_of {k : Nat} (h : k < 5) : widL.getD k 0 = (wid k : Int) := by
  rcases five h with rfl | rfl | rfl | rfl | rfl <;> rfl
theorem wid_le {k : Nat} (h : k < 5) : wid k ≤ 8 := by
  rcases five h with rfl | rfl | rfl | rfl | rfl <;> decide
/-- The bits of the first k fields. -/
def bitsTo (c : CS) : Nat → List Bool
  | 0 => []
  | k + 1 => bitsTo c k ++ numBits (c.fld k).toNat (wid k)
theorem bitsTo_five (c : CS) : bitsTo c 5 = bitsOf c := by simp [bitsTo, bitsOf, CS.fld, wid]
theorem bitsTo_length (c : CS) : ∀ k, k ≤ 5 → (bitsTo c k).length ≤ 8 * k
  | 0, _ => by simp [bitsTo]
  | k + 1, h => by
    have := bitsTo_length c k (by omega)
    have := wid_le (k := k) (by omega)
    simp only [bitsTo, List.length_append, numBits_length]
    omega
theorem fld_lt {c : CS} (h : mayC c 8 = true) {k : Nat} (hk : k < 5) : 0 ≤ c.fld k ∧ (c.fld k).toNat < 2 ^ wid k := by
  have := (mayC_iff c 8).1 h k hk
  rcases five hk with rfl | rfl | rfl | rfl | rfl <;> simp [CS.fld, endsC, wid] at this ⊢ <;> omega
/-- One number more behind bits that are there. -/
theorem put_more4 (l : List Bool) (A : Option Addr) (n c : Nat) (bs : List UInt8) (v : Nat) (width : Nat) (w : World) (hn : n = bs.length) (his : IsBits l bs) (hl : l.length + width ≤ 4096) (hw : width ≤ 64) (hv : v < 2 ^ width) (hA : Byt w.heap.size w A bs) :
    Calls Tryd.prog 59 #[.agg #[.int .i64 l.length, .slice A n c], .int .u64 v, .int .i64 (width : Int)] w (Res w (0, l ++ numBits v width)) := by
  have h64 : v < 2 ^ 64 := Nat.lt_of_lt_of_le hv (Nat.pow_le_pow_right (by decide) hw)
  have h := put_any (l.length : Int) (width : Int) v A n c bs w hn (by rw [hn]; exact bytes_small his (by omega)) hA h64
  rw [put_more his (by omega), if_pos ⟨⟨by omega, by omega⟩, by rw [Int.toNat_natCast]; exact Nat.div_eq_of_lt hv⟩, if_neg (by omega), Int.toNat_natCast] at h
  exact h
theorem three_boxes (w : World) (T P Mo Nx Me : Int) :
    Blk ((w.alloc (.cells #[.int .i64 T, .int .i64 P, .int .i64 Mo, .int .i64 Nx, .int .i64 Me] 23)).alloc (.cells #[.int .i64 0, .slice none 0 0] 28)) w.heap.size 23 #[.int .i64 T, .int .i64 P, .int .i64 Mo, .int .i64 Nx, .int .i64 Me] ∧
    Blk ((w.alloc (.cells #[.int .i64 T, .int .i64 P, .int .i64 Mo, .int .i64 Nx, .int .i64 Me] 23)).alloc (.cells #[.int .i64 0, .slice none 0 0] 28)) (w.heap.size + 1) 28 #[.int .i64 0, .slice none 0 0] ∧
    Below w.heap.size w ((w.alloc (.cells #[.int .i64 T, .int .i64 P, .int .i64 Mo, .int .i64 Nx, .int .i64 Me] 23)).alloc (.cells #[.int .i64 0, .slice none 0 0] 28)) := by
  refine ⟨(Blk.new w _ _).alloc _, ?_, ((Below.refl _ _).alloc (Nat.le_refl _) _).alloc (by simp) _⟩
  simpa using Blk.new (w.alloc (.cells #[.int .i64 T, .int .i64 P, .int .i64 Mo, .int .i64 Nx, .int .i64 Me] 23)) 28 #[.int .i64 0, .slice none 0 0]

set_option maxRecDepth 8000 in
set_option maxHeartbeats 2000000 in
theorem bitsC_any (c : CS) (w : World) (hT : WTab w) : Calls Tryd.prog 27 #[.agg c.cells] w (Res w (bitsC c)) := by
  have hck := fun W => checkC_any c 8 W
  have hv := fun W => values_any c W
  by_cases hm : mayC c 8 = true
  · have hr : bitsC c = (0, bitsTo c 5) := by unfold bitsC; rw [if_pos hm, bitsTo_five]
    rw [hr]
    have hc0 : checkC c 8 = 0 := by unfold checkC; rw [if_neg (by omega), if_pos hm]
    rw [hc0] at hck
    have hfl := fun k (hk : k < 5) => fld_lt hm hk
    have hbl := bitsTo_length c
    clear hc0 hr hm
    have HFL := Lib.hid hfl; have HBL := Lib.hid hbl; clear hfl hbl
    obtain ⟨F, hF⟩ : ∃ F : Nat → Int, F = c.fld := ⟨_, rfl⟩
    obtain ⟨L, hL⟩ : ∃ L : Nat → List Bool, L = bitsTo c := ⟨_, rfl⟩
    have hLs : ∀ k, L (k + 1) = L k ++ numBits (F k).toNat (wid k) := fun k => by rw [hL, hF]; rfl
    have hL0 : L 0 = [] := by rw [hL]; rfl
    have hcel : ∀ k, k < 5 → c.cells[k]? = some (.int .i64 (F k)) := fun k hk => by rw [hF]; exact c.cells_at hk
    rw [← hF] at HFL
    rw [← hL] at HBL ⊢
    clear hF hL
    have HLS := Lib.hid hLs; have HL0 := Lib.hid hL0; have HCEL := Lib.hid hcel; clear hLs hL0 hcel
    obtain ⟨T, P, Mo, Nx, Me⟩ := c
    unfold CS.cells at *
    dsimp only at *
    obtain ⟨k1, k2, hB⟩ := three_boxes w T P Mo Nx Me
    have hg0 := hT.2.1
    have HCK := Lib.hid hck; have HV := Lib.hid hv; clear hck hv
    go_enter Tryd.func27, Tryd.ntmps27
    go_wp2_with fail
    refine (HCK.out _).mono ?_
    rintro e w1 ⟨rfl, hB1⟩
    dsimp only
    replace k1 := k1.on hB1
    replace k2 := k2.on hB1
    have b1 := hB.trans (hB1.mono hB.size)
    have hT1 := hT.below b1 (.inl (Nat.le_refl _))
    obtain ⟨⟨c0, c1, c2, c3, c4⟩, -⟩ := k1.five
    clear hB hB1 hT
    go_wp2_with fail
    refine (HV.out _).mono ?_
    rintro e w2 ⟨rfl, hB2⟩
    dsimp only
    replace k2 := k2.on hB2
    have b2 := b1.trans (hB2.mono b1.size)
    have hT2 := hT1.on hB2
    clear b1 hB2 hT1 k1 c0 c1 c2 c3 c4
    have k2lt := k2.lt
    have k4 : Blk ((w2.alloc (.cells #[.int .i64 T, .int .i64 P, .int .i64 Mo, .int .i64 Nx, .int .i64 Me] 83)).alloc (.cells #[.int .i64 0, .slice none 0 0] 28)) w2.heap.size 83 #[.int .i64 T, .int .i64 P, .int .i64 Mo, .int .i64 Nx, .int .i64 Me] := (Blk.new w2 _ _).alloc _
    have k5 : Blk ((w2.alloc (.cells #[.int .i64 T, .int .i64 P, .int .i64 Mo, .int .i64 Nx, .int .i64 Me] 83)).alloc (.cells #[.int .i64 0, .slice none 0 0] 28)) (w2.heap.size + 1) 28 #[.int .i64 0, .slice none 0 0] := by
      simpa using Blk.new (w2.alloc (.cells #[.int .i64 T, .int .i64 P, .int .i64 Mo, .int .i64 Nx, .int .i64 Me] 83)) 28 #[.int .i64 0, .slice none 0 0]
    have hb23 : Below w2.heap.size w2 ((w2.alloc (.cells #[.int .i64 T, .int .i64 P, .int .i64 Mo, .int .i64 Nx, .int .i64 Me] 83)).alloc (.cells #[.int .i64 0, .slice none 0 0] 28)) := ((Below.refl _ _).alloc (Nat.le_refl _) _).alloc (by simp) _
    have hb3 := b2.trans (hb23.mono b2.size)
    have hT3 := hT2.on hb23
    have k23 := k2.on hb23
    go_wp2_with fail
    clear hT2 k2 b2 hb23
    generalize (w2.alloc (.cells #[.int .i64 T, .int .i64 P, .int .i64 Mo, .int .i64 Nx, .int .i64 Me] 83)).alloc (.cells #[.int .i64 0, .slice none 0 0] 28) = w3 at *
    go_loopw [13] (fun i wr => ∃ (k : Nat) (A : Option Addr) (n c : Nat) (bs : List UInt8), k ≤ 5 ∧ i = .int .i64 k ∧ n = bs.length ∧ IsBits (L k) bs ∧ Byt wr.heap.size wr A bs ∧ Fresh (w2.heap.size + 2) A bs ∧ Blk wr w2.heap.size 83 #[.int .i64 T, .int .i64 P, .int .i64 Mo, .int .i64 Nx, .int .i64 Me] ∧ Blk wr (w2.heap.size + 1) 28 #[.int .i64 (L k).length, .slice A n c] ∧ Blk wr (w.heap.size + 1) 28 #[.int .i64 0, .slice none 0 0] ∧ WTab wr ∧ Below w.heap.size w wr)
      (fun i _ => 5 - (intOf i).toNat)
    case atStart => exact ⟨0, none, 0, 0, [], by omega, rfl, rfl, by rw [HL0.out]; exact isBits_nil, fun h => absurd rfl h, fun _ _ h => absurd rfl h, k4, by rw [HL0.out]; exact k5, k23, hT3, hb3⟩
    case round =>
      obtain ⟨k, A, n, c, bs, hk, rfl, hn, his, hA, hF, h4, h5, h2, hT, hB⟩ := hrel
      have HN := Lib.hid hn; have HI := Lib.hid his; clear hn his
      clear hb3 hT3 k23 k4 k5
      have h5lt := h5.lt
      by_cases hlt : k < 5
      · obtain ⟨v, hv⟩ := Int.eq_ofNat_of_zero_le (HFL.out k hlt).1
        have hvl : v < 2 ^ wid k := by have := (HFL.out k hlt).2; rw [hv] at this; simpa using this
        have hw8 := wid_le hlt
        have hw64 : v < 256 := Nat.lt_of_lt_of_le hvl (Nat.pow_le_pow_right (by decide) hw8)
        have hcF := h4.cell k
        rw [HCEL.out k hlt, hv] at hcF
        have hcW := hT.2.2 k hlt
        rw [wid_of hlt] at hcW
        have hk0 : (0 : Int) ≤ (k : Int) := by omega
        have hk1 : (k : Int) < 5 := by omega
        have hll := HBL.out k (by omega)
        have hp := put_more4 (L k) A n c bs v (wid k) wr.drew HN.out HI.out (by omega) (by omega) hvl hA
        have hls := HLS.out k
        rw [hv, Int.toNat_natCast] at hls
        rw [← hls] at hp
        have hlk := HBL.out (k + 1) (by omega)
        have HP := Lib.hid hp; have HLK := Lib.hid hlk; clear hp hls hvl hll hlk
        have HV2 := Lib.hid hv; clear hv
        generalize wid k = wk at *
        obtain ⟨r0, r1, q0, q1⟩ := h5.two
        have huw : IntKind.u64.wrap (v : Int) = (v : Int) := by rw [IntKind.wrap_u64]; omega
        have hBd : Below wr.heap.size wr wr.drew := (Below.refl _ _).drew
        go_wp2
        go_region_with (go_at_call 59; refine HP.out.mono ?_; rintro e w5 ⟨A5, n5, c5, bs5, rfl, hn5, his5, hle5, hA5, hB5', hF5⟩; have hB5 : Below wr.heap.size wr w5 := hBd.trans hB5'; obtain ⟨s0, s1, t0, t1⟩ := (h5.on hB5).two; have z5 := (h5.on hB5).lt; have HN5 := Lib.hid hn5; have HI5 := Lib.hid his5; clear hn5 his5; dsimp only at hle5 ⊢)
        all_goals
          have z2 : w.heap.size + 1 < wr.heap.size := h2.lt
          have zd : w2.heap.size + 1 < wr.drew.heap.size := h5lt
          go_wp2
          go_roundw
          case rel =>
            have e1 : w2.heap.size ≠ w2.heap.size + 1 := by omega
            have e2 : w.heap.size + 1 ≠ w2.heap.size + 1 := by omega
            refine ⟨k + 1, A5, n5, c5, bs5, by omega, by go_num, HN5.out, HI5.out, ?_, ?_, ((h4.on hB5).far (p := ⟨w2.heap.size + 1, 0, none⟩) e1 _).far (p := ⟨w2.heap.size + 1, 1, none⟩) e1 _, (h5.on hB5).put2 _ _, ((h2.on hB5).far (p := ⟨w2.heap.size + 1, 0, none⟩) e2 _).far (p := ⟨w2.heap.size + 1, 1, none⟩) e2 _, ?_, ?_⟩
            · simpa using (hA5.set_low hF5 (p := ⟨w2.heap.size + 1, 0, none⟩) zd _).set_low hF5 (p := ⟨w2.heap.size + 1, 1, none⟩) zd _
            · exact fun a h1 h2 => Nat.le_trans zd (hF5 a h1 h2)
            · exact hT.below (((hB5.mono hB.size).setCell (p := ⟨w2.heap.size + 1, 0, none⟩) (by simp; omega) _).setCell (p := ⟨w2.heap.size + 1, 1, none⟩) (by simp; omega) _) (.inr hg0)
            · exact ((hB.trans (hB5.mono hB.size)).setCell (p := ⟨w2.heap.size + 1, 0, none⟩) (by simp; omega) _).setCell (p := ⟨w2.heap.size + 1, 1, none⟩) (by simp; omega) _
          case measure => simp [intOf]; omega
      · obtain rfl : k = 5 := by omega
        obtain ⟨r0, r1, q0, q1⟩ := h5.two
        obtain ⟨s0, s1, t0, t1⟩ := h2.two
        have z2 := h2.lt
        have hl5 := HBL.out 5 (by omega)
        go_wp2
        have hres : Res w (0, L 5) (.returned (.tuple #[.agg #[.int .i64 (L 5).length, .slice A n c], .int .i64 0])) ((wr.setCell ⟨w.heap.size + 1, 0, none⟩ (.int .i64 (L 5).length)).setCell ⟨w.heap.size + 1, 1, none⟩ (.slice A n c)) :=
          ⟨A, n, c, bs, rfl, HN.out, HI.out, by dsimp only; omega, by simpa using (hA.set_low hF (p := ⟨w.heap.size + 1, 0, none⟩) (by simp; omega) _).set_low hF (p := ⟨w.heap.size + 1, 1, none⟩) (by simp; omega) _, (hB.setCell (p := ⟨w.heap.size + 1, 0, none⟩) (by simp) _).setCell (p := ⟨w.heap.size + 1, 1, none⟩) (by simp) _, fun a h1 h2 => Nat.le_trans (by omega) (hF a h1 h2)⟩
        exact bodyPost_ret (v := .tuple #[.agg #[.int .i64 (L 5).length, .slice A n c], .int .i64 0]) (by simp [results, Tryd.results27, go_sem, s0, s1]) rfl hres
  · have hr : bitsC c = (40, []) := by unfold bitsC; rw [if_neg hm]
    rw [hr]
    have hc0 : checkC c 8 = 40 := by unfold checkC; rw [if_neg (by omega), if_neg hm]
    rw [hc0] at hck
    clear hm hc0 hr hv
    obtain ⟨T, P, Mo, Nx, Me⟩ := c
    unfold CS.cells at *
    dsimp only at *
    obtain ⟨k1, k2, hB⟩ := three_boxes w T P Mo Nx Me
    have HCK := Lib.hid hck; clear hck
    go_enter Tryd.func27, Tryd.ntmps27
    go_wp2_with fail
    refine (HCK.out _).mono ?_
    rintro e w1 ⟨rfl, hB1⟩
    replace k2 := k2.on hB1
    have b1 := hB.trans (hB1.mono hB.size)
    obtain ⟨r0, r1, q0, q1⟩ := k2.two
    have z2 := k2.lt
    clear hB hB1 k1
    go_wp2
    exact bodyPost_ret (v := .tuple #[.agg #[.int .i64 0, .slice none 0 0], .int .i64 40]) (by simp [results, Tryd.results27, go_sem, r0, r1]) rfl
      (res_err 40 ((b1.setCell (p := ⟨w.heap.size + 1, 0, none⟩) (by simp) _).setCell (p := ⟨w.heap.size + 1, 1, none⟩) (by simp) _))
end Go.Proofs.YtcfbeelljhjnoaaDoor

namespace Go.Proofs.YtcfbeelljhjnoaaDoor
open Go.RowKit

end Go.Proofs.YtcfbeelljhjnoaaDoor

namespace Go.Proofs.YtcfbeelljhjnoaaDoor
open Go.RowKit

theorem Below.al (w : World) (o : Obj) : Below w.heap.size w (w.alloc o) := (Below.refl _ _).alloc (Nat.le_refl _) _
/-- Two answers of one content are the same. -/
theorem same_res {l : List Bool} {A A' : Option Addr} {n n' c c' : Nat} {bs bs' : List UInt8} {w : World} (h : IsBits l bs) (h' : IsBits l bs') (hn : n = bs.length) (hn' : n' = bs'.length) (hA : Byt w.heap.size w A bs) (hA' : Byt w.heap.size w A' bs') :
    Calls Tryd.prog 15 #[.agg #[.int .i64 (l.length : Nat), .slice A n c], .agg #[.int .i64 (l.length : Nat), .slice A' n' c']] w fun e w' => e = .returned (.bool true) ∧ Below w.heap.size w w' := by
  obtain rfl := h.unique h'
  have := rsame_any l.length l.length A A' n n' c c' bs bs w hn hn' hA hA'
  rwa [sameB_self] at this
/-- The bits of the first example. -/
def ex4 : List Bool := [false, false, false, false, false, false, false, true, false, true, false, false, true, false, false, false, false, false, false, false, false, true, false, true]
theorem ex4_bits : bitsC ⟨1, 2, 1, 0, 5⟩ = (0, ex4) := by decide
theorem ex4_text : parseS (⟨#[48, 48, 48, 48, 48, 48, 48, 49, 48, 49, 48, 48, 49, 48, 48, 48, 48, 48, 48, 48, 48, 49, 48, 49]⟩ : ByteArray).data.toList = (0, ex4) := by decide
theorem ex4_len : ex4.length = 24 := rfl

end Go.Proofs.YtcfbeelljhjnoaaDoor

namespace Go.Proofs.YtcfbeelljhjnoaaDoor
open Go.RowKit

theorem Blk.put5 {w : World} {g : Nat} {t : TypeId} {a b c d e : Value} (h : Blk w g t #[a, b, c, d, e]) (v0 v1 v2 v3 v4 : Value) : Blk (((((w.setCell ⟨g, 0, none⟩ v0).setCell ⟨g, 1, none⟩ v1).setCell ⟨g, 2, none⟩ v2).setCell ⟨g, 3, none⟩ v3).setCell ⟨g, 4, none⟩ v4) g t #[v0, v1, v2, v3, v4] := by
  simpa using ((((h.set_ 0 v0).set_ 1 v1).set_ 2 v2).set_ 3 v3).set_ 4 v4
theorem Blk.far5 {W : World} {g g' : Nat} {t : TypeId} {cs : Array Value} (h : Blk W g t cs) (hne : g ≠ g') (v0 v1 v2 v3 v4 : Value) : Blk (((((W.setCell ⟨g', 0, none⟩ v0).setCell ⟨g', 1, none⟩ v1).setCell ⟨g', 2, none⟩ v2).setCell ⟨g', 3, none⟩ v3).setCell ⟨g', 4, none⟩ v4) g t cs :=
  ((((h.far (p := ⟨g', 0, none⟩) hne _).far (p := ⟨g', 1, none⟩) hne _).far (p := ⟨g', 2, none⟩) hne _).far (p := ⟨g', 3, none⟩) hne _).far (p := ⟨g', 4, none⟩) hne _
theorem Below.put5 {w W : World} {n : Nat} (h : Below n w W) {g : Nat} (hg : n ≤ g) (v0 v1 v2 v3 v4 : Value) : Below n w (((((W.setCell ⟨g, 0, none⟩ v0).setCell ⟨g, 1, none⟩ v1).setCell ⟨g, 2, none⟩ v2).setCell ⟨g, 3, none⟩ v3).setCell ⟨g, 4, none⟩ v4) :=
  ((((h.setCell (p := ⟨g, 0, none⟩) hg _).setCell (p := ⟨g, 1, none⟩) hg _).setCell (p := ⟨g, 2, none⟩) hg _).setCell (p := ⟨g, 3, none⟩) hg _).setCell (p := ⟨g, 4, none⟩) hg _

/-- A state that may be. -/
theorem checkC_of {c : CS} {n : Int} (h4 : 4 ≤ n) (h8 : n ≤ 8) (h : 0 ≤ c.T ∧ c.T ≤ 255 ∧ 0 ≤ c.P ∧ c.P < n ∧ 0 ≤ c.Mo ∧ c.Mo < 4 ∧ 0 ≤ c.Nx ∧ c.Nx ≤ 4 ∧ 0 ≤ c.Me ∧ c.Me < 2 ^ n.toNat) : checkC c n = 0 := by
  unfold checkC mayC
  rw [if_neg (by omega), if_pos (by simpa using h)]
/-- The state k slots behind a state. -/
def atC (c : CS) (n : Int) (k : Nat) : CS := if c.P + k < n then ⟨c.T, c.P + k, c.Mo, c.Nx, c.Me⟩ else ⟨(c.T + 1) % 256, c.P + k - n, if c.Nx = 0 then c.Mo else c.Nx - 1, 0, c.Me⟩
theorem atC_zero {c : CS} {n : Int} (h : c.P < n) : atC c n 0 = c := by
  unfold atC
  rw [if_pos (by omega)]
  simp
theorem atC_next {c : CS} {n : Int} (h : c.P < n) {k : Nat} (hk : (k : Int) < n) : goneC (atC c n k) n = atC c n (k + 1) := by
  unfold atC
  by_cases h1 : c.P + k < n
  · rw [if_pos h1]
    by_cases h2 : c.P + ((k + 1 : Nat) : Int) < n
    · rw [if_pos h2]
      unfold goneC
      dsimp only
      rw [if_pos (by omega)]
      simp only [CS.mk.injEq, true_and, and_true]
      omega
    · rw [if_neg h2]
      unfold goneC
      dsimp only
      rw [if_neg (by omega)]
      simp only [CS.mk.injEq, true_and, and_true]
      omega
  · have h2 : ¬ (c.P + ((k + 1 : Nat) : Int) < n) := by omega
    rw [if_neg h1, if_neg h2]
    unfold goneC
    dsimp only
    rw [if_pos (by omega)]
    simp only [CS.mk.injEq, true_and, and_true]
    omega
theorem atC_full {c : CS} {n : Int} (h0 : 0 ≤ c.P) (hn : 0 ≤ n) : atC c n n.toNat = ⟨(c.T + 1) % 256, c.P, if c.Nx = 0 then c.Mo else c.Nx - 1, 0, c.Me⟩ := by
  unfold atC
  rw [if_neg (by omega)]
  simp only [CS.mk.injEq, true_and, and_true]
  omega
theorem gone_may {c : CS} {n : Int} (h : checkC c n = 0) : checkC (goneC c n) n = 0 := by
  obtain ⟨n0, n1, t0, t1, p0, p1, m0, m1, x0, x1, e0, e1⟩ := checkC_zero h
  unfold goneC
  by_cases hp : c.P + 1 < n
  · rw [if_pos hp]
    exact checkC_of n0 n1 ⟨t0, t1, by dsimp only; omega, hp, m0, m1, x0, x1, e0, e1⟩
  · rw [if_neg hp]
    refine checkC_of n0 n1 ⟨?_, ?_, ?_, ?_, ?_, ?_, ?_, ?_, e0, e1⟩ <;> dsimp only
    · omega
    · omega
    · omega
    · omega
    · by_cases hx : c.Nx = 0
      · rw [if_pos hx]; exact m0
      · rw [if_neg hx]; omega
    · by_cases hx : c.Nx = 0
      · rw [if_pos hx]; exact m1
      · rw [if_neg hx]; omega
    · omega
    · omega
theorem gone_slots {c : CS} {n : Int} (h : checkC c n = 0) : slotsC c (goneC c n) n = (0, 1) := by
  unfold slotsC
  rw [if_neg (by rw [h]; simp), if_neg (by rw [gone_may h]; simp)]
  obtain ⟨n0, n1, t0, t1, p0, p1, -⟩ := checkC_zero h
  refine Prod.ext rfl ?_
  dsimp only
  unfold goneC
  by_cases hp : c.P + 1 < n
  · rw [if_pos hp]
    dsimp only
    rw [show c.T * n + (c.P + 1) - c.T * n - c.P + 256 * n = 1 + 256 * n by omega, Int.add_emod_right, Int.emod_eq_of_lt (by omega) (by omega)]
  · rw [if_neg hp]
    dsimp only
    by_cases ht : c.T = 255
    · rw [ht]
      rw [show ((255 + 1) % 256 * n + 0 - 255 * n - c.P + 256 * n : Int) = 1 from by omega, Int.emod_eq_of_lt (by omega) (by omega)]
    · rw [show (c.T + 1) % 256 = c.T + 1 by omega, Int.add_mul]
      rw [show (c.T * n + 1 * n + 0 - c.T * n - c.P + 256 * n : Int) = 1 + 256 * n by omega, Int.add_emod_right, Int.emod_eq_of_lt (by omega) (by omega)]
set_option maxRecDepth 100000 in
theorem with_all : ∀ k : Fin 8, ∀ m : Fin 256, (bits .or .i64 (m.val : Int) (2 ^ k.val) = ((m.val ||| 2 ^ k.val : Nat) : Int)) ∧ (bits .andNot .i64 (m.val : Int) (2 ^ k.val) = ((m.val &&& (255 - 2 ^ k.val) : Nat) : Int)) ∧ (m.val ||| 2 ^ k.val) / 2 ^ k.val % 2 = 1 ∧ (m.val &&& (255 - 2 ^ k.val)) / 2 ^ k.val % 2 = 0 := by decide +kernel
theorem with_may {c : CS} {n k : Int} (h : checkC c n = 0) (hk : 0 ≤ k ∧ k < n) : checkC (withC c k) n = 0 ∧ checkC (withoutC c k) n = 0 ∧ hasC (withC c k) k = true ∧ hasC (withoutC c k) k = false := by
  obtain ⟨n0, n1, t0, t1, p0, p1, m0, m1, x0, x1, e0, e1⟩ := checkC_zero h
  have hk8 : 0 ≤ k ∧ k < 8 := by omega
  obtain ⟨m, hm⟩ := Int.eq_ofNat_of_zero_le e0
  obtain ⟨j, hj⟩ := Int.eq_ofNat_of_zero_le hk.1
  have hj8 : j < 8 := by omega
  have hmn : m < 2 ^ n.toNat := by rw [hm] at e1; exact_mod_cast e1
  have hm8 : m < 256 := Nat.lt_of_lt_of_le hmn (Nat.le_trans (Nat.pow_le_pow_right (by decide) (by omega)) (by decide : 2 ^ 8 ≤ 256))
  obtain ⟨q1, q2, q3, q4⟩ := with_all ⟨j, hj8⟩ ⟨m, hm8⟩
  dsimp only at q1 q2 q3 q4
  have hjt : k.toNat = j := by omega
  have hor : m ||| 2 ^ j < 2 ^ n.toNat := Nat.or_lt_two_pow hmn (Nat.pow_lt_pow_right (by decide) (by omega))
  have han : m &&& (255 - 2 ^ j) < 2 ^ n.toNat := Nat.lt_of_le_of_lt Nat.and_le_left hmn
  unfold withC withoutC hasC hasB
  rw [if_pos hk8, if_pos hk8, hm, hjt, q1, q2]
  refine ⟨checkC_of n0 n1 ⟨t0, t1, p0, p1, m0, m1, x0, x1, by dsimp only; omega, by dsimp only; exact_mod_cast hor⟩, checkC_of n0 n1 ⟨t0, t1, p0, p1, m0, m1, x0, x1, by dsimp only; omega, by dsimp only; exact_mod_cast han⟩, ?_, ?_⟩
  · rw [decide_eq_true hk8, Bool.true_and, decide_eq_true_eq]
    dsimp only
    exact_mod_cast q3
  · rw [decide_eq_true hk8, Bool.true_and, decide_eq_false_iff_not]
    intro hx
    dsimp only at hx
    have : ((m &&& (255 - 2 ^ j)) / 2 ^ j % 2 : Nat) = 1 := by exact_mod_cast hx
    omega
end Go.Proofs.YtcfbeelljhjnoaaDoor

namespace Go.Proofs.YtcfbeelljhjnoaaDoor
open Go.RowKit

/-- Where the field k begins. -/
def atW (k : Nat) : Nat := [0, 8, 11, 13, 16, 24].getD k 0
theorem atW_next {k : Nat} (h : k < 5) : atW (k + 1) = atW k + wid k := by
  rcases five h with rfl | rfl | rfl | rfl | rfl <;> rfl
theorem atW_le {k : Nat} (h : k < 5) : atW k + wid k ≤ 24 := by
  rcases five h with rfl | rfl | rfl | rfl | rfl <;> decide
/-- The number that the field k holds. -/
def partF (L : List Bool) (k : Nat) : Nat := numOf ((L.drop (atW k)).take (wid k))
theorem partF_lt (L : List Bool) {k : Nat} (h : k < 5) : partF L k < 256 := by
  have h1 := numOf_lt ((L.drop (atW k)).take (wid k))
  have h2 : ((L.drop (atW k)).take (wid k)).length ≤ 8 := Nat.le_trans (List.length_take_le _ _) (wid_le h)
  exact Nat.lt_of_lt_of_le h1 (Nat.pow_le_pow_right (by decide) h2)
/-- The fields. -/
def fieldsOf (L : List Bool) : CS := ⟨partF L 0, partF L 1, partF L 2, partF L 3, partF L 4⟩
/-- Parse, by the document. -/
def readC (N : Int) (bs : List UInt8) : Int × CS :=
  if goodB N bs = true then
    if N = 24 then if mayC (fieldsOf (listOf N bs)) 8 = true then (0, fieldsOf (listOf N bs)) else (40, zeroC)
    else (40, zeroC)
  else (10, zeroC)
theorem get_part {bs : List UInt8} (h : goodB 24 bs = true) {k : Nat} (hk : k < 5) : getS 24 bs (atW k : Int) (wid k : Int) = (0, partF (listOf 24 bs) k) := by
  have h1 := atW_le hk
  unfold getS
  rw [if_pos h, if_pos (by omega), Int.toNat_natCast, Int.toNat_natCast]
  rfl
/-- What is read, up to the field k. -/
def heldC (F : Nat → Nat) (k : Nat) : Array Value := #[.int .i64 (if 0 < k then (F 0 : Int) else 0), .int .i64 (if 1 < k then (F 1 : Int) else 0), .int .i64 (if 2 < k then (F 2 : Int) else 0), .int .i64 (if 3 < k then (F 3 : Int) else 0), .int .i64 (if 4 < k then (F 4 : Int) else 0)]
theorem heldC_zero (F : Nat → Nat) : heldC F 0 = #[.int .i64 0, .int .i64 0, .int .i64 0, .int .i64 0, .int .i64 0] := by simp [heldC]
theorem heldC_five (F : Nat → Nat) : heldC F 5 = #[.int .i64 (F 0), .int .i64 (F 1), .int .i64 (F 2), .int .i64 (F 3), .int .i64 (F 4)] := by simp [heldC]
theorem heldC_next (F : Nat → Nat) {k : Nat} (h : k < 5) : (heldC F k).setIfInBounds k (.int .i64 (F k)) = heldC F (k + 1) := by
  rcases five h with rfl | rfl | rfl | rfl | rfl <;> simp [heldC]
theorem heldC_at (F : Nat → Nat) {k : Nat} (h : k < 5) : (heldC F k)[k]? = some (.int .i64 0) := by
  rcases five h with rfl | rfl | rfl | rfl | rfl <;> simp [heldC]

theorem boxes_read (w : World) (N : Int) (A : Option Addr) (n c : Nat) :
    Blk ((w.alloc (.cells #[.int .i64 N, .slice A n c] 28)).alloc (.cells #[.int .i64 0, .int .i64 0, .int .i64 0, .int .i64 0, .int .i64 0] 23)) w.heap.size 28 #[.int .i64 N, .slice A n c] ∧
    Blk ((w.alloc (.cells #[.int .i64 N, .slice A n c] 28)).alloc (.cells #[.int .i64 0, .int .i64 0, .int .i64 0, .int .i64 0, .int .i64 0] 23)) (w.heap.size + 1) 23 #[.int .i64 0, .int .i64 0, .int .i64 0, .int .i64 0, .int .i64 0] ∧
    Below w.heap.size w ((w.alloc (.cells #[.int .i64 N, .slice A n c] 28)).alloc (.cells #[.int .i64 0, .int .i64 0, .int .i64 0, .int .i64 0, .int .i64 0] 23)) := by
  refine ⟨(Blk.new w _ _).alloc _, ?_, ((Below.refl _ _).alloc (Nat.le_refl _) _).alloc (by simp) _⟩
  simpa using Blk.new (w.alloc (.cells #[.int .i64 N, .slice A n c] 28)) 23 #[.int .i64 0, .int .i64 0, .int .i64 0, .int .i64 0, .int .i64 0]

set_option maxRecDepth 8000 in
set_option maxHeartbeats 4000000 in
theorem readC_any (N : Int) (A : Option Addr) (n c : Nat) (bs : List UInt8) (w : World) (hn : n = bs.length) (hm : n ≤ maxLen) (hA : Byt w.heap.size w A bs) (hT : WTab w) :
    Calls Tryd.prog 76 #[.agg #[.int .i64 N, .slice A n c]] w (ResC w (readC N bs)) := by
  have hck := fun (W : World) (h : Below w.heap.size w W) => check_any N A n c bs W hn hm (hA.on h)
  have hgt := fun (W : World) (h : Below w.heap.size w W) (k : Nat) => get_any N (atW k) (wid k) A n c bs W hn hm (hA.on h)
  obtain ⟨k1, k2, hB⟩ := boxes_read w N A n c
  have hg0 := hT.2.1
  have HTT := Lib.hid hT; clear hT
  by_cases hgd : goodB N bs = true
  · rw [chk_yes hgd] at hck
    by_cases hN : N = 24
    · subst hN
      have hgt' : ∀ W, Below w.heap.size w W → ∀ k, k < 5 → Calls Tryd.prog 74 #[.agg #[.int .i64 24, .slice A n c], .int .i64 (atW k), .int .i64 (wid k)] W fun e w' => e = .returned (.tuple #[.int .u64 (partF (listOf 24 bs) k : Nat), .int .i64 0]) ∧ Below W.heap.size W w' := by
        intro W h k hk
        have := hgt W h k
        rw [get_part hgd hk] at this
        exact this
      have hso := fun W => stateOf_any (fieldsOf (listOf 24 bs)) W
      have hch := fun W => checkC_any (fieldsOf (listOf 24 bs)) 8 W
      have hp := fun k (hk : k < 5) => partF_lt (listOf 24 bs) hk
      have hr : readC 24 bs = if mayC (fieldsOf (listOf 24 bs)) 8 = true then (0, fieldsOf (listOf 24 bs)) else (40, zeroC) := by unfold readC; rw [if_pos hgd, if_pos rfl]
      rw [hr]
      clear hr hgt hgd
      obtain ⟨F, hF⟩ : ∃ F, F = partF (listOf 24 bs) := ⟨_, rfl⟩
      have hf : fieldsOf (listOf 24 bs) = ⟨F 0, F 1, F 2, F 3, F 4⟩ := by rw [hF]; rfl
      rw [hf] at hso hch ⊢
      rw [← hF] at hgt' hp
      clear hf hF
      unfold CS.cells at hso hch
      dsimp only at hso hch
      have HCK := Lib.hid hck; have HGT := Lib.hid hgt'; have HSO := Lib.hid hso; have HCH := Lib.hid hch; have HP := Lib.hid hp
      clear hck hgt' hso hch hp hn hm hA
      obtain ⟨R, hR⟩ : ∃ R, R = (if mayC ⟨F 0, F 1, F 2, F 3, F 4⟩ 8 = true then (0, (⟨F 0, F 1, F 2, F 3, F 4⟩ : CS)) else (40, zeroC) : Int × CS) := ⟨_, rfl⟩
      rw [← hR]
      have HR := Lib.hid hR; clear hR
      go_enter Tryd.func76, Tryd.ntmps76
      go_wp2_with fail
      refine (HCK.out _ hB).mono ?_
      rintro e w1 ⟨rfl, hB1⟩
      dsimp only
      replace k1 := k1.on hB1
      replace k2 := k2.on hB1
      have b1 := hB.trans (hB1.mono hB.size)
      clear hB hB1
      obtain ⟨r0, r1, -, -⟩ := k1.two
      have k4 := Blk.new w1 83 #[.int .i64 0, .int .i64 0, .int .i64 0, .int .i64 0, .int .i64 0]
      have hal := Below.al w1 (.cells #[.int .i64 0, .int .i64 0, .int .i64 0, .int .i64 0, .int .i64 0] 83)
      have z2 := k2.lt
      have k14 := k1.on hal
      have k24 := k2.on hal
      have b4 := b1.trans (hal.mono b1.size)
      have hT4 := HTT.out.on b4
      go_wp2_with fail
      clear k1 k2 r0 r1 b1 hal
      generalize w1.alloc (.cells #[.int .i64 0, .int .i64 0, .int .i64 0, .int .i64 0, .int .i64 0] 83) = w4 at *
      generalize w1.heap.size = g4 at *
      go_loopw [5, 18] (fun a i wr => ∃ k : Nat, k ≤ 5 ∧ a = .int .i64 (atW k) ∧ i = .int .i64 k ∧ Blk wr g4 83 (heldC F k) ∧ Blk wr w.heap.size 28 #[.int .i64 24, .slice A n c] ∧ Blk wr (w.heap.size + 1) 23 #[.int .i64 0, .int .i64 0, .int .i64 0, .int .i64 0, .int .i64 0] ∧ WTab wr ∧ Below w.heap.size w wr)
        (fun _ i _ => 5 - (intOf i).toNat)
      case atStart => exact ⟨0, by omega, rfl, rfl, by rw [heldC_zero]; exact k4, k14, k24, hT4, b4⟩
      case round =>
        obtain ⟨k, hk, rfl, rfl, h4, h1, h2, hT, hB⟩ := hrel
        clear k4 k14 k24 hT4 b4
        by_cases hlt : k < 5
        · obtain ⟨v, hv⟩ : ∃ v, v = F k := ⟨_, rfl⟩
          have hv8 := HP.out k hlt
          rw [← hv] at hv8
          have hcW := hT.2.2 k hlt
          rw [wid_of hlt] at hcW
          have hk0 : (0 : Int) ≤ (k : Int) := by omega
          have hk1 : (k : Int) < 5 := by omega
          have hdr : Below wr.heap.size wr wr.drew := (Below.refl _ _).drew
          have bd := hB.trans (hdr.mono hB.size)
          have hg := HGT.out wr.drew bd k hlt
          rw [← hv] at hg
          have haw := atW_next hlt
          have hal := atW_le hlt
          have hiw : IntKind.i64.wrap (v : Int) = (v : Int) := IntWalk.i64_in _ (by omega)
          have hsw : IntKind.i64.wrap ((atW k : Int) + (wid k : Int)) = (atW (k + 1) : Int) := by rw [haw, IntWalk.i64_in _ (by omega)]; simp
          have HG := Lib.hid hg; have HVE := Lib.hid hv; clear hg hv haw
          generalize hwk : wid k = wk at *
          generalize hak : atW k = ak at *
          generalize hak' : atW (k + 1) = ak' at *
          obtain ⟨r0, r1, -, -⟩ := h1.two
          go_wp2_with fail
          go_region_with (go_at_call 74; refine HG.out.mono ?_; rintro e w5 ⟨rfl, hB5'⟩; have hB5 : Below wr.heap.size wr w5 := hdr.trans hB5'; dsimp only)
          all_goals
            have z4 := h4.lt
            have z2' := h2.lt
            replace h4 := h4.on hB5; replace h1 := h1.on hB5; replace h2 := h2.on hB5
            have hT5 := hT.on hB5
            have b5 := hB.trans (hB5.mono hB.size)
            have c4 := h4.cell k
            rw [heldC_at F hlt] at c4
            have f4 := h4.frozen k
            have hcW5 := hT5.2.2 k hlt
            rw [wid_of hlt, hwk] at hcW5
            have y4 := h4.lt
            have hgne : 0 ≠ g4 := by omega
            go_wp2
            refine ⟨⟨k + 1, by omega, by rw [hak'], by simp, ?_, h1.far (p := ⟨g4, k, none⟩) (by simp; omega) _, h2.far (p := ⟨g4, k, none⟩) (by simp; omega) _, hT5.below ((Below.refl w.heap.size w5).setCell (p := ⟨g4, k, none⟩) (by simp; omega) _) (.inr hg0), b5.setCell (p := ⟨g4, k, none⟩) (by simp; omega) _⟩, by simp [intOf]; omega⟩
            have := h4.set_ k (.int .i64 (F k))
            rw [heldC_next F hlt, ← HVE.out] at this
            exact this
        · obtain rfl : k = 5 := by omega
          rw [heldC_five] at h4
          obtain ⟨⟨c0, c1, c2, c3, c4⟩, -⟩ := h4.five
          clear HTT HCK HGT HP
          generalize (F 0 : Int) = f0 at *
          generalize (F 1 : Int) = f1 at *
          generalize (F 2 : Int) = f2 at *
          generalize (F 3 : Int) = f3 at *
          generalize (F 4 : Int) = f4 at *
          go_wp2_with fail
          refine (HSO.out _).mono ?_
          rintro e w5 ⟨rfl, hB5⟩
          dsimp only
          clear h4 h1 c0 c1 c2 c3 c4
          replace h2 := h2.on hB5
          have b5 := hB.trans (hB5.mono hB.size)
          have k9 := Blk.new w5 23 #[.int .i64 f0, .int .i64 f1, .int .i64 f2, .int .i64 f3, .int .i64 f4]
          have hal := Below.al w5 (.cells #[.int .i64 f0, .int .i64 f1, .int .i64 f2, .int .i64 f3, .int .i64 f4] 23)
          have z2' := h2.lt
          replace h2 := h2.on hal
          replace b5 := b5.trans (hal.mono b5.size)
          clear hal hB5
          go_wp2_with fail
          generalize w5.alloc (.cells #[.int .i64 f0, .int .i64 f1, .int .i64 f2, .int .i64 f3, .int .i64 f4] 23) = w6 at *
          generalize w5.heap.size = g9 at *
          by_cases hmay : mayC ⟨f0, f1, f2, f3, f4⟩ 8 = true
          · have hc0 : checkC ⟨f0, f1, f2, f3, f4⟩ 8 = 0 := by unfold checkC; rw [if_neg (by omega), if_pos hmay]
            rw [hc0] at HCH
            rw [if_pos hmay] at HR
            refine (HCH.out _).mono ?_
            rintro e w7 ⟨rfl, hB7⟩
            dsimp only
            replace h2 := h2.on hB7
            replace k9 := k9.on hB7
            have b7 := b5.trans (hB7.mono b5.size)
            obtain ⟨⟨c0, c1, c2, c3, c4⟩, -⟩ := k9.five
            obtain ⟨⟨d0, d1, d2, d3, d4⟩, g0, g1, g2, g3, g4⟩ := h2.five
            have z7 := h2.lt
            go_wp2
            exact bodyPost_ret (v := .tuple #[.agg #[.int .i64 f0, .int .i64 f1, .int .i64 f2, .int .i64 f3, .int .i64 f4], .int .i64 0]) (by simp [results, Tryd.results76, go_sem, d0, d1, d2, d3, d4]) rfl ⟨by rw [HR.out]; rfl, Below.put5 b7 (by omega) _ _ _ _ _⟩
          · have hc0 : checkC ⟨f0, f1, f2, f3, f4⟩ 8 = 40 := by unfold checkC; rw [if_neg (by omega), if_neg hmay]
            rw [hc0] at HCH
            rw [if_neg hmay] at HR
            refine (HCH.out _).mono ?_
            rintro e w7 ⟨rfl, hB7⟩
            dsimp only
            replace h2 := h2.on hB7
            have b7 := b5.trans (hB7.mono b5.size)
            obtain ⟨⟨d0, d1, d2, d3, d4⟩, g0, g1, g2, g3, g4⟩ := h2.five
            have z7 := h2.lt
            go_wp2
            exact bodyPost_ret (v := .tuple #[.agg #[.int .i64 0, .int .i64 0, .int .i64 0, .int .i64 0, .int .i64 0], .int .i64 40]) (by simp [results, Tryd.results76, go_sem, d0, d1, d2, d3, d4]) rfl ⟨by rw [HR.out]; rfl, Below.put5 b7 (by omega) _ _ _ _ _⟩
    · have hr : readC N bs = (40, zeroC) := by unfold readC; rw [if_pos hgd, if_neg hN]
      rw [hr]
      have dN : (N == 24) = false := by simpa using hN
      have HCK := Lib.hid hck
      clear hck hgt hn hm hA hr hgd HTT
      go_enter Tryd.func76, Tryd.ntmps76
      go_wp2_with fail
      refine (HCK.out _ hB).mono ?_
      rintro e w1 ⟨rfl, hB1⟩
      dsimp only
      replace k1 := k1.on hB1
      replace k2 := k2.on hB1
      have b1 := hB.trans (hB1.mono hB.size)
      obtain ⟨r0, r1, -, -⟩ := k1.two
      obtain ⟨⟨d0, d1, d2, d3, d4⟩, g0, g1, g2, g3, g4⟩ := k2.five
      have z2 := k2.lt
      clear hB hB1
      go_wp2
      exact bodyPost_ret (v := .tuple #[.agg #[.int .i64 0, .int .i64 0, .int .i64 0, .int .i64 0, .int .i64 0], .int .i64 40]) (by simp [results, Tryd.results76, go_sem, d0, d1, d2, d3, d4]) rfl ⟨rfl, Below.put5 b1 (by omega) _ _ _ _ _⟩
  · have hr : readC N bs = (10, zeroC) := by unfold readC; rw [if_neg hgd]
    rw [hr]
    have hgf : goodB N bs = false := by simpa using hgd
    rw [chk_no hgf] at hck
    have HCK := Lib.hid hck
    clear hck hgt hn hm hA hr hgd hgf HTT
    go_enter Tryd.func76, Tryd.ntmps76
    go_wp2_with fail
    refine (HCK.out _ hB).mono ?_
    rintro e w1 ⟨rfl, hB1⟩
    dsimp only
    replace k2 := k2.on hB1
    have b1 := hB.trans (hB1.mono hB.size)
    obtain ⟨⟨d0, d1, d2, d3, d4⟩, g0, g1, g2, g3, g4⟩ := k2.five
    have z2 := k2.lt
    clear hB hB1
    go_wp2
    exact bodyPost_ret (v := .tuple #[.agg #[.int .i64 0, .int .i64 0, .int .i64 0, .int .i64 0, .int .i64 0], .int .i64 10]) (by simp [results, Tryd.results76, go_sem, d0, d1, d2, d3, d4]) rfl ⟨rfl, Below.put5 b1 (by omega) _ _ _ _ _⟩
end Go.Proofs.YtcfbeelljhjnoaaDoor

namespace Go.Proofs.YtcfbeelljhjnoaaDoor
open Go.RowKit

set_option maxRecDepth 8000 in
set_option maxHeartbeats 1000000 in
theorem rfield_any (k : Nat) (hk : k < 5) (A : Option Addr) (n c : Nat) (bs : List UInt8) (w : World) (hn : n = bs.length) (hm : n ≤ maxLen) (hA : Byt w.heap.size w A bs) (hg : goodB 24 bs = true) :
    Calls Tryd.prog 89 #[.agg #[.int .i64 24, .slice A n c], .int .i64 (atW k), .int .i64 (wid k)] w fun e w' => e = .returned (.int .i64 (partF (listOf 24 bs) k)) ∧ Below w.heap.size w w' := by
  have hal := Below.al w (.cells #[.int .i64 24, .slice A n c] 28)
  have hgt := rget_any 24 (atW k) (wid k) A n c bs _ hn hm (hA.on hal)
  rw [get_part hg hk] at hgt
  have hp := partF_lt (listOf 24 bs) hk
  generalize partF (listOf 24 bs) k = v at *
  have hiw : IntKind.i64.wrap (v : Int) = (v : Int) := IntWalk.i64_in _ (by omega)
  unfold Num at hgt
  have HG := Lib.hid hgt; clear hgt hA hn
  generalize atW k = ak at *
  generalize wid k = wk at *
  go_enter Tryd.func89, Tryd.ntmps89
  go_wp2_with fail
  refine HG.out.mono ?_
  rintro e w1 ⟨rfl, hB1⟩
  dsimp only
  go_wp2
  go_ret
  exact ⟨rfl, hal.trans (hB1.mono hal.size)⟩

theorem keepB {w0 w : World} {N : Int} {A : Option Addr} {n c : Nat} (h : Blk w w0.heap.size 28 #[.int .i64 N, .slice A n c]) : w.cell? ⟨w0.heap.size, 0, none⟩ = some (.int .i64 N) ∧ w.cell? ⟨w0.heap.size, 1, none⟩ = some (.slice A n c) := by
  obtain ⟨a, b, -, -⟩ := h.two
  exact ⟨a, b⟩
theorem keepA {w0 w : World} {N : Int} {A : Option Addr} {n c : Nat} (h : Blk w w0.heap.size 28 #[.int .i64 N, .slice A n c]) {o : Obj} : (w.alloc o).cell? ⟨w0.heap.size, 0, none⟩ = some (.int .i64 N) ∧ (w.alloc o).cell? ⟨w0.heap.size, 1, none⟩ = some (.slice A n c) := by
  obtain ⟨a, b, -, -⟩ := (h.alloc o).two
  exact ⟨a, b⟩

set_option maxRecDepth 8000 in
set_option maxHeartbeats 4000000 in
theorem rreadC_any (N : Int) (A : Option Addr) (n c : Nat) (bs : List UInt8) (w : World) (hn : n = bs.length) (hm : n ≤ maxLen) (hA : Byt w.heap.size w A bs) :
    Calls Tryd.prog 80 #[.agg #[.int .i64 N, .slice A n c]] w (ResC w (readC N bs)) := by
  have hck := fun (W : World) (h : Below w.heap.size w W) => rcheck_any N A n c bs W hn hm (hA.on h)
  obtain ⟨k1, k2, hB⟩ := boxes_read w N A n c
  by_cases hgd : goodB N bs = true
  · rw [chk_yes hgd] at hck
    by_cases hN : N = 24
    · subst hN
      have hf := fun (k : Nat) (hk : k < 5) (W : World) (h : Below w.heap.size w W) => rfield_any k hk A n c bs W hn hm (hA.on h) hgd
      have hch := fun W => rcheckC_any (fieldsOf (listOf 24 bs)) 8 W
      have hr : readC 24 bs = if mayC (fieldsOf (listOf 24 bs)) 8 = true then (0, fieldsOf (listOf 24 bs)) else (40, zeroC) := by unfold readC; rw [if_pos hgd, if_pos rfl]
      rw [hr]
      clear hr hgd
      obtain ⟨F, hF⟩ : ∃ F, F = partF (listOf 24 bs) := ⟨_, rfl⟩
      have hff : fieldsOf (listOf 24 bs) = ⟨F 0, F 1, F 2, F 3, F 4⟩ := by rw [hF]; rfl
      rw [hff] at hch ⊢
      rw [← hF] at hf
      clear hff hF
      unfold CS.cells at hch
      dsimp only at hch
      have f0 : ∀ W, Below w.heap.size w W → Calls Tryd.prog 89 #[.agg #[.int .i64 24, .slice A n c], .int .i64 0, .int .i64 8] W fun e w' => e = .returned (.int .i64 (F 0 : Int)) ∧ Below W.heap.size W w' := hf 0 (by decide)
      have f1 : ∀ W, Below w.heap.size w W → Calls Tryd.prog 89 #[.agg #[.int .i64 24, .slice A n c], .int .i64 8, .int .i64 3] W fun e w' => e = .returned (.int .i64 (F 1 : Int)) ∧ Below W.heap.size W w' := hf 1 (by decide)
      have f2 : ∀ W, Below w.heap.size w W → Calls Tryd.prog 89 #[.agg #[.int .i64 24, .slice A n c], .int .i64 11, .int .i64 2] W fun e w' => e = .returned (.int .i64 (F 2 : Int)) ∧ Below W.heap.size W w' := hf 2 (by decide)
      have f3 : ∀ W, Below w.heap.size w W → Calls Tryd.prog 89 #[.agg #[.int .i64 24, .slice A n c], .int .i64 13, .int .i64 3] W fun e w' => e = .returned (.int .i64 (F 3 : Int)) ∧ Below W.heap.size W w' := hf 3 (by decide)
      have f4 : ∀ W, Below w.heap.size w W → Calls Tryd.prog 89 #[.agg #[.int .i64 24, .slice A n c], .int .i64 16, .int .i64 8] W fun e w' => e = .returned (.int .i64 (F 4 : Int)) ∧ Below W.heap.size W w' := hf 4 (by decide)
      have F0 := Lib.hid f0; have F1 := Lib.hid f1; have F2 := Lib.hid f2; have F3 := Lib.hid f3; have F4 := Lib.hid f4
      have HCK := Lib.hid hck; have HCH := Lib.hid hch
      clear hck hch hf f0 f1 f2 f3 f4 hn hm hA
      obtain ⟨R, hR⟩ : ∃ R, R = (if mayC ⟨F 0, F 1, F 2, F 3, F 4⟩ 8 = true then (0, (⟨F 0, F 1, F 2, F 3, F 4⟩ : CS)) else (40, zeroC) : Int × CS) := ⟨_, rfl⟩
      rw [← hR]
      have HR := Lib.hid hR; clear hR
      go_enter Tryd.func80, Tryd.ntmps80
      go_wp2_with fail
      refine (HCK.out _ hB).mono ?_
      rintro e w1 ⟨rfl, hB1⟩
      dsimp only
      replace k1 := k1.on hB1
      replace k2 := k2.on hB1
      have b1 := hB.trans (hB1.mono hB.size)
      clear hB hB1
      obtain ⟨r0, r1, -, -⟩ := k1.two
      have hdr : Below w1.heap.size w1 w1.drew := (Below.refl _ _).drew
      have halA := (Below.al w1 (.cells #[.int .i64 0, .int .i64 0, .int .i64 0, .int .i64 0, .int .i64 0] 23)).drew
      have bA := b1.trans (halA.mono b1.size)
      have kA1 := k1.on halA
      have kA2 := k2.on halA
      have gA0 := k1.lt
      have gA1 := Nat.ne_of_lt gA0
      have gA2 := Nat.ne_of_lt k2.lt
      have kaA : Blk (w1.alloc (.cells #[.int .i64 0, .int .i64 0, .int .i64 0, .int .i64 0, .int .i64 0] 23)).drew w1.heap.size 23 #[.int .i64 0, .int .i64 0, .int .i64 0, .int .i64 0, .int .i64 0] := (Blk.new w1 23 #[.int .i64 0, .int .i64 0, .int .i64 0, .int .i64 0, .int .i64 0]).drew
      clear halA
      have kc := k1.on hdr
      replace k2 := k2.on hdr
      have bc := b1.trans (hdr.mono b1.size)
      clear hdr b1 k1
      go_wp2_with fail
      go_region_held3 (fun w' => w'.cell? ⟨w.heap.size, 0, none⟩ = some (.int .i64 24) ∧ w'.cell? ⟨w.heap.size, 1, none⟩ = some (.slice A n c))
        (first | with_reducible exact keepB kc | with_reducible exact keepB kA1 | with_reducible exact keepA kc | with_reducible exact keepB (kc.far5 gne _ _ _ _ _) | with_reducible exact keepB ((kc.alloc _).far5 (Nat.ne_of_lt kc.lt) _ _ _ _ _))
        (first
      | (go_at_call 89; with_reducible refine (F0.out _ bA).mono ?_; rintro e v0 ⟨rfl, hC⟩; have glt := gA0; have gne := gA1; have g2ne := gA2; have ka := kaA.on hC; replace kc := kA1.on hC; replace k2 := kA2.on hC; replace bc := bA.trans (hC.mono bA.size); clear hC; obtain ⟨⟨a0, a1, a2, a3, a4⟩, e0, e1, e2, e3, e4⟩ := ka.five)
      | (go_at_call 89; with_reducible refine (F0.out _ bc).mono ?_; rintro e v0 ⟨rfl, hC⟩; (try replace ka := ka.on hC); replace kc := kc.on hC; replace k2 := k2.on hC; replace bc := bc.trans (hC.mono bc.size); clear hC; (try obtain ⟨⟨a0, a1, a2, a3, a4⟩, e0, e1, e2, e3, e4⟩ := ka.five))
      | (go_at_call 89; with_reducible refine (F0.out _ (bc.alloc bc.size _)).mono ?_; rintro e v0 ⟨rfl, hC⟩; have glt := kc.lt; have gne := Nat.ne_of_lt glt; have g2ne := Nat.ne_of_lt k2.lt; have ka := (Blk.new _ 23 #[.int .i64 0, .int .i64 0, .int .i64 0, .int .i64 0, .int .i64 0]).on hC; replace kc := (kc.alloc _).on hC; replace k2 := (k2.alloc _).on hC; replace bc := (bc.alloc bc.size _).trans (hC.mono (bc.alloc bc.size _).size); clear hC; obtain ⟨⟨a0, a1, a2, a3, a4⟩, e0, e1, e2, e3, e4⟩ := ka.five)
      | (go_at_call 89; with_reducible refine (F1.out _ bc).mono ?_; rintro e v1 ⟨rfl, hC⟩; (try replace ka := ka.on hC); replace kc := kc.on hC; replace k2 := k2.on hC; replace bc := bc.trans (hC.mono bc.size); clear hC; (try obtain ⟨⟨a0, a1, a2, a3, a4⟩, e0, e1, e2, e3, e4⟩ := ka.five))
      | (go_at_call 89; with_reducible refine (F1.out _ (bc.alloc bc.size _)).mono ?_; rintro e v1 ⟨rfl, hC⟩; have glt := kc.lt; have gne := Nat.ne_of_lt glt; have g2ne := Nat.ne_of_lt k2.lt; have ka := (Blk.new _ 23 #[.int .i64 0, .int .i64 0, .int .i64 0, .int .i64 0, .int .i64 0]).on hC; replace kc := (kc.alloc _).on hC; replace k2 := (k2.alloc _).on hC; replace bc := (bc.alloc bc.size _).trans (hC.mono (bc.alloc bc.size _).size); clear hC; obtain ⟨⟨a0, a1, a2, a3, a4⟩, e0, e1, e2, e3, e4⟩ := ka.five)
      | (go_at_call 89; with_reducible refine (F2.out _ bc).mono ?_; rintro e v2 ⟨rfl, hC⟩; (try replace ka := ka.on hC); replace kc := kc.on hC; replace k2 := k2.on hC; replace bc := bc.trans (hC.mono bc.size); clear hC; (try obtain ⟨⟨a0, a1, a2, a3, a4⟩, e0, e1, e2, e3, e4⟩ := ka.five))
      | (go_at_call 89; with_reducible refine (F2.out _ (bc.alloc bc.size _)).mono ?_; rintro e v2 ⟨rfl, hC⟩; have glt := kc.lt; have gne := Nat.ne_of_lt glt; have g2ne := Nat.ne_of_lt k2.lt; have ka := (Blk.new _ 23 #[.int .i64 0, .int .i64 0, .int .i64 0, .int .i64 0, .int .i64 0]).on hC; replace kc := (kc.alloc _).on hC; replace k2 := (k2.alloc _).on hC; replace bc := (bc.alloc bc.size _).trans (hC.mono (bc.alloc bc.size _).size); clear hC; obtain ⟨⟨a0, a1, a2, a3, a4⟩, e0, e1, e2, e3, e4⟩ := ka.five)
      | (go_at_call 89; with_reducible refine (F3.out _ bc).mono ?_; rintro e v3 ⟨rfl, hC⟩; (try replace ka := ka.on hC); replace kc := kc.on hC; replace k2 := k2.on hC; replace bc := bc.trans (hC.mono bc.size); clear hC; (try obtain ⟨⟨a0, a1, a2, a3, a4⟩, e0, e1, e2, e3, e4⟩ := ka.five))
      | (go_at_call 89; with_reducible refine (F3.out _ (bc.alloc bc.size _)).mono ?_; rintro e v3 ⟨rfl, hC⟩; have glt := kc.lt; have gne := Nat.ne_of_lt glt; have g2ne := Nat.ne_of_lt k2.lt; have ka := (Blk.new _ 23 #[.int .i64 0, .int .i64 0, .int .i64 0, .int .i64 0, .int .i64 0]).on hC; replace kc := (kc.alloc _).on hC; replace k2 := (k2.alloc _).on hC; replace bc := (bc.alloc bc.size _).trans (hC.mono (bc.alloc bc.size _).size); clear hC; obtain ⟨⟨a0, a1, a2, a3, a4⟩, e0, e1, e2, e3, e4⟩ := ka.five)
      | (go_at_call 89; with_reducible refine (F4.out _ bc).mono ?_; rintro e v4 ⟨rfl, hC⟩; (try replace ka := ka.on hC); replace kc := kc.on hC; replace k2 := k2.on hC; replace bc := bc.trans (hC.mono bc.size); clear hC; (try obtain ⟨⟨a0, a1, a2, a3, a4⟩, e0, e1, e2, e3, e4⟩ := ka.five))
      | (go_at_call 89; with_reducible refine (F4.out _ (bc.alloc bc.size _)).mono ?_; rintro e v4 ⟨rfl, hC⟩; have glt := kc.lt; have gne := Nat.ne_of_lt glt; have g2ne := Nat.ne_of_lt k2.lt; have ka := (Blk.new _ 23 #[.int .i64 0, .int .i64 0, .int .i64 0, .int .i64 0, .int .i64 0]).on hC; replace kc := (kc.alloc _).on hC; replace k2 := (k2.alloc _).on hC; replace bc := (bc.alloc bc.size _).trans (hC.mono (bc.alloc bc.size _).size); clear hC; obtain ⟨⟨a0, a1, a2, a3, a4⟩, e0, e1, e2, e3, e4⟩ := ka.five))
      all_goals
        first
          | (have kb := ka.put5 (.int .i64 (F 0)) (.int .i64 (F 1)) (.int .i64 (F 2)) (.int .i64 (F 3)) (.int .i64 (F 4)); have k2b := k2.far5 g2ne (.int .i64 (F 0)) (.int .i64 (F 1)) (.int .i64 (F 2)) (.int .i64 (F 3)) (.int .i64 (F 4)); have bb := Below.put5 bc (Nat.le_of_lt glt) (.int .i64 (F 0)) (.int .i64 (F 1)) (.int .i64 (F 2)) (.int .i64 (F 3)) (.int .i64 (F 4)); clear ka a0 a1 a2 a3 a4 e0 e1 e2 e3 e4)
          | (have kb := Blk.new v4 23 #[.int .i64 (F 0), .int .i64 (F 1), .int .i64 (F 2), .int .i64 (F 3), .int .i64 (F 4)]; have k2b := k2.alloc (.cells #[.int .i64 (F 0), .int .i64 (F 1), .int .i64 (F 2), .int .i64 (F 3), .int .i64 (F 4)] 23); have bb := bc.alloc bc.size (.cells #[.int .i64 (F 0), .int .i64 (F 1), .int .i64 (F 2), .int .i64 (F 3), .int .i64 (F 4)] 23))
        clear F0 F1 F2 F3 F4 kc k2 bc bA kA1 kA2 gA0 gA1 gA2 kaA HCK r0 r1
        obtain ⟨⟨c0, c1, c2, c3, c4⟩, -⟩ := kb.five
        go_wp2_with fail
        by_cases hmay : mayC ⟨F 0, F 1, F 2, F 3, F 4⟩ 8 = true
        · have hc0 : checkC ⟨F 0, F 1, F 2, F 3, F 4⟩ 8 = 0 := by unfold checkC; rw [if_neg (by omega), if_pos hmay]
          rw [hc0] at HCH
          rw [if_pos hmay] at HR
          refine (HCH.out _).mono ?_
          rintro e w7 ⟨rfl, hB7⟩
          dsimp only
          replace k2b := k2b.on hB7
          replace kb := kb.on hB7
          have b7 := bb.trans (hB7.mono bb.size)
          clear c0 c1 c2 c3 c4 hB7 bb hmay
          obtain ⟨⟨c0, c1, c2, c3, c4⟩, -⟩ := kb.five
          obtain ⟨⟨d0, d1, d2, d3, d4⟩, g0, g1, g2, g3, g4⟩ := k2b.five
          have z7 := k2b.lt
          go_wp2
          exact bodyPost_ret (v := .tuple #[.agg #[.int .i64 (F 0), .int .i64 (F 1), .int .i64 (F 2), .int .i64 (F 3), .int .i64 (F 4)], .int .i64 0]) (by simp [results, Tryd.results80, go_sem, d0, d1, d2, d3, d4]) rfl ⟨by rw [HR.out]; rfl, Below.put5 b7 (by omega) _ _ _ _ _⟩
        · have hc0 : checkC ⟨F 0, F 1, F 2, F 3, F 4⟩ 8 = 40 := by unfold checkC; rw [if_neg (by omega), if_neg hmay]
          rw [hc0] at HCH
          rw [if_neg hmay] at HR
          refine (HCH.out _).mono ?_
          rintro e w7 ⟨rfl, hB7⟩
          dsimp only
          replace k2b := k2b.on hB7
          have b7 := bb.trans (hB7.mono bb.size)
          clear c0 c1 c2 c3 c4 hB7 bb hmay kb
          obtain ⟨⟨d0, d1, d2, d3, d4⟩, g0, g1, g2, g3, g4⟩ := k2b.five
          have z7 := k2b.lt
          go_wp2
          exact bodyPost_ret (v := .tuple #[.agg #[.int .i64 0, .int .i64 0, .int .i64 0, .int .i64 0, .int .i64 0], .int .i64 40]) (by simp [results, Tryd.results80, go_sem, d0, d1, d2, d3, d4]) rfl ⟨by rw [HR.out]; rfl, Below.put5 b7 (by omega) _ _ _ _ _⟩
    · have hr : readC N bs = (40, zeroC) := by unfold readC; rw [if_pos hgd, if_neg hN]
      rw [hr]
      have dN : (N == 24) = false := by simpa using hN
      have HCK := Lib.hid hck
      clear hck hn hm hA hr hgd
      go_enter Tryd.func80, Tryd.ntmps80
      go_wp2_with fail
      refine (HCK.out _ hB).mono ?_
      rintro e w1 ⟨rfl, hB1⟩
      dsimp only
      replace k1 := k1.on hB1
      replace k2 := k2.on hB1
      have b1 := hB.trans (hB1.mono hB.size)
      obtain ⟨r0, r1, -, -⟩ := k1.two
      obtain ⟨⟨d0, d1, d2, d3, d4⟩, g0, g1, g2, g3, g4⟩ := k2.five
      have z2 := k2.lt
      clear hB hB1
      go_wp2
      exact bodyPost_ret (v := .tuple #[.agg #[.int .i64 0, .int .i64 0, .int .i64 0, .int .i64 0, .int .i64 0], .int .i64 40]) (by simp [results, Tryd.results80, go_sem, d0, d1, d2, d3, d4]) rfl ⟨rfl, Below.put5 b1 (by omega) _ _ _ _ _⟩
  · have hr : readC N bs = (10, zeroC) := by unfold readC; rw [if_neg hgd]
    rw [hr]
    have hgf : goodB N bs = false := by simpa using hgd
    rw [chk_no hgf] at hck
    have HCK := Lib.hid hck
    clear hck hn hm hA hr hgd hgf
    go_enter Tryd.func80, Tryd.ntmps80
    go_wp2_with fail
    refine (HCK.out _ hB).mono ?_
    rintro e w1 ⟨rfl, hB1⟩
    dsimp only
    replace k2 := k2.on hB1
    have b1 := hB.trans (hB1.mono hB.size)
    obtain ⟨⟨d0, d1, d2, d3, d4⟩, g0, g1, g2, g3, g4⟩ := k2.five
    have z2 := k2.lt
    clear hB hB1
    go_wp2
    exact bodyPost_ret (v := .tuple #[.agg #[.int .i64 0, .int .i64 0, .int .i64 0, .int .i64 0, .int .i64 0], .int .i64 10]) (by simp [results, Tryd.results80, go_sem, d0, d1, d2, d3, d4]) rfl ⟨rfl, Below.put5 b1 (by omega) _ _ _ _ _⟩
end Go.Proofs.YtcfbeelljhjnoaaDoor
