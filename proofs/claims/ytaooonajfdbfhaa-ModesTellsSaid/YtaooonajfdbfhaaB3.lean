/-
  Step of package cstate answers as the document says, the program's and the document's own. No condition.
-/
import Derived.Test.YtaooonajfdbfhaaB2
namespace Go.Proofs.Ytaooonajfdbfhaa
open Go.RowKit

/-- Step, by the document: an error and a state. -/
def goneC (c : CS) (n : Int) : CS := if c.P + 1 < n then ⟨c.T, c.P + 1, c.Mo, c.Nx, c.Me⟩ else ⟨(c.T + 1) % 256, 0, if c.Nx = 0 then c.Mo else c.Nx - 1, 0, c.Me⟩
def zeroC : CS := ⟨0, 0, 0, 0, 0⟩
def stepC (c : CS) (n : Int) : Int × CS := if checkC c n = 0 then (0, goneC c n) else (checkC c n, zeroC)
/-- What a call answers: an error's number and a state. -/
def ResC (w : World) (r : Int × CS) (e : Ending) (w' : World) : Prop := e = .returned (.tuple #[.agg r.2.cells, .int .i64 r.1]) ∧ Below w.heap.size w w'
/-- A box of five cells. -/
theorem Blk.fiveC {w : World} {g : Nat} {t : TypeId} {a b c d e : Value} (h : Blk w g t #[a, b, c, d, e]) :
    (w.cell? ⟨g, 0, none⟩ = some a ∧ w.cell? ⟨g, 1, none⟩ = some b ∧ w.cell? ⟨g, 2, none⟩ = some c ∧ w.cell? ⟨g, 3, none⟩ = some d ∧ w.cell? ⟨g, 4, none⟩ = some e) ∧
    (w.frozen? ⟨g, 0, none⟩ = false ∧ w.frozen? ⟨g, 1, none⟩ = false ∧ w.frozen? ⟨g, 2, none⟩ = false ∧ w.frozen? ⟨g, 3, none⟩ = false ∧ w.frozen? ⟨g, 4, none⟩ = false) :=
  ⟨⟨by simpa using h.cell 0, by simpa using h.cell 1, by simpa using h.cell 2, by simpa using h.cell 3, by simpa using h.cell 4⟩, h.frozen 0, h.frozen 1, h.frozen 2, h.frozen 3, h.frozen 4⟩
abbrev cC4 (T P Mo Nx Me : Int) : Array Value := #[.int .i64 T, .int .i64 P, .int .i64 Mo, .int .i64 Nx, .int .i64 Me]
theorem two_boxes (w : World) (T P Mo Nx Me : Int) :
    Blk ((w.alloc (.cells #[.int .i64 T, .int .i64 P, .int .i64 Mo, .int .i64 Nx, .int .i64 Me] 27)).alloc (.cells #[.int .i64 0, .int .i64 0, .int .i64 0, .int .i64 0, .int .i64 0] 27)) w.heap.size 27 #[.int .i64 T, .int .i64 P, .int .i64 Mo, .int .i64 Nx, .int .i64 Me] ∧
    Blk ((w.alloc (.cells #[.int .i64 T, .int .i64 P, .int .i64 Mo, .int .i64 Nx, .int .i64 Me] 27)).alloc (.cells #[.int .i64 0, .int .i64 0, .int .i64 0, .int .i64 0, .int .i64 0] 27)) (w.heap.size + 1) 27 #[.int .i64 0, .int .i64 0, .int .i64 0, .int .i64 0, .int .i64 0] ∧
    Below w.heap.size w ((w.alloc (.cells #[.int .i64 T, .int .i64 P, .int .i64 Mo, .int .i64 Nx, .int .i64 Me] 27)).alloc (.cells #[.int .i64 0, .int .i64 0, .int .i64 0, .int .i64 0, .int .i64 0] 27)) := by
  refine ⟨(Blk.new w _ _).alloc _, ?_, ((Below.refl _ _).alloc (Nat.le_refl _) _).alloc (by simp) _⟩
  simpa using Blk.new (w.alloc (.cells #[.int .i64 T, .int .i64 P, .int .i64 Mo, .int .i64 Nx, .int .i64 Me] 27)) 27 #[.int .i64 0, .int .i64 0, .int .i64 0, .int .i64 0, .int .i64 0]

set_option maxRecDepth 8000 in
set_option maxHeartbeats 2000000 in
theorem rstepC_any (c : CS) (n : Int) (w : World) : Calls Try.prog 20 #[.agg c.cells, .int .i64 n] w (ResC w (stepC c n)) := by
  have hck := fun W => rcheckC_any c n W
  unfold stepC ResC
  generalize hce : checkC c n = ce at *
  have HCE := Lib.hid hce; clear hce
  obtain ⟨T, P, Mo, Nx, Me⟩ := c
  unfold CS.cells at *
  dsimp only at *
  obtain ⟨k1, k2, hB⟩ := two_boxes w T P Mo Nx Me
  have HCK := Lib.hid hck; clear hck
  by_cases h0 : ce = 0
  · subst h0
    rw [if_pos rfl]
    obtain ⟨n0, n1, t0, t1, p0, p1, m0, m1, x0, x1, -⟩ := checkC_zero HCE.out
    dsimp only at t0 t1 p0 p1 m0 m1 x0 x1
    unfold goneC
    dsimp only
    by_cases hp : P + 1 < n
    · rw [if_pos hp]
      have dp : decide (P + 1 < n) = true := by simpa using hp
      go_enter Try.func20, Try.ntmps20
      go_wp2_with fail
      refine (HCK.out _).mono ?_
      rintro e w1 ⟨rfl, hB1⟩
      dsimp only
      replace k1 := k1.on hB1
      replace k2 := k2.on hB1
      have b1 := hB.trans (hB1.mono hB.size)
      obtain ⟨⟨c0, c1, c2, c3, c4⟩, f0, f1, f2, f3, f4⟩ := k1.fiveC
      obtain ⟨⟨d0, d1, d2, d3, d4⟩, g0, g1, g2, g3, g4⟩ := k2.fiveC
      have z1 := k1.lt
      have z2 := k2.lt
      clear hB hB1
      go_wp2
      exact bodyPost_ret (v := .tuple #[.agg #[.int .i64 T, .int .i64 (P + 1), .int .i64 Mo, .int .i64 Nx, .int .i64 Me], .int .i64 0]) (by simp [results, Try.results20, go_sem, d0, d1, d2, d3, d4]) rfl ⟨rfl, by repeat (first | refine Below.setCell ?_ (by simp) _ | exact b1)⟩
    · rw [if_neg hp]
      have dp : decide (P + 1 < n) = false := by simpa using hp
      have et : IntKind.i64.wrap ((T + 1).tmod 256) = (T + 1) % 256 := by
        rw [Int.tmod_eq_emod_of_nonneg (by omega), IntWalk.i64_in _ (by omega)]
      by_cases hx : Nx = 0
      · rw [if_pos hx]
        subst hx
        go_enter Try.func20, Try.ntmps20
        go_wp2_with fail
        refine (HCK.out _).mono ?_
        rintro e w1 ⟨rfl, hB1⟩
        dsimp only
        replace k1 := k1.on hB1
        replace k2 := k2.on hB1
        have b1 := hB.trans (hB1.mono hB.size)
        obtain ⟨⟨c0, c1, c2, c3, c4⟩, f0, f1, f2, f3, f4⟩ := k1.fiveC
        obtain ⟨⟨d0, d1, d2, d3, d4⟩, g0, g1, g2, g3, g4⟩ := k2.fiveC
        have z1 := k1.lt
        have z2 := k2.lt
        clear hB hB1
        go_wp2
        exact bodyPost_ret (v := .tuple #[.agg #[.int .i64 ((T + 1) % 256), .int .i64 0, .int .i64 Mo, .int .i64 0, .int .i64 Me], .int .i64 0]) (by simp [results, Try.results20, go_sem, d0, d1, d2, d3, d4]) rfl ⟨rfl, by repeat (first | refine Below.setCell ?_ (by simp) _ | exact b1)⟩
      · rw [if_neg hx]
        have dx : decide (0 < Nx) = true := by simp; omega
        go_enter Try.func20, Try.ntmps20
        go_wp2_with fail
        refine (HCK.out _).mono ?_
        rintro e w1 ⟨rfl, hB1⟩
        dsimp only
        replace k1 := k1.on hB1
        replace k2 := k2.on hB1
        have b1 := hB.trans (hB1.mono hB.size)
        obtain ⟨⟨c0, c1, c2, c3, c4⟩, f0, f1, f2, f3, f4⟩ := k1.fiveC
        obtain ⟨⟨d0, d1, d2, d3, d4⟩, g0, g1, g2, g3, g4⟩ := k2.fiveC
        have z1 := k1.lt
        have z2 := k2.lt
        clear hB hB1
        go_wp2
        exact bodyPost_ret (v := .tuple #[.agg #[.int .i64 ((T + 1) % 256), .int .i64 0, .int .i64 (Nx - 1), .int .i64 0, .int .i64 Me], .int .i64 0]) (by simp [results, Try.results20, go_sem, d0, d1, d2, d3, d4]) rfl ⟨rfl, by repeat (first | refine Below.setCell ?_ (by simp) _ | exact b1)⟩
  · rw [if_neg h0]
    have d0' : (ce == 0) = false := by simpa using h0
    have d0'' : decide (ce = 0) = false := by simpa using h0
    go_enter Try.func20, Try.ntmps20
    go_wp2_with fail
    refine (HCK.out _).mono ?_
    rintro e w1 ⟨rfl, hB1⟩
    dsimp only
    replace k1 := k1.on hB1
    replace k2 := k2.on hB1
    have b1 := hB.trans (hB1.mono hB.size)
    obtain ⟨⟨c0, c1, c2, c3, c4⟩, f0, f1, f2, f3, f4⟩ := k1.fiveC
    obtain ⟨⟨d0, d1, d2, d3, d4⟩, g0, g1, g2, g3, g4⟩ := k2.fiveC
    have z1 := k1.lt
    have z2 := k2.lt
    clear hB hB1
    go_wp2
    exact bodyPost_ret (v := .tuple #[.agg #[.int .i64 0, .int .i64 0, .int .i64 0, .int .i64 0, .int .i64 0], .int .i64 ce]) (by simp [results, Try.results20, go_sem, d0, d1, d2, d3, d4]) rfl ⟨rfl, by repeat (first | refine Below.setCell ?_ (by simp) _ | exact b1)⟩

end Go.Proofs.Ytaooonajfdbfhaa
