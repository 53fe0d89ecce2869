/-
  What Parse of package frame rests on: Check, kindOf for bits of a frame's length, and what is read in each case. Conditions: those that each theorem names.
-/
import Derived.Test.YtcfbeelljhjnoaaDoorNH
import Derived.Test.YtcfbeelljhjnoaaDoorNI
namespace Go.Proofs.YtcfbeelljhjnoaaDoor
open Go.RowKit

theorem check_list {w : World} {L : List Bool} {A : Option Addr} {n : Nat} (h : Bv w L A n) (c : Nat) :
    Calls Tryd.prog 43 #[.agg #[.int .i64 L.length, .slice A n c]] w fun e w' => e = .returned (.int .i64 0) ∧ Below w.heap.size w w' := by
  obtain ⟨bs, h1, h2, h3, h4, h5, h6, h7⟩ := h.parts
  have hp := check_any L.length A n c bs w h1 h2 h5
  rw [chk_yes h6] at hp
  exact hp
theorem kindOf_yes {w : World} {L : List Bool} {A : Option Addr} {n : Nat} (h : Bv w L A n) (c : Nat) {k : Nat} (hk : kindL L = k) (hlong : longF k L.length = true) :
    Calls Tryd.prog 44 #[.agg #[.int .i64 L.length, .slice A n c]] w fun e w' => e = .returned (.tuple #[.int .i64 k, .bool true]) ∧ Below w.heap.size w w' := by
  subst hk
  refine (kindOf_list h c rfl).mono ?_
  rintro e w' ⟨⟨k', h1, h2⟩, h3⟩
  rw [hlong] at h1 h2
  rw [h2, h1 rfl]
  exact ⟨rfl, h3⟩
theorem kindOf_no {w : World} {L : List Bool} {A : Option Addr} {n : Nat} (h : Bv w L A n) (c : Nat) (hlong : longF (kindL L) L.length = false) :
    Calls Tryd.prog 44 #[.agg #[.int .i64 L.length, .slice A n c]] w fun e w' => (∃ k : Int, e = .returned (.tuple #[.int .i64 k, .bool false])) ∧ Below w.heap.size w w' := by
  refine (kindOf_list h c rfl).mono ?_
  rintro e w' ⟨⟨k', h1, h2⟩, h3⟩
  rw [hlong] at h2
  exact ⟨⟨k', h2⟩, h3⟩
theorem read_no_zero {L : List Bool} {c : CS} {k : Nat} (hk : kindL L = k) (hz : zeroL k L = false) : readL L c = (51, zeroF) := by
  unfold readL; rw [hk, if_neg (fun h => by rw [hz] at h; exact absurd h.2 (by decide))]
theorem read_no_long {L : List Bool} {c : CS} (hz : longF (kindL L) L.length = false) : readL L c = (51, zeroF) := by
  unfold readL; rw [if_neg (fun h => by rw [hz] at h; exact absurd h.1 (by decide))]
theorem read_no_sum {L : List Bool} {c : CS} {k : Nat} (hk : kindL L = k) (hl : longF k L.length = true) (hz : zeroL k L = true) (hs : sumsL k L c = false) : readL L c = (21, zeroF) := by
  unfold readL; rw [hk, if_pos ⟨hl, hz⟩, if_neg (by rw [hs]; decide)]
theorem read_no_may {L : List Bool} {c : CS} {k : Nat} (hk : kindL L = k) (hl : longF k L.length = true) (hz : zeroL k L = true) (hs : sumsL k L c = true) (hm : ¬ mayF (toldF k L c) = true) : readL L c = (51, zeroF) := by
  unfold readL; rw [hk, if_pos ⟨hl, hz⟩, if_pos hs, if_neg hm]
theorem read_yes {L : List Bool} {c : CS} {k : Nat} (hk : kindL L = k) (hl : longF k L.length = true) (hz : zeroL k L = true) (hs : sumsL k L c = true) (hm : mayF (toldF k L c) = true) : readL L c = (0, toldF k L c) := by
  unfold readL; rw [hk, if_pos ⟨hl, hz⟩, if_pos hs, if_pos hm]
end Go.Proofs.YtcfbeelljhjnoaaDoor
