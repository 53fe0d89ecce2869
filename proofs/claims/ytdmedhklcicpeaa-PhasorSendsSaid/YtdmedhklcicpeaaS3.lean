/-
  The document's Turn, and Same over samples. Conditions: rows that can be read, of up to 65,536 samples.
-/
import Derived.Test.YtdmedhklcicpeaaS2
namespace Go.Proofs.Ytdmedhklcicpeaa
open Go.RowKit

theorem own_on {w w' : World} {b : Nat} {e : TypeId} {size : Nat} {v : Value} {n : Nat} {xs : List Value} (h : w.ownsRow b e size v n xs) (hb : Below w.heap.size w w') : w'.ownsRow b e size v n xs :=
  h.kept (only_of_below hb none) (by
    rcases h.2 with ⟨h1, _⟩ | ⟨g, cap, cur, h1, _⟩
    · rw [h1]; exact .inl rfl
    · exact .inr (by rw [h1]; simp [Value.ownBlock]))
/-- What a call answers: an error's number and samples, in memory that it made; all that was there stays. -/
def ResS (w : World) (r : Int × List Sp) (e : Ending) (w' : World) : Prop :=
  ∃ (A : Option Addr) (n c : Nat), e = .returned (.tuple #[.slice A n c, .int .i64 r.1]) ∧ n = r.2.length ∧ n ≤ c ∧ Smps w'.heap.size w' A r.2 ∧ Below w.heap.size w w' ∧ ∀ a, A = some a → r.2 ≠ [] → w.heap.size ≤ a.block
theorem own_fresh {w : World} {base : Nat} {e : TypeId} {size : Nat} {A : Option Addr} {n c k : Nat} {xs : List Value} (h : w.ownsRow base e size (.slice A n c) k xs) : ∀ a, A = some a → base ≤ a.block := fun a ha => by
  subst ha
  rcases h.2 with ⟨h1, _⟩ | ⟨g, cap, cur, h1, hb, _⟩
  · cases h1
  · injection h1 with h1 _ _
    injection h1 with h1
    subst h1; exact hb
theorem own_cap {w : World} {base : Nat} {e : TypeId} {size : Nat} {A : Option Addr} {n c k : Nat} {xs : List Value} (h : w.ownsRow base e size (.slice A n c) k xs) : n ≤ c := by
  rcases h.2 with ⟨h1, _⟩ | ⟨g, cap, cur, h1, _, _, hc, _⟩
  · injection h1 with _ h2 h3; omega
  · injection h1 with _ h2 h3; omega
/-- Turn, by the document. -/
def turnS (l : List Sp) (q : Int) : Int × List Sp := if l.all mayS = true then (0, l.map (turn1 · q)) else (31, [])
theorem map_snoc_s (l : List Sp) (f : Sp → Sp) (k : Nat) (h : k < l.length) : (l.take (k + 1)).map f = (l.take k).map f ++ [f (l[k]?.getD (0, 0))] := by
  rw [List.take_add_one, List.getElem?_eq_getElem h, List.map_append]; rfl
theorem may_at {l : List Sp} (h : l.all mayS = true) {k : Nat} (hk : k < l.length) : mayS (l[k]?.getD (0, 0)) = true := by
  rw [List.all_eq_true] at h
  rw [List.getElem?_eq_getElem hk]
  exact h _ (List.getElem_mem hk)

set_option maxRecDepth 4000 in
set_option maxHeartbeats 1000000 in
theorem rturn_any (A : Option Addr) (n c : Nat) (l : List Sp) (q : Int) (w : World) (hn : n = l.length) (hm : n ≤ 65536) (hA : Smps w.heap.size w A l) :
    Calls Try.prog 21 #[.slice A n c, .int .i64 q] w (ResS w (turnS l q)) := by
  have hms := rmays_any A n c l w hn (by unfold maxLen; omega) hA
  have HN := Lib.hid hn; have HA := Lib.hid hA; clear hn hA
  unfold turnS
  by_cases hall : l.all mayS = true
  · rw [if_pos hall]
    rw [hall] at hms
    have HALL := Lib.hid hall; have HMS := Lib.hid hms; clear hall hms
    obtain ⟨i0, hi, hz0, hz1, hz2⟩ := info_parts Try.infoS
    go_enter Try.func21, Try.ntmps21
    go_wp2_with fail
    refine HMS.out.mono ?_
    rintro e w1 ⟨rfl, hB1⟩
    go_wp2
    go_loopw [6, 7] (fun ov i wr => ∃ k : Nat, k ≤ n ∧ i = .int .i64 k ∧ wr.ownsRow w1.heap.size 38 2 ov k (cellsS ((l.take k).map (turn1 · q))) ∧ Below w1.heap.size w1 wr)
      (fun _ i _ => n - (intOf i).toNat)
    case atStart => exact ⟨0, by omega, rfl, World.ownsRow_nil _ _ _ _, Below.refl _ _⟩
    case round =>
      obtain ⟨k, hk, rfl, hrow, hBr⟩ := hrel
      have hsr := hBr.size
      have hBw := hB1.trans (hBr.mono hB1.size)
      by_cases hlt : k < n
      · have hkl : k < l.length := by have := HN.out; omega
        obtain ⟨b, off, rfl, hbl, hc0, hc1⟩ := (HA.out.below hBw).at_ hkl
        have hbs : b < wr.heap.size := Nat.lt_of_lt_of_le hbl hBw.size
        have hsn := map_snoc_s l (turn1 · q) k hkl
        have hmy := may_at HALL.out hkl
        generalize l[k]?.getD (0, 0) = s at *
        obtain ⟨x, y⟩ := s
        dsimp only at hc0 hc1
        have htn := rturned_any x y q wr hmy
        generalize turn1 (x, y) q = u at *
        obtain ⟨u1, u2⟩ := u
        dsimp only at htn
        have HTN := Lib.hid htn; have HSN := Lib.hid hsn
        clear htn hsn hmy hkl
        go_wp2_with fail
        refine HTN.out.mono ?_
        rintro e w2 ⟨rfl, hB2⟩
        have hrow2 := own_on hrow hB2
        have hs2 := hB2.size
        go_wp2_with (at_builtin; refine wpList_append_own _ rfl _ _ 25 rfl w1.heap.size 38 i0 (.agg #[.int .i64 0, .int .i64 0]) 2 16 Try.underlying25 hi hz0 hz1 hz2 rfl (by decide) u6 _ _ rfl (hrow2.alloc _) ⟨w2.heap.size, 0, none⟩ 1 1 [.int .i64 u1, .int .i64 u2] rfl rfl (cell_two_new _ _ _ _) (by simp [Value.oneCell']) (by unfold maxLen; omega) (by omega) (by simp; omega) ?_; intro v' w3 hown' hgrow _)
        go_roundw
        case rel =>
          have hBr2 := hBr.trans (hB2.mono hBr.size)
          refine ⟨k + 1, by omega, by go_num, ?_, own_below hrow2 hgrow hBr2 (Nat.le_refl _) hBr2.size⟩
          rw [HSN.out, cellsS_append]
          exact hown'
        case measure => simp [intOf]; omega
      · obtain rfl : k = n := by omega
        have htk : l.take k = l := List.take_of_length_le (by have := HN.out; omega)
        rw [htk] at hrow
        obtain ⟨OA, oc, rfl, hOA⟩ := smps_of_own hrow
        go_wp2
        go_ret2
        exact ⟨OA, _, oc, rfl, rfl, own_cap hrow, hOA, hBw, fun a ha _ => Nat.le_trans hB1.size (own_fresh hrow a ha)⟩
  · rw [if_neg hall]
    rw [Bool.not_eq_true] at hall
    rw [hall] at hms
    have HMS := Lib.hid hms; clear hall hms
    go_enter Try.func21, Try.ntmps21
    go_wp2_with fail
    refine HMS.out.mono ?_
    rintro e w1 ⟨rfl, hB1⟩
    go_wp2
    go_ret2
    exact ⟨none, 0, 0, rfl, rfl, Nat.le_refl _, fun h => absurd rfl h, hB1, fun a ha => by cases ha⟩

set_option maxHeartbeats 1000000 in
/-- Two rows that are the same are told so. -/
theorem rsames_yes (A B : Option Addr) (n c c' : Nat) (l : List Sp) (w : World) (hn : n = l.length) (hm : n ≤ maxLen) (hA : Smps w.heap.size w A l) (hB : Smps w.heap.size w B l) :
    Calls Try.prog 13 #[.slice A n c, .slice B n c'] w fun e w' => e = .returned (.bool true) ∧ Below w.heap.size w w' := by
  unfold maxLen at hm
  have HN := Lib.hid hn; have HA := Lib.hid hA; have HB := Lib.hid hB; clear hn hA hB
  have hd0 : ((n : Int) != (n : Int)) = false := by simp
  go_enter Try.func13, Try.ntmps13
  go_wp2
  go_loopw [5] (fun i wr => ∃ k : Nat, k ≤ n ∧ i = .int .i64 k ∧ Below w.heap.size w wr)
    (fun i _ => n - (intOf i).toNat)
  case atStart => exact ⟨0, by omega, rfl, Below.refl _ _⟩
  case round =>
    obtain ⟨k, hk, rfl, hBr⟩ := hrel
    by_cases hlt : k < n
    · have hkl : k < l.length := by have := HN.out; omega
      obtain ⟨b, off, rfl, hbl, hc0, hc1⟩ := (HA.out.below hBr).at_ hkl
      obtain ⟨b', off', rfl, hbl', hc0', hc1'⟩ := (HB.out.below hBr).at_ hkl
      have hbs : b < wr.heap.size := Nat.lt_of_lt_of_le hbl hBr.size
      have hbs' : b' < wr.heap.size := Nat.lt_of_lt_of_le hbl' hBr.size
      generalize l[k]?.getD (0, 0) = s at *
      obtain ⟨x, y⟩ := s
      dsimp only at hc0 hc1 hc0' hc1'
      clear hkl
      go_wp2
      go_quiet (fail)
      go_wp2
      go_roundw
      case rel => exact ⟨k + 1, by omega, by go_num, below_drewN hBr _⟩
      case measure => simp [intOf]; omega
    · go_wp2
      go_ret
      exact ⟨rfl, hBr⟩
end Go.Proofs.Ytdmedhklcicpeaa
