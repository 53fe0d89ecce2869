/-
  Modes in plain Lean: which state fits a list, which mode may come next, what is asked for and what is taken. No condition.
  isMode and check of package modes; Fits, asked and May of the document. Condition: a list that can be read. (Printed by tools/gen10b.py.)
  coming of package modes: which modes may come next, in an array. Condition: a list that can be read. (Printed by tools/gen10c.py.)
  Nexts and May of package modes: the modes that may come next are told, rising. Condition: a list that can be read. (Printed by tools/gen10d.py.)
  May of package modes. Condition: a list that can be read. (Printed by tools/gen10e.py.)
  Ask and Take, of package modes and of the document. Condition: a list that can be read. (Printed by tools/gen10f.py.)
-/
import Derived.Test.YtaooonajfdbfhaaMI
import Derived.Test.YtaooonajfdbfhaaB3
import Derived.Test.YtaooonajfdbfhaaMR
namespace Go.Proofs.Ytaooonajfdbfhaa
open Go.RowKit

/-- Does the Next of mode i hold at j? -/
def letS (m : ML) (i j : Nat) : Bool := (((m.ms[i]?).map Md.n).getD [])[j]?.getD false
/-- Does a state fit a list? -/
def fitsS (m : ML) (c : CS) : Bool := decide (checkC c m.N = 0) && (decide (c.Mo < (m.ms.length : Int)) && decide (c.Nx ≤ (m.ms.length : Int)))
def askedS (m : ML) (c : CS) : Int := if checkM m = 0 then (if fitsS m c = true then 0 else 40) else checkM m
/-- May a mode come next? -/
def mayN (m : ML) (c : CS) (k : Int) : Bool :=
  decide (askedS m c = 0) && (decide (0 ≤ k ∧ k < (m.ms.length : Int)) && (decide (k ≠ c.Mo) && (decide (c.Nx = 0) && letS m c.Mo.toNat k.toNat)))
/-- Ask, by the document: an error and what is asked for. -/
def askS (m : ML) (c : CS) (k : Int) : Int × Int :=
  if askedS m c = 0 then (if k < -1 ∨ (m.ms.length : Int) ≤ k then (100, 0) else if mayN m c k = true then (0, k + 1) else (0, 0)) else (askedS m c, 0)
def withNx (c : CS) (r : Int) : CS := ⟨c.T, c.P, c.Mo, r, c.Me⟩
/-- Take, by the document: an error and a state. -/
def takeS (m : ML) (c : CS) (r : Int) : Int × CS :=
  if askedS m c = 0 then (if r < 0 ∨ (m.ms.length : Int) < r then (100, zeroC) else if mayN m c (r - 1) = true then (0, withNx c r) else (0, c)) else (askedS m c, zeroC)

theorem asked_fits {m : ML} {c : CS} (h : askedS m c = 0) : checkM m = 0 ∧ fitsS m c = true := by
  unfold askedS at h
  split at h
  · rename_i h1
    split at h
    · rename_i h2; exact ⟨h1, h2⟩
    · cases h
  · rename_i h1; exact absurd h h1
theorem fits_asked {m : ML} {c : CS} (h1 : checkM m = 0) (h2 : fitsS m c = true) : askedS m c = 0 := by
  unfold askedS; rw [if_pos h1, if_pos h2]
theorem checkC_ok {c : CS} {n : Int} (h : checkC c n = 0) : (4 ≤ n ∧ n ≤ 8) ∧ mayC c n = true := by
  unfold checkC at h
  split at h
  · cases h
  · split at h
    · rename_i h1 h2; exact ⟨by omega, h2⟩
    · cases h
theorem mayC_ok {c : CS} {n : Int} (h : mayC c n = true) : (0 ≤ c.T ∧ c.T ≤ 255) ∧ (0 ≤ c.P ∧ c.P < n) ∧ (0 ≤ c.Mo ∧ c.Mo < 4) ∧ (0 ≤ c.Nx ∧ c.Nx ≤ 4) ∧ 0 ≤ c.Me ∧ c.Me < 2 ^ n.toNat := by
  have := of_decide_eq_true h
  omega
/-- What is known of a list and a state that fits it. -/
theorem asked_ok {m : ML} {c : CS} (h : askedS m c = 0) : okM m ∧ checkC c m.N = 0 ∧ (1 ≤ m.ms.length ∧ m.ms.length ≤ 4) ∧ (0 ≤ c.Mo ∧ c.Mo < (m.ms.length : Int)) ∧ (0 ≤ c.Nx ∧ c.Nx ≤ (m.ms.length : Int)) ∧ (4 ≤ m.N ∧ m.N ≤ 8) := by
  obtain ⟨h1, h2⟩ := asked_fits h
  have hok := checkM_ok h1
  unfold fitsS at h2
  rw [Bool.and_eq_true, Bool.and_eq_true] at h2
  have a1 := of_decide_eq_true h2.1
  have a2 := of_decide_eq_true h2.2.1
  have a3 := of_decide_eq_true h2.2.2
  have hm := mayC_ok (checkC_ok a1).2
  exact ⟨hok, a1, hok.2.1, ⟨hm.2.2.1.1, a2⟩, ⟨hm.2.2.2.1.1, a3⟩, hok.1⟩
theorem may_ok {m : ML} {c : CS} {k : Int} (h : mayN m c k = true) : askedS m c = 0 ∧ (0 ≤ k ∧ k < (m.ms.length : Int)) ∧ k ≠ c.Mo ∧ c.Nx = 0 ∧ letS m c.Mo.toNat k.toNat = true := by
  unfold mayN at h
  simp only [Bool.and_eq_true] at h
  exact ⟨of_decide_eq_true h.1, of_decide_eq_true h.2.1, of_decide_eq_true h.2.2.1, of_decide_eq_true h.2.2.2.1, h.2.2.2.2⟩
theorem may_no {m : ML} {c : CS} {k : Int} (h : ¬ (askedS m c = 0 ∧ (0 ≤ k ∧ k < (m.ms.length : Int)) ∧ k ≠ c.Mo ∧ c.Nx = 0 ∧ letS m c.Mo.toNat k.toNat = true)) : mayN m c k = false := by
  cases hm : mayN m c k with
  | false => rfl
  | true => exact absurd (may_ok hm) h
theorem may_of {m : ML} {c : CS} {k : Int} (h : askedS m c = 0) (h1 : 0 ≤ k ∧ k < (m.ms.length : Int)) (h2 : k ≠ c.Mo) (h3 : c.Nx = 0) : mayN m c k = letS m c.Mo.toNat k.toNat := by
  unfold mayN
  rw [decide_eq_true h, decide_eq_true h1, decide_eq_true h2, decide_eq_true h3]
  rfl
theorem may_lt {m : ML} {c : CS} {k : Int} (h : mayN m c k = true) : 0 ≤ k ∧ k < 4 := by
  obtain ⟨h1, h2, -⟩ := may_ok h
  have := (asked_ok h1).2.2.1
  omega
/-- The modes that may come next, below k. -/
def mayTo (m : ML) (c : CS) (k : Nat) : List Nat := (List.range k).filter fun j => mayN m c (j : Int)
def nextsS (m : ML) (c : CS) : List Nat := mayTo m c 4
theorem mayTo_yes {m : ML} {c : CS} {k : Nat} (h : mayN m c (k : Int) = true) : mayTo m c (k + 1) = mayTo m c k ++ [k] := by simp [mayTo, List.range_succ, h]
theorem mayTo_no {m : ML} {c : CS} {k : Nat} (h : mayN m c (k : Int) = false) : mayTo m c (k + 1) = mayTo m c k := by simp [mayTo, List.range_succ, h]
theorem mayTo_length (m : ML) (c : CS) (k : Nat) : (mayTo m c k).length ≤ k := by
  have := List.length_filter_le (fun j => mayN m c ((j : Nat) : Int)) (List.range k)
  simpa [mayTo] using this
theorem mayTo_pre (m : ML) (c : CS) {k n : Nat} (h : k ≤ n) : ∃ r, mayTo m c n = mayTo m c k ++ r := by
  obtain ⟨d, rfl⟩ : ∃ d, n = k + d := ⟨n - k, by omega⟩
  exact ⟨((List.range d).map (k + ·)).filter fun j => mayN m c (j : Int), by unfold mayTo; rw [List.range_add, List.filter_append]⟩
theorem mem_mayTo {m : ML} {c : CS} {k j : Nat} : j ∈ mayTo m c k ↔ j < k ∧ mayN m c (j : Int) = true := by
  simp [mayTo, List.mem_filter]
/-- No mode that may come lies behind as many as there are. -/
theorem mayTo_all (m : ML) (c : CS) : mayTo m c m.ms.length = nextsS m c := by
  have key : ∀ (d : Nat) (k : Nat), (∀ j, k ≤ j → mayN m c (j : Int) = false) → mayTo m c (k + d) = mayTo m c k := by
    intro d
    induction d with
    | zero => intro k _; rfl
    | succ d ih => intro k hk; rw [← Nat.add_assoc, mayTo_no (hk (k + d) (by omega)), ih k hk]
  unfold nextsS
  rcases Nat.le_total m.ms.length 4 with h | h
  · obtain ⟨d, hd⟩ : ∃ d, 4 = m.ms.length + d := ⟨4 - m.ms.length, by omega⟩
    rw [hd, key d m.ms.length (fun j hj => may_no (fun hh => by have := hh.2.1.2; omega))]
  · obtain ⟨d, hd⟩ : ∃ d, m.ms.length = 4 + d := ⟨m.ms.length - 4, by omega⟩
    rw [hd, key d 4 (fun j hj => may_no (fun hh => by have := (asked_ok hh.1).2.2.1.2; have := hh.2.1.2; omega))]
/-- Where a state is told to change nothing may come next. -/
theorem nexts_none {m : ML} {c : CS} (h : c.Nx ≠ 0) : nextsS m c = [] := by
  have : ∀ k, mayTo m c k = [] := by
    intro k
    induction k with
    | zero => rfl
    | succ k ih => rw [mayTo_no (may_no (fun hh => h hh.2.2.2.1)), ih]
  exact this 4
theorem nexts_nil {m : ML} {c : CS} (h : nextsS m c = []) (k : Int) : mayN m c k = false := by
  cases hm : mayN m c k with
  | false => rfl
  | true =>
    obtain ⟨h0, h1⟩ := may_lt hm
    obtain ⟨j, rfl⟩ := Int.eq_ofNat_of_zero_le h0
    have : j ∈ nextsS m c := mem_mayTo.2 ⟨by omega, hm⟩
    rw [h] at this
    cases this
end Go.Proofs.Ytaooonajfdbfhaa

namespace Go.Proofs.Ytaooonajfdbfhaa
open Go.RowKit

theorem neqz {a : Int} (h : ¬ a = 0) : (a != 0) = true := by simpa using h
theorem eqz {a : Int} (h : ¬ a = 0) : (a == 0) = false := by simpa using h
set_option maxRecDepth 100000 in
set_option maxHeartbeats 4000000 in
theorem isMode_any (m : ML) (c s : Slc) (k : Int) (w : World) (hM : Med w m c s) : Calls Try.prog 22 #[vM m c s, .int .i64 k] w fun e w' => e = .returned (.bool (decide (0 ≤ k ∧ k < (m.ms.length : Int)))) ∧ Below w.heap.size w w' := by
  have hsn := hM.sn
  rw [← hsn]
  clear hsn hM
  obtain ⟨N, S, G, W, D, L, cold, ms⟩ := m
  obtain ⟨Ac, nc, cc⟩ := c
  obtain ⟨As, ns, cs⟩ := s
  dsimp only [vM]
  by_cases h0 : 0 ≤ k
  · have e : decide (0 ≤ k ∧ k < (ns : Int)) = decide (k < (ns : Int)) := by simp [h0]
    have d0 : decide (0 ≤ k) = true := by simpa using h0
    rw [e]
    clear e h0
    generalize hR : decide (k < (ns : Int)) = R
    go_enter Try.func22, Try.ntmps22
    go_wp2
    go_ret
    exact ⟨rfl, Below.al _ _⟩
  · have e : decide (0 ≤ k ∧ k < (ns : Int)) = false := by simp [h0]
    have d0 : decide (0 ≤ k) = false := by simpa using h0
    rw [e]
    clear e h0
    go_enter Try.func22, Try.ntmps22
    go_wp2
    go_ret
    exact ⟨rfl, Below.al _ _⟩
set_option maxRecDepth 100000 in
set_option maxHeartbeats 4000000 in
theorem mocheck_any (m : ML) (c s : Slc) (st : CS) (w : World) (hM : Med w m c s) : Calls Try.prog 21 #[vM m c s, .agg st.cells] w fun e w' => e = .returned (.int .i64 (askedS m st)) ∧ Below w.heap.size w w' := by
  have h1 := fun U (h : Below w.heap.size w U) => mcheck_any m c s U (hM.on h)
  have h2 := fun U => checkC_any st m.N U
  have h3 := fun U (h : Below w.heap.size w U) => isMode_any m c s st.Mo U (hM.on h)
  have hsn := hM.sn
  rw [← hsn] at h3
  by_cases c1 : checkM m = 0
  rotate_left
  · rw [show askedS m st = checkM m from if_neg c1]
    have d1 := neqz c1
    generalize checkM m = e1 at *
    clear h2 h3 c1 hM hsn
    have H1 := Lib.hid h1; clear h1
    obtain ⟨N, S, G, W, D, L, cold, ms⟩ := m
    obtain ⟨Ac, nc, cc⟩ := c
    obtain ⟨As, ns, cs⟩ := s
    obtain ⟨T, P, Mo, Nx, Me⟩ := st
    dsimp only [vM, CS.cells] at *
    obtain ⟨kb, kc, bc⟩ := bx2 w #[.int .i64 N, .int .i64 S, .int .i64 G, .int .i64 W, .int .i64 D, .int .i64 L, .slice Ac nc cc, .slice As ns cs] #[.int .i64 T, .int .i64 P, .int .i64 Mo, .int .i64 Nx, .int .i64 Me] 25 27
    go_enter Try.func21, Try.ntmps21
    go_wp2_with (first
      | (go_at_call 24; with_reducible refine (H1.out _ bc).mono ?_; rintro e w1 ⟨rfl, hC⟩; dsimp only; replace kb := kb.on hC; replace kc := kc.on hC; replace bc := bc.trans (hC.mono bc.size); clear hC; (try clear pkb0 pkb1 pkb2 pkb3 pkb4 pkb5 pkb6 pkb7); obtain ⟨pkb0, pkb1, pkb2, pkb3, pkb4, pkb5, pkb6, pkb7⟩ := kb.eight; (try clear pkc0 pkc1 pkc2 pkc3 pkc4); obtain ⟨⟨pkc0, pkc1, pkc2, pkc3, pkc4⟩, -⟩ := kc.five))
    go_ret
    exact ⟨rfl, bc⟩
  rw [show askedS m st = if fitsS m st = true then 0 else 40 from if_pos c1]
  rw [c1] at h1
  clear c1
  by_cases c2 : checkC st m.N = 0
  rotate_left
  · rw [if_neg (by unfold fitsS; simp [c2])]
    have d2 := neqz c2
    generalize checkC st m.N = e2 at *
    clear h3 c2 hM hsn
    have H1 := Lib.hid h1; have H2 := Lib.hid h2; clear h1 h2
    obtain ⟨N, S, G, W, D, L, cold, ms⟩ := m
    obtain ⟨Ac, nc, cc⟩ := c
    obtain ⟨As, ns, cs⟩ := s
    obtain ⟨T, P, Mo, Nx, Me⟩ := st
    dsimp only [vM, CS.cells] at *
    obtain ⟨kb, kc, bc⟩ := bx2 w #[.int .i64 N, .int .i64 S, .int .i64 G, .int .i64 W, .int .i64 D, .int .i64 L, .slice Ac nc cc, .slice As ns cs] #[.int .i64 T, .int .i64 P, .int .i64 Mo, .int .i64 Nx, .int .i64 Me] 25 27
    go_enter Try.func21, Try.ntmps21
    go_wp2_with (first
      | (go_at_call 24; with_reducible refine (H1.out _ bc).mono ?_; rintro e w1 ⟨rfl, hC⟩; dsimp only; replace kb := kb.on hC; replace kc := kc.on hC; replace bc := bc.trans (hC.mono bc.size); clear hC; (try clear pkb0 pkb1 pkb2 pkb3 pkb4 pkb5 pkb6 pkb7); obtain ⟨pkb0, pkb1, pkb2, pkb3, pkb4, pkb5, pkb6, pkb7⟩ := kb.eight; (try clear pkc0 pkc1 pkc2 pkc3 pkc4); obtain ⟨⟨pkc0, pkc1, pkc2, pkc3, pkc4⟩, -⟩ := kc.five)
      | (go_at_call 32; with_reducible refine (H2.out _).mono ?_; rintro e w1 ⟨rfl, hC⟩; dsimp only; replace kb := kb.on hC; replace kc := kc.on hC; replace bc := bc.trans (hC.mono bc.size); clear hC; (try clear pkb0 pkb1 pkb2 pkb3 pkb4 pkb5 pkb6 pkb7); obtain ⟨pkb0, pkb1, pkb2, pkb3, pkb4, pkb5, pkb6, pkb7⟩ := kb.eight; (try clear pkc0 pkc1 pkc2 pkc3 pkc4); obtain ⟨⟨pkc0, pkc1, pkc2, pkc3, pkc4⟩, -⟩ := kc.five))
    go_ret
    exact ⟨rfl, bc⟩
  have hmo := (mayC_ok (checkC_ok c2).2).2.2.1.1
  have e3 : fitsS m st = (decide (st.Mo < (s.n : Int)) && decide (st.Nx ≤ (s.n : Int))) := by unfold fitsS; rw [decide_eq_true c2, hsn]; rfl
  rw [e3]
  rw [c2] at h2
  have e4 : decide (0 ≤ st.Mo ∧ st.Mo < (s.n : Int)) = decide (st.Mo < (s.n : Int)) := by simp [hmo]
  rw [e4] at h3
  clear e3 e4 c2 hmo hM hsn
  have H1 := Lib.hid h1; have H2 := Lib.hid h2; clear h1 h2
  obtain ⟨N, S, G, W, D, L, cold, ms⟩ := m
  obtain ⟨Ac, nc, cc⟩ := c
  obtain ⟨As, ns, cs⟩ := s
  obtain ⟨T, P, Mo, Nx, Me⟩ := st
  dsimp only at *
  cases c3 : decide (Mo < (ns : Int)) with
  | false =>
    rw [c3] at h3
    have H3 := Lib.hid h3; clear h3
    dsimp only [vM, CS.cells] at *
    obtain ⟨kb, kc, bc⟩ := bx2 w #[.int .i64 N, .int .i64 S, .int .i64 G, .int .i64 W, .int .i64 D, .int .i64 L, .slice Ac nc cc, .slice As ns cs] #[.int .i64 T, .int .i64 P, .int .i64 Mo, .int .i64 Nx, .int .i64 Me] 25 27
    go_enter Try.func21, Try.ntmps21
    go_wp2_with (first
      | (go_at_call 24; with_reducible refine (H1.out _ bc).mono ?_; rintro e w1 ⟨rfl, hC⟩; dsimp only; replace kb := kb.on hC; replace kc := kc.on hC; replace bc := bc.trans (hC.mono bc.size); clear hC; (try clear pkb0 pkb1 pkb2 pkb3 pkb4 pkb5 pkb6 pkb7); obtain ⟨pkb0, pkb1, pkb2, pkb3, pkb4, pkb5, pkb6, pkb7⟩ := kb.eight; (try clear pkc0 pkc1 pkc2 pkc3 pkc4); obtain ⟨⟨pkc0, pkc1, pkc2, pkc3, pkc4⟩, -⟩ := kc.five)
      | (go_at_call 32; with_reducible refine (H2.out _).mono ?_; rintro e w1 ⟨rfl, hC⟩; dsimp only; replace kb := kb.on hC; replace kc := kc.on hC; replace bc := bc.trans (hC.mono bc.size); clear hC; (try clear pkb0 pkb1 pkb2 pkb3 pkb4 pkb5 pkb6 pkb7); obtain ⟨pkb0, pkb1, pkb2, pkb3, pkb4, pkb5, pkb6, pkb7⟩ := kb.eight; (try clear pkc0 pkc1 pkc2 pkc3 pkc4); obtain ⟨⟨pkc0, pkc1, pkc2, pkc3, pkc4⟩, -⟩ := kc.five)
      | (go_at_call 22; with_reducible refine (H3.out _ bc).mono ?_; rintro e w1 ⟨rfl, hC⟩; dsimp only; replace kb := kb.on hC; replace kc := kc.on hC; replace bc := bc.trans (hC.mono bc.size); clear hC; (try clear pkb0 pkb1 pkb2 pkb3 pkb4 pkb5 pkb6 pkb7); obtain ⟨pkb0, pkb1, pkb2, pkb3, pkb4, pkb5, pkb6, pkb7⟩ := kb.eight; (try clear pkc0 pkc1 pkc2 pkc3 pkc4); obtain ⟨⟨pkc0, pkc1, pkc2, pkc3, pkc4⟩, -⟩ := kc.five))
    go_ret
    exact ⟨rfl, bc⟩
  | true =>
    rw [c3] at h3
    have H3 := Lib.hid h3; clear h3
    by_cases c4 : Nx ≤ (ns : Int)
    · have d4 : decide ((ns : Int) < Nx) = false := by simp; omega
      rw [decide_eq_true c4]
      clear c4
      dsimp only [vM, CS.cells] at *
      obtain ⟨kb, kc, bc⟩ := bx2 w #[.int .i64 N, .int .i64 S, .int .i64 G, .int .i64 W, .int .i64 D, .int .i64 L, .slice Ac nc cc, .slice As ns cs] #[.int .i64 T, .int .i64 P, .int .i64 Mo, .int .i64 Nx, .int .i64 Me] 25 27
      go_enter Try.func21, Try.ntmps21
      go_wp2_with (first
        | (go_at_call 24; with_reducible refine (H1.out _ bc).mono ?_; rintro e w1 ⟨rfl, hC⟩; dsimp only; replace kb := kb.on hC; replace kc := kc.on hC; replace bc := bc.trans (hC.mono bc.size); clear hC; (try clear pkb0 pkb1 pkb2 pkb3 pkb4 pkb5 pkb6 pkb7); obtain ⟨pkb0, pkb1, pkb2, pkb3, pkb4, pkb5, pkb6, pkb7⟩ := kb.eight; (try clear pkc0 pkc1 pkc2 pkc3 pkc4); obtain ⟨⟨pkc0, pkc1, pkc2, pkc3, pkc4⟩, -⟩ := kc.five)
        | (go_at_call 32; with_reducible refine (H2.out _).mono ?_; rintro e w1 ⟨rfl, hC⟩; dsimp only; replace kb := kb.on hC; replace kc := kc.on hC; replace bc := bc.trans (hC.mono bc.size); clear hC; (try clear pkb0 pkb1 pkb2 pkb3 pkb4 pkb5 pkb6 pkb7); obtain ⟨pkb0, pkb1, pkb2, pkb3, pkb4, pkb5, pkb6, pkb7⟩ := kb.eight; (try clear pkc0 pkc1 pkc2 pkc3 pkc4); obtain ⟨⟨pkc0, pkc1, pkc2, pkc3, pkc4⟩, -⟩ := kc.five)
        | (go_at_call 22; with_reducible refine (H3.out _ bc).mono ?_; rintro e w1 ⟨rfl, hC⟩; dsimp only; replace kb := kb.on hC; replace kc := kc.on hC; replace bc := bc.trans (hC.mono bc.size); clear hC; (try clear pkb0 pkb1 pkb2 pkb3 pkb4 pkb5 pkb6 pkb7); obtain ⟨pkb0, pkb1, pkb2, pkb3, pkb4, pkb5, pkb6, pkb7⟩ := kb.eight; (try clear pkc0 pkc1 pkc2 pkc3 pkc4); obtain ⟨⟨pkc0, pkc1, pkc2, pkc3, pkc4⟩, -⟩ := kc.five))
      go_ret
      exact ⟨rfl, bc⟩
    · have d4 : decide ((ns : Int) < Nx) = true := by simp; omega
      rw [decide_eq_false c4]
      clear c4
      dsimp only [vM, CS.cells] at *
      obtain ⟨kb, kc, bc⟩ := bx2 w #[.int .i64 N, .int .i64 S, .int .i64 G, .int .i64 W, .int .i64 D, .int .i64 L, .slice Ac nc cc, .slice As ns cs] #[.int .i64 T, .int .i64 P, .int .i64 Mo, .int .i64 Nx, .int .i64 Me] 25 27
      go_enter Try.func21, Try.ntmps21
      go_wp2_with (first
        | (go_at_call 24; with_reducible refine (H1.out _ bc).mono ?_; rintro e w1 ⟨rfl, hC⟩; dsimp only; replace kb := kb.on hC; replace kc := kc.on hC; replace bc := bc.trans (hC.mono bc.size); clear hC; (try clear pkb0 pkb1 pkb2 pkb3 pkb4 pkb5 pkb6 pkb7); obtain ⟨pkb0, pkb1, pkb2, pkb3, pkb4, pkb5, pkb6, pkb7⟩ := kb.eight; (try clear pkc0 pkc1 pkc2 pkc3 pkc4); obtain ⟨⟨pkc0, pkc1, pkc2, pkc3, pkc4⟩, -⟩ := kc.five)
        | (go_at_call 32; with_reducible refine (H2.out _).mono ?_; rintro e w1 ⟨rfl, hC⟩; dsimp only; replace kb := kb.on hC; replace kc := kc.on hC; replace bc := bc.trans (hC.mono bc.size); clear hC; (try clear pkb0 pkb1 pkb2 pkb3 pkb4 pkb5 pkb6 pkb7); obtain ⟨pkb0, pkb1, pkb2, pkb3, pkb4, pkb5, pkb6, pkb7⟩ := kb.eight; (try clear pkc0 pkc1 pkc2 pkc3 pkc4); obtain ⟨⟨pkc0, pkc1, pkc2, pkc3, pkc4⟩, -⟩ := kc.five)
        | (go_at_call 22; with_reducible refine (H3.out _ bc).mono ?_; rintro e w1 ⟨rfl, hC⟩; dsimp only; replace kb := kb.on hC; replace kc := kc.on hC; replace bc := bc.trans (hC.mono bc.size); clear hC; (try clear pkb0 pkb1 pkb2 pkb3 pkb4 pkb5 pkb6 pkb7); obtain ⟨pkb0, pkb1, pkb2, pkb3, pkb4, pkb5, pkb6, pkb7⟩ := kb.eight; (try clear pkc0 pkc1 pkc2 pkc3 pkc4); obtain ⟨⟨pkc0, pkc1, pkc2, pkc3, pkc4⟩, -⟩ := kc.five))
      go_ret
      exact ⟨rfl, bc⟩
set_option maxRecDepth 100000 in
set_option maxHeartbeats 4000000 in
theorem rfits_any (m : ML) (c s : Slc) (st : CS) (w : World) (hM : Med w m c s) : Calls Try.prog 28 #[vM m c s, .agg st.cells] w fun e w' => e = .returned (.bool (fitsS m st)) ∧ Below w.heap.size w w' := by
  have h2 := fun U => rcheckC_any st m.N U
  have hsn := hM.sn
  unfold fitsS
  rw [← hsn]
  clear hM hsn
  by_cases c2 : checkC st m.N = 0
  rotate_left
  · rw [decide_eq_false c2]
    have d2 := eqz c2
    generalize checkC st m.N = e2 at *
    clear c2
    have H2 := Lib.hid h2; clear h2
    obtain ⟨N, S, G, W, D, L, cold, ms⟩ := m
    obtain ⟨Ac, nc, cc⟩ := c
    obtain ⟨As, ns, cs⟩ := s
    obtain ⟨T, P, Mo, Nx, Me⟩ := st
    dsimp only [vM, CS.cells] at *
    obtain ⟨kb, kc, bc⟩ := bx2 w #[.int .i64 N, .int .i64 S, .int .i64 G, .int .i64 W, .int .i64 D, .int .i64 L, .slice Ac nc cc, .slice As ns cs] #[.int .i64 T, .int .i64 P, .int .i64 Mo, .int .i64 Nx, .int .i64 Me] 25 27
    go_enter Try.func28, Try.ntmps28
    go_wp2_with (first
      | (go_at_call 31; with_reducible refine (H2.out _).mono ?_; rintro e w1 ⟨rfl, hC⟩; dsimp only; replace kb := kb.on hC; replace kc := kc.on hC; replace bc := bc.trans (hC.mono bc.size); clear hC; (try clear pkb0 pkb1 pkb2 pkb3 pkb4 pkb5 pkb6 pkb7); obtain ⟨pkb0, pkb1, pkb2, pkb3, pkb4, pkb5, pkb6, pkb7⟩ := kb.eight; (try clear pkc0 pkc1 pkc2 pkc3 pkc4); obtain ⟨⟨pkc0, pkc1, pkc2, pkc3, pkc4⟩, -⟩ := kc.five))
    go_ret
    exact ⟨rfl, bc⟩
  rw [decide_eq_true c2]
  rw [c2] at h2
  clear c2
  have H2 := Lib.hid h2; clear h2
  obtain ⟨N, S, G, W, D, L, cold, ms⟩ := m
  obtain ⟨Ac, nc, cc⟩ := c
  obtain ⟨As, ns, cs⟩ := s
  obtain ⟨T, P, Mo, Nx, Me⟩ := st
  dsimp only at *
  cases c3 : decide (Mo < (ns : Int)) with
  | false =>
    dsimp only [vM, CS.cells] at *
    obtain ⟨kb, kc, bc⟩ := bx2 w #[.int .i64 N, .int .i64 S, .int .i64 G, .int .i64 W, .int .i64 D, .int .i64 L, .slice Ac nc cc, .slice As ns cs] #[.int .i64 T, .int .i64 P, .int .i64 Mo, .int .i64 Nx, .int .i64 Me] 25 27
    go_enter Try.func28, Try.ntmps28
    go_wp2_with (first
      | (go_at_call 31; with_reducible refine (H2.out _).mono ?_; rintro e w1 ⟨rfl, hC⟩; dsimp only; replace kb := kb.on hC; replace kc := kc.on hC; replace bc := bc.trans (hC.mono bc.size); clear hC; (try clear pkb0 pkb1 pkb2 pkb3 pkb4 pkb5 pkb6 pkb7); obtain ⟨pkb0, pkb1, pkb2, pkb3, pkb4, pkb5, pkb6, pkb7⟩ := kb.eight; (try clear pkc0 pkc1 pkc2 pkc3 pkc4); obtain ⟨⟨pkc0, pkc1, pkc2, pkc3, pkc4⟩, -⟩ := kc.five))
    go_ret
    exact ⟨rfl, bc⟩
  | true =>
    generalize hR : decide (Nx ≤ (ns : Int)) = R
    dsimp only [vM, CS.cells] at *
    obtain ⟨kb, kc, bc⟩ := bx2 w #[.int .i64 N, .int .i64 S, .int .i64 G, .int .i64 W, .int .i64 D, .int .i64 L, .slice Ac nc cc, .slice As ns cs] #[.int .i64 T, .int .i64 P, .int .i64 Mo, .int .i64 Nx, .int .i64 Me] 25 27
    go_enter Try.func28, Try.ntmps28
    go_wp2_with (first
      | (go_at_call 31; with_reducible refine (H2.out _).mono ?_; rintro e w1 ⟨rfl, hC⟩; dsimp only; replace kb := kb.on hC; replace kc := kc.on hC; replace bc := bc.trans (hC.mono bc.size); clear hC; (try clear pkb0 pkb1 pkb2 pkb3 pkb4 pkb5 pkb6 pkb7); obtain ⟨pkb0, pkb1, pkb2, pkb3, pkb4, pkb5, pkb6, pkb7⟩ := kb.eight; (try clear pkc0 pkc1 pkc2 pkc3 pkc4); obtain ⟨⟨pkc0, pkc1, pkc2, pkc3, pkc4⟩, -⟩ := kc.five))
    go_ret
    exact ⟨rfl, bc⟩
set_option maxRecDepth 100000 in
set_option maxHeartbeats 4000000 in
theorem rasked_any (m : ML) (c s : Slc) (st : CS) (w : World) (hM : Med w m c s) : Calls Try.prog 23 #[vM m c s, .agg st.cells] w fun e w' => e = .returned (.int .i64 (askedS m st)) ∧ Below w.heap.size w w' := by
  have h1 := fun U (h : Below w.heap.size w U) => rmcheck_any m c s U (hM.on h)
  have h2 := fun U (h : Below w.heap.size w U) => rfits_any m c s st U (hM.on h)
  by_cases c1 : checkM m = 0
  rotate_left
  · rw [show askedS m st = checkM m from if_neg c1]
    have d1 := neqz c1
    generalize checkM m = e1 at *
    clear h2 c1 hM
    have H1 := Lib.hid h1; clear h1
    obtain ⟨N, S, G, W, D, L, cold, ms⟩ := m
    obtain ⟨Ac, nc, cc⟩ := c
    obtain ⟨As, ns, cs⟩ := s
    obtain ⟨T, P, Mo, Nx, Me⟩ := st
    dsimp only [vM, CS.cells] at *
    obtain ⟨kb, kc, bc⟩ := bx2 w #[.int .i64 N, .int .i64 S, .int .i64 G, .int .i64 W, .int .i64 D, .int .i64 L, .slice Ac nc cc, .slice As ns cs] #[.int .i64 T, .int .i64 P, .int .i64 Mo, .int .i64 Nx, .int .i64 Me] 25 27
    go_enter Try.func23, Try.ntmps23
    go_wp2_with (first
      | (go_at_call 26; with_reducible refine (H1.out _ bc).mono ?_; rintro e w1 ⟨rfl, hC⟩; dsimp only; replace kb := kb.on hC; replace kc := kc.on hC; replace bc := bc.trans (hC.mono bc.size); clear hC; (try clear pkb0 pkb1 pkb2 pkb3 pkb4 pkb5 pkb6 pkb7); obtain ⟨pkb0, pkb1, pkb2, pkb3, pkb4, pkb5, pkb6, pkb7⟩ := kb.eight; (try clear pkc0 pkc1 pkc2 pkc3 pkc4); obtain ⟨⟨pkc0, pkc1, pkc2, pkc3, pkc4⟩, -⟩ := kc.five))
    go_ret
    exact ⟨rfl, bc⟩
  rw [show askedS m st = if fitsS m st = true then 0 else 40 from if_pos c1]
  rw [c1] at h1
  clear c1 hM
  generalize fitsS m st = q at *
  have H1 := Lib.hid h1; have H2 := Lib.hid h2; clear h1 h2
  obtain ⟨N, S, G, W, D, L, cold, ms⟩ := m
  obtain ⟨Ac, nc, cc⟩ := c
  obtain ⟨As, ns, cs⟩ := s
  obtain ⟨T, P, Mo, Nx, Me⟩ := st
  cases q with
  | false =>
    dsimp only [vM, CS.cells] at *
    obtain ⟨kb, kc, bc⟩ := bx2 w #[.int .i64 N, .int .i64 S, .int .i64 G, .int .i64 W, .int .i64 D, .int .i64 L, .slice Ac nc cc, .slice As ns cs] #[.int .i64 T, .int .i64 P, .int .i64 Mo, .int .i64 Nx, .int .i64 Me] 25 27
    go_enter Try.func23, Try.ntmps23
    go_wp2_with (first
      | (go_at_call 26; with_reducible refine (H1.out _ bc).mono ?_; rintro e w1 ⟨rfl, hC⟩; dsimp only; replace kb := kb.on hC; replace kc := kc.on hC; replace bc := bc.trans (hC.mono bc.size); clear hC; (try clear pkb0 pkb1 pkb2 pkb3 pkb4 pkb5 pkb6 pkb7); obtain ⟨pkb0, pkb1, pkb2, pkb3, pkb4, pkb5, pkb6, pkb7⟩ := kb.eight; (try clear pkc0 pkc1 pkc2 pkc3 pkc4); obtain ⟨⟨pkc0, pkc1, pkc2, pkc3, pkc4⟩, -⟩ := kc.five)
      | (go_at_call 28; with_reducible refine (H2.out _ bc).mono ?_; rintro e w1 ⟨rfl, hC⟩; dsimp only; replace kb := kb.on hC; replace kc := kc.on hC; replace bc := bc.trans (hC.mono bc.size); clear hC; (try clear pkb0 pkb1 pkb2 pkb3 pkb4 pkb5 pkb6 pkb7); obtain ⟨pkb0, pkb1, pkb2, pkb3, pkb4, pkb5, pkb6, pkb7⟩ := kb.eight; (try clear pkc0 pkc1 pkc2 pkc3 pkc4); obtain ⟨⟨pkc0, pkc1, pkc2, pkc3, pkc4⟩, -⟩ := kc.five))
    go_ret
    exact ⟨rfl, bc⟩
  | true =>
    dsimp only [vM, CS.cells] at *
    obtain ⟨kb, kc, bc⟩ := bx2 w #[.int .i64 N, .int .i64 S, .int .i64 G, .int .i64 W, .int .i64 D, .int .i64 L, .slice Ac nc cc, .slice As ns cs] #[.int .i64 T, .int .i64 P, .int .i64 Mo, .int .i64 Nx, .int .i64 Me] 25 27
    go_enter Try.func23, Try.ntmps23
    go_wp2_with (first
      | (go_at_call 26; with_reducible refine (H1.out _ bc).mono ?_; rintro e w1 ⟨rfl, hC⟩; dsimp only; replace kb := kb.on hC; replace kc := kc.on hC; replace bc := bc.trans (hC.mono bc.size); clear hC; (try clear pkb0 pkb1 pkb2 pkb3 pkb4 pkb5 pkb6 pkb7); obtain ⟨pkb0, pkb1, pkb2, pkb3, pkb4, pkb5, pkb6, pkb7⟩ := kb.eight; (try clear pkc0 pkc1 pkc2 pkc3 pkc4); obtain ⟨⟨pkc0, pkc1, pkc2, pkc3, pkc4⟩, -⟩ := kc.five)
      | (go_at_call 28; with_reducible refine (H2.out _ bc).mono ?_; rintro e w1 ⟨rfl, hC⟩; dsimp only; replace kb := kb.on hC; replace kc := kc.on hC; replace bc := bc.trans (hC.mono bc.size); clear hC; (try clear pkb0 pkb1 pkb2 pkb3 pkb4 pkb5 pkb6 pkb7); obtain ⟨pkb0, pkb1, pkb2, pkb3, pkb4, pkb5, pkb6, pkb7⟩ := kb.eight; (try clear pkc0 pkc1 pkc2 pkc3 pkc4); obtain ⟨⟨pkc0, pkc1, pkc2, pkc3, pkc4⟩, -⟩ := kc.five))
    go_ret
    exact ⟨rfl, bc⟩
set_option maxRecDepth 100000 in
set_option maxHeartbeats 4000000 in
theorem rmay_any (m : ML) (c s : Slc) (st : CS) (k : Int) (w : World) (hM : Med w m c s) : Calls Try.prog 15 #[vM m c s, .agg st.cells, .int .i64 k] w fun e w' => e = .returned (.bool (mayN m st k)) ∧ Below w.heap.size w w' := by
  have h1 := fun U (h : Below w.heap.size w U) => rmcheck_any m c s U (hM.on h)
  have h2 := fun U (h : Below w.heap.size w U) => rfits_any m c s st U (hM.on h)
  by_cases c1 : checkM m = 0
  rotate_left
  · rw [may_no (fun h => c1 (asked_fits h.1).1)]
    have d1 := eqz c1
    generalize checkM m = e1 at *
    clear h2 c1 hM
    have H1 := Lib.hid h1; clear h1
    obtain ⟨N, S, G, W, D, L, cold, ms⟩ := m
    obtain ⟨Ac, nc, cc⟩ := c
    obtain ⟨As, ns, cs⟩ := s
    obtain ⟨T, P, Mo, Nx, Me⟩ := st
    dsimp only [vM, CS.cells] at *
    obtain ⟨kb, kc, bc⟩ := bx2 w #[.int .i64 N, .int .i64 S, .int .i64 G, .int .i64 W, .int .i64 D, .int .i64 L, .slice Ac nc cc, .slice As ns cs] #[.int .i64 T, .int .i64 P, .int .i64 Mo, .int .i64 Nx, .int .i64 Me] 25 27
    go_enter Try.func15, Try.ntmps15
    go_wp2_with (first
      | (go_at_call 26; with_reducible refine (H1.out _ bc).mono ?_; rintro e w1 ⟨rfl, hC⟩; dsimp only; replace kb := kb.on hC; replace kc := kc.on hC; replace bc := bc.trans (hC.mono bc.size); clear hC; (try clear pkb0 pkb1 pkb2 pkb3 pkb4 pkb5 pkb6 pkb7); obtain ⟨pkb0, pkb1, pkb2, pkb3, pkb4, pkb5, pkb6, pkb7⟩ := kb.eight; (try clear pkc0 pkc1 pkc2 pkc3 pkc4); obtain ⟨⟨pkc0, pkc1, pkc2, pkc3, pkc4⟩, -⟩ := kc.five))
    go_ret
    exact ⟨rfl, bc⟩
  cases c2 : fitsS m st with
  | false =>
    rw [may_no (fun h => by rw [(asked_fits h.1).2] at c2; cases c2)]
    rw [c1] at h1; rw [c2] at h2
    clear c1 c2 hM
    have H1 := Lib.hid h1; have H2 := Lib.hid h2; clear h1 h2
    obtain ⟨N, S, G, W, D, L, cold, ms⟩ := m
    obtain ⟨Ac, nc, cc⟩ := c
    obtain ⟨As, ns, cs⟩ := s
    obtain ⟨T, P, Mo, Nx, Me⟩ := st
    dsimp only [vM, CS.cells] at *
    obtain ⟨kb, kc, bc⟩ := bx2 w #[.int .i64 N, .int .i64 S, .int .i64 G, .int .i64 W, .int .i64 D, .int .i64 L, .slice Ac nc cc, .slice As ns cs] #[.int .i64 T, .int .i64 P, .int .i64 Mo, .int .i64 Nx, .int .i64 Me] 25 27
    go_enter Try.func15, Try.ntmps15
    go_wp2_with (first
      | (go_at_call 26; with_reducible refine (H1.out _ bc).mono ?_; rintro e w1 ⟨rfl, hC⟩; dsimp only; replace kb := kb.on hC; replace kc := kc.on hC; replace bc := bc.trans (hC.mono bc.size); clear hC; (try clear pkb0 pkb1 pkb2 pkb3 pkb4 pkb5 pkb6 pkb7); obtain ⟨pkb0, pkb1, pkb2, pkb3, pkb4, pkb5, pkb6, pkb7⟩ := kb.eight; (try clear pkc0 pkc1 pkc2 pkc3 pkc4); obtain ⟨⟨pkc0, pkc1, pkc2, pkc3, pkc4⟩, -⟩ := kc.five)
      | (go_at_call 28; with_reducible refine (H2.out _ bc).mono ?_; rintro e w1 ⟨rfl, hC⟩; dsimp only; replace kb := kb.on hC; replace kc := kc.on hC; replace bc := bc.trans (hC.mono bc.size); clear hC; (try clear pkb0 pkb1 pkb2 pkb3 pkb4 pkb5 pkb6 pkb7); obtain ⟨pkb0, pkb1, pkb2, pkb3, pkb4, pkb5, pkb6, pkb7⟩ := kb.eight; (try clear pkc0 pkc1 pkc2 pkc3 pkc4); obtain ⟨⟨pkc0, pkc1, pkc2, pkc3, pkc4⟩, -⟩ := kc.five))
    go_ret
    exact ⟨rfl, bc⟩
  | true =>
    have hask := fits_asked c1 c2
    rw [c1] at h1; rw [c2] at h2
    have H1 := Lib.hid h1; have H2 := Lib.hid h2; clear h1 h2
    obtain ⟨hok, -, -, ⟨mo0, mo1⟩, -, -⟩ := asked_ok hask
    have hsn := hM.sn
    have hl : ∀ i : Nat, st.Mo = (i : Int) → ∀ j : Nat, j < m.ms.length → ∃ b off b' off' : Nat, ∃ q0 q1 : Value, ∃ nn cn : Nat, s.A = some ⟨b, off, none⟩ ∧ b < w.heap.size ∧ b' < w.heap.size ∧ w.cell? ⟨b, off + i * 3, none⟩ = some q0 ∧ w.cell? ⟨b, off + i * 3 + 1, none⟩ = some q1 ∧ w.cell? ⟨b, off + i * 3 + 2, none⟩ = some (.slice (some ⟨b', off', none⟩) nn cn) ∧ nn = m.ms.length ∧ w.cell? ⟨b', off' + j, none⟩ = some (.bool (letS m i j)) := by
      intro i hi j hj
      have him : i < m.ms.length := by omega
      obtain ⟨o, ho⟩ : ∃ o, m.ms[i]? = some o := ⟨m.ms[i], List.getElem?_eq_getElem him⟩
      obtain ⟨b, off, e1, hb, v, hc0, hc1, hc2, hv⟩ := hM.sb.at_ ho
      have hon := (okM_mode hok (List.mem_of_getElem? ho)).2.2.1
      obtain ⟨b', off', e2, hb', hc3⟩ := hv.n.at_ (k := j) (by omega)
      refine ⟨b, off, b', off', _, _, v.n.n, v.n.c, e1, hb, hb', hc0, hc1, ?_, ?_, ?_⟩
      · rw [hc2, e2]
      · rw [hv.nn, hon]
      · rw [hc3]; unfold letS; rw [ho]; rfl
    have hmay : ∀ i j : Nat, st.Mo = (i : Int) → k = (j : Int) → j < m.ms.length → j ≠ i → st.Nx = 0 → mayN m st k = letS m i j := fun i j e1 e2 h1 h2 h3 => by
      rw [may_of hask (by omega) (by omega) h3, e1, e2]; rfl
    rw [← hsn] at hmay hl mo1
    obtain ⟨q, hq⟩ : ∃ q, q = mayN m st k := ⟨_, rfl⟩
    have hno : ¬ (askedS m st = 0 ∧ (0 ≤ k ∧ k < (m.ms.length : Int)) ∧ k ≠ st.Mo ∧ st.Nx = 0 ∧ letS m st.Mo.toNat k.toNat = true) → q = false := fun h => by rw [hq]; exact may_no h
    rw [← hsn] at hno
    rw [← hq] at hmay ⊢
    clear hM hask c1 c2 hok hq hsn
    generalize letS m = lt at *
    have HL := Lib.hid hl; have HMA := Lib.hid hmay; have HNO := Lib.hid hno; clear hl hmay hno
    obtain ⟨N, S, G, W, D, L, cold, ms⟩ := m
    obtain ⟨Ac, nc, cc⟩ := c
    obtain ⟨As, ns, cs⟩ := s
    obtain ⟨T, P, Mo, Nx, Me⟩ := st
    dsimp only at *
    by_cases c3 : 0 ≤ k
    rotate_left
    · obtain rfl : q = false := HNO.out (fun h => c3 h.2.1.1)
      have d := decide_eq_false c3
      dsimp only [vM, CS.cells] at *
      obtain ⟨kb, kc, bc⟩ := bx2 w #[.int .i64 N, .int .i64 S, .int .i64 G, .int .i64 W, .int .i64 D, .int .i64 L, .slice Ac nc cc, .slice As ns cs] #[.int .i64 T, .int .i64 P, .int .i64 Mo, .int .i64 Nx, .int .i64 Me] 25 27
      go_enter Try.func15, Try.ntmps15
      go_wp2_with (first
        | (go_at_call 26; with_reducible refine (H1.out _ bc).mono ?_; rintro e w1 ⟨rfl, hC⟩; dsimp only; replace kb := kb.on hC; replace kc := kc.on hC; replace bc := bc.trans (hC.mono bc.size); clear hC; (try clear pkb0 pkb1 pkb2 pkb3 pkb4 pkb5 pkb6 pkb7); obtain ⟨pkb0, pkb1, pkb2, pkb3, pkb4, pkb5, pkb6, pkb7⟩ := kb.eight; (try clear pkc0 pkc1 pkc2 pkc3 pkc4); obtain ⟨⟨pkc0, pkc1, pkc2, pkc3, pkc4⟩, -⟩ := kc.five)
        | (go_at_call 28; with_reducible refine (H2.out _ bc).mono ?_; rintro e w1 ⟨rfl, hC⟩; dsimp only; replace kb := kb.on hC; replace kc := kc.on hC; replace bc := bc.trans (hC.mono bc.size); clear hC; (try clear pkb0 pkb1 pkb2 pkb3 pkb4 pkb5 pkb6 pkb7); obtain ⟨pkb0, pkb1, pkb2, pkb3, pkb4, pkb5, pkb6, pkb7⟩ := kb.eight; (try clear pkc0 pkc1 pkc2 pkc3 pkc4); obtain ⟨⟨pkc0, pkc1, pkc2, pkc3, pkc4⟩, -⟩ := kc.five))
      go_ret
      exact ⟨rfl, bc⟩
    have d3 := decide_eq_true c3
    by_cases c4 : k < (ns : Int)
    rotate_left
    · obtain rfl : q = false := HNO.out (fun h => c4 h.2.1.2)
      have d := decide_eq_false c4
      dsimp only [vM, CS.cells] at *
      obtain ⟨kb, kc, bc⟩ := bx2 w #[.int .i64 N, .int .i64 S, .int .i64 G, .int .i64 W, .int .i64 D, .int .i64 L, .slice Ac nc cc, .slice As ns cs] #[.int .i64 T, .int .i64 P, .int .i64 Mo, .int .i64 Nx, .int .i64 Me] 25 27
      go_enter Try.func15, Try.ntmps15
      go_wp2_with (first
        | (go_at_call 26; with_reducible refine (H1.out _ bc).mono ?_; rintro e w1 ⟨rfl, hC⟩; dsimp only; replace kb := kb.on hC; replace kc := kc.on hC; replace bc := bc.trans (hC.mono bc.size); clear hC; (try clear pkb0 pkb1 pkb2 pkb3 pkb4 pkb5 pkb6 pkb7); obtain ⟨pkb0, pkb1, pkb2, pkb3, pkb4, pkb5, pkb6, pkb7⟩ := kb.eight; (try clear pkc0 pkc1 pkc2 pkc3 pkc4); obtain ⟨⟨pkc0, pkc1, pkc2, pkc3, pkc4⟩, -⟩ := kc.five)
        | (go_at_call 28; with_reducible refine (H2.out _ bc).mono ?_; rintro e w1 ⟨rfl, hC⟩; dsimp only; replace kb := kb.on hC; replace kc := kc.on hC; replace bc := bc.trans (hC.mono bc.size); clear hC; (try clear pkb0 pkb1 pkb2 pkb3 pkb4 pkb5 pkb6 pkb7); obtain ⟨pkb0, pkb1, pkb2, pkb3, pkb4, pkb5, pkb6, pkb7⟩ := kb.eight; (try clear pkc0 pkc1 pkc2 pkc3 pkc4); obtain ⟨⟨pkc0, pkc1, pkc2, pkc3, pkc4⟩, -⟩ := kc.five))
      go_ret
      exact ⟨rfl, bc⟩
    have d4 := decide_eq_true c4
    by_cases c5 : ¬ k = Mo
    rotate_left
    · obtain rfl : q = false := HNO.out (fun h => h.2.2.1 (Classical.not_not.1 c5))
      have d := (show (k != Mo) = false by simpa using c5)
      dsimp only [vM, CS.cells] at *
      obtain ⟨kb, kc, bc⟩ := bx2 w #[.int .i64 N, .int .i64 S, .int .i64 G, .int .i64 W, .int .i64 D, .int .i64 L, .slice Ac nc cc, .slice As ns cs] #[.int .i64 T, .int .i64 P, .int .i64 Mo, .int .i64 Nx, .int .i64 Me] 25 27
      go_enter Try.func15, Try.ntmps15
      go_wp2_with (first
        | (go_at_call 26; with_reducible refine (H1.out _ bc).mono ?_; rintro e w1 ⟨rfl, hC⟩; dsimp only; replace kb := kb.on hC; replace kc := kc.on hC; replace bc := bc.trans (hC.mono bc.size); clear hC; (try clear pkb0 pkb1 pkb2 pkb3 pkb4 pkb5 pkb6 pkb7); obtain ⟨pkb0, pkb1, pkb2, pkb3, pkb4, pkb5, pkb6, pkb7⟩ := kb.eight; (try clear pkc0 pkc1 pkc2 pkc3 pkc4); obtain ⟨⟨pkc0, pkc1, pkc2, pkc3, pkc4⟩, -⟩ := kc.five)
        | (go_at_call 28; with_reducible refine (H2.out _ bc).mono ?_; rintro e w1 ⟨rfl, hC⟩; dsimp only; replace kb := kb.on hC; replace kc := kc.on hC; replace bc := bc.trans (hC.mono bc.size); clear hC; (try clear pkb0 pkb1 pkb2 pkb3 pkb4 pkb5 pkb6 pkb7); obtain ⟨pkb0, pkb1, pkb2, pkb3, pkb4, pkb5, pkb6, pkb7⟩ := kb.eight; (try clear pkc0 pkc1 pkc2 pkc3 pkc4); obtain ⟨⟨pkc0, pkc1, pkc2, pkc3, pkc4⟩, -⟩ := kc.five))
      go_ret
      exact ⟨rfl, bc⟩
    have d5 : (k != Mo) = true := by simpa using c5
    by_cases c6 : Nx = 0
    rotate_left
    · obtain rfl : q = false := HNO.out (fun h => c6 h.2.2.2.1)
      have d := eqz c6
      dsimp only [vM, CS.cells] at *
      obtain ⟨kb, kc, bc⟩ := bx2 w #[.int .i64 N, .int .i64 S, .int .i64 G, .int .i64 W, .int .i64 D, .int .i64 L, .slice Ac nc cc, .slice As ns cs] #[.int .i64 T, .int .i64 P, .int .i64 Mo, .int .i64 Nx, .int .i64 Me] 25 27
      go_enter Try.func15, Try.ntmps15
      go_wp2_with (first
        | (go_at_call 26; with_reducible refine (H1.out _ bc).mono ?_; rintro e w1 ⟨rfl, hC⟩; dsimp only; replace kb := kb.on hC; replace kc := kc.on hC; replace bc := bc.trans (hC.mono bc.size); clear hC; (try clear pkb0 pkb1 pkb2 pkb3 pkb4 pkb5 pkb6 pkb7); obtain ⟨pkb0, pkb1, pkb2, pkb3, pkb4, pkb5, pkb6, pkb7⟩ := kb.eight; (try clear pkc0 pkc1 pkc2 pkc3 pkc4); obtain ⟨⟨pkc0, pkc1, pkc2, pkc3, pkc4⟩, -⟩ := kc.five)
        | (go_at_call 28; with_reducible refine (H2.out _ bc).mono ?_; rintro e w1 ⟨rfl, hC⟩; dsimp only; replace kb := kb.on hC; replace kc := kc.on hC; replace bc := bc.trans (hC.mono bc.size); clear hC; (try clear pkb0 pkb1 pkb2 pkb3 pkb4 pkb5 pkb6 pkb7); obtain ⟨pkb0, pkb1, pkb2, pkb3, pkb4, pkb5, pkb6, pkb7⟩ := kb.eight; (try clear pkc0 pkc1 pkc2 pkc3 pkc4); obtain ⟨⟨pkc0, pkc1, pkc2, pkc3, pkc4⟩, -⟩ := kc.five))
      go_ret
      exact ⟨rfl, bc⟩
    subst c6
    obtain ⟨i, rfl⟩ := Int.eq_ofNat_of_zero_le mo0
    obtain ⟨j, rfl⟩ := Int.eq_ofNat_of_zero_le c3
    have hi : i < ns := by omega
    have hj : j < ns := by omega
    obtain rfl : q = lt i j := HMA.out i j rfl rfl hj (by omega) rfl
    obtain ⟨b, off, b', off', q0, q1, nn, cn, e1, hb, hb', k0, k1, k2, hnn, k3⟩ := HL.out i rfl j hj
    subst e1
    obtain rfl := hnn.symm
    clear HL HMA HNO c3 c4 c5 mo0 mo1
    generalize lt i j = R at *
    have K0 := Lib.hid k0; have K1 := Lib.hid k1; have K2 := Lib.hid k2; have K3 := Lib.hid k3; clear k0 k1 k2 k3
    dsimp only [vM, CS.cells] at *
    obtain ⟨kb, kc, bc⟩ := bx2 w #[.int .i64 N, .int .i64 S, .int .i64 G, .int .i64 W, .int .i64 D, .int .i64 L, .slice Ac nc cc, .slice (some ⟨b, off, none⟩) ns cs] #[.int .i64 T, .int .i64 P, .int .i64 (i : Int), .int .i64 0, .int .i64 Me] 25 27
    go_enter Try.func15, Try.ntmps15
    go_wp2_with (first
      | (go_at_call 26; with_reducible refine (H1.out _ bc).mono ?_; rintro e w1 ⟨rfl, hC⟩; dsimp only; replace kb := kb.on hC; replace kc := kc.on hC; replace bc := bc.trans (hC.mono bc.size); clear hC; (try clear pkb0 pkb1 pkb2 pkb3 pkb4 pkb5 pkb6 pkb7); obtain ⟨pkb0, pkb1, pkb2, pkb3, pkb4, pkb5, pkb6, pkb7⟩ := kb.eight; (try clear pkc0 pkc1 pkc2 pkc3 pkc4); obtain ⟨⟨pkc0, pkc1, pkc2, pkc3, pkc4⟩, -⟩ := kc.five)
      | (go_at_call 28; with_reducible refine (H2.out _ bc).mono ?_; rintro e w1 ⟨rfl, hC⟩; dsimp only; replace kb := kb.on hC; replace kc := kc.on hC; replace bc := bc.trans (hC.mono bc.size); clear hC; (try clear pkb0 pkb1 pkb2 pkb3 pkb4 pkb5 pkb6 pkb7); obtain ⟨pkb0, pkb1, pkb2, pkb3, pkb4, pkb5, pkb6, pkb7⟩ := kb.eight; (try clear pkc0 pkc1 pkc2 pkc3 pkc4); obtain ⟨⟨pkc0, pkc1, pkc2, pkc3, pkc4⟩, -⟩ := kc.five; have n0 := (bc.cell (p := ⟨b, off + i * 3, none⟩) hb).trans K0.out; have n1 := (bc.cell (p := ⟨b, off + i * 3 + 1, none⟩) hb).trans K1.out; have n2 := (bc.cell (p := ⟨b, off + i * 3 + 2, none⟩) hb).trans K2.out; have n3 := (bc.cell (p := ⟨b', off' + j, none⟩) hb').trans K3.out))
    go_ret
    exact ⟨rfl, bc⟩
end Go.Proofs.Ytaooonajfdbfhaa

namespace Go.Proofs.Ytaooonajfdbfhaa
open Go.RowKit

/-- Truths as cells. -/
abbrev b4 (x0 x1 x2 x3 : Bool) : Array Value := #[.bool x0, .bool x1, .bool x2, .bool x3]
theorem Blk.four {w : World} {g : Nat} {t : TypeId} {a b c d : Value} (h : Blk w g t #[a, b, c, d]) : w.cell? ⟨g, 0, none⟩ = some a ∧ w.cell? ⟨g, 1, none⟩ = some b ∧ w.cell? ⟨g, 2, none⟩ = some c ∧ w.cell? ⟨g, 3, none⟩ = some d :=
  ⟨by simpa using h.cell 0, by simpa using h.cell 1, by simpa using h.cell 2, by simpa using h.cell 3⟩
theorem Blk.fourF {w : World} {g : Nat} {t : TypeId} {a b c d : Value} (h : Blk w g t #[a, b, c, d]) : w.frozen? ⟨g, 0, none⟩ = false ∧ w.frozen? ⟨g, 1, none⟩ = false ∧ w.frozen? ⟨g, 2, none⟩ = false ∧ w.frozen? ⟨g, 3, none⟩ = false :=
  ⟨h.frozen 0, h.frozen 1, h.frozen 2, h.frozen 3⟩
/-- What coming answers. -/
def comS (m : ML) (st : CS) : Array Value := b4 (mayN m st 0) (mayN m st 1) (mayN m st 2) (mayN m st 3)
theorem mayN_at {m : ML} {st : CS} {i : Nat} (h : askedS m st = 0) (hi : st.Mo = (i : Int)) (hx : st.Nx = 0) (j : Nat) : mayN m st (j : Int) = (if j = i then false else letS m i j) := by
  obtain ⟨hok, -, -, ⟨mo0, mo1⟩, -, -⟩ := asked_ok h
  by_cases hj : j = i
  · rw [if_pos hj]; exact may_no (fun hh => hh.2.2.1 (by rw [hi, hj]))
  · rw [if_neg hj]
    rcases Nat.lt_or_ge j m.ms.length with hl | hl
    · rw [may_of h (by omega) (by omega) hx, hi]; rfl
    · rw [may_no (fun hh => by have := hh.2.1.2; omega)]
      have him : i < m.ms.length := by omega
      obtain ⟨o, ho⟩ : ∃ o, m.ms[i]? = some o := ⟨m.ms[i], List.getElem?_eq_getElem him⟩
      have hon := (okM_mode hok (List.mem_of_getElem? ho)).2.2.1
      unfold letS
      rw [ho]
      show false = o.n[j]?.getD false
      rw [List.getElem?_eq_none (by omega)]
      first | rfl | done
theorem list_four (l : List Bool) (h : l.length ≤ 4) : (l ++ (List.replicate 4 false).drop l.length).map Value.bool = [.bool (l[0]?.getD false), .bool (l[1]?.getD false), .bool (l[2]?.getD false), .bool (l[3]?.getD false)] := by
  rcases l with _ | ⟨a, _ | ⟨b, _ | ⟨c, _ | ⟨d, _ | ⟨e, r⟩⟩⟩⟩⟩
  · rfl
  · rfl
  · rfl
  · rfl
  · rfl
  · exfalso; simp only [List.length_cons] at h; omega
theorem oneB10 : (Try.prog.info? 4).map (·.size) = some 1 := by kernel_rfl
/-- copy of truths, over the head of an array of four of the call's own. -/
theorem run_copy_four (w : World) (g m' : Nat) (A : Option Addr) (n c : Nat) (zs : List Bool) (hg : Blk w g 57 (b4 false false false false)) (B : Nat) (hA : Bools B w A zs) (hn : n = zs.length) (hle : n ≤ 4) :
    ∃ w', (Builtin.copy_ #[22, 22] 3 #[.slice (some ⟨g, 0, none⟩) 4 m', .slice A n c]).run Try.prog w = .ok (goInt zs.length) w' ∧ Blk w' g 57 (b4 (zs[0]?.getD false) (zs[1]?.getD false) (zs[2]?.getD false) (zs[3]?.getD false)) ∧ w.grownBy w' (some g) := by
  subst hn
  have hu := Try.underlying22
  by_cases h0 : zs = []
  · subst h0
    exact ⟨w, run_copy_none (P := Try.prog) w 22 22 3 4 _ A _ _ _ _ hu oneB10 (by simp), by simpa using hg, World.grownBy.refl w _⟩
  · obtain ⟨b, off, rfl, _, hc⟩ := hA h0
    have hlen : (zs.map Value.bool).length = zs.length := by simp
    have := run_copy_row (P := Try.prog) w 22 22 3 4 g 0 4 m' ⟨b, off, none⟩ zs.length c _ 57 (zs.map Value.bool) hu oneB10 hg (by rw [hlen]; exact (Nat.min_eq_left hle).symm) ?_ (by simpa using hle) ?_
    · rw [hlen] at this
      refine ⟨_, this, ?_, only_setRow w g _⟩
      have h2 := setRow_heap w g (b4 false false false false) ((b4 false false false false).toList.take 0 ++ (zs.map Value.bool) ++ (b4 false false false false).toList.drop (0 + zs.length)).toArray 57 (0, 0) hg
      unfold Blk
      rw [h2]
      have h4 := list_four zs hle
      rw [List.map_append, List.map_drop] at h4
      have h5 : (b4 false false false false).toList.take 0 ++ (zs.map Value.bool) ++ (b4 false false false false).toList.drop (0 + zs.length) = [.bool (zs[0]?.getD false), .bool (zs[1]?.getD false), .bool (zs[2]?.getD false), .bool (zs[3]?.getD false)] := by
        rw [← h4]; simp
      rw [h5]
    · intro j v hj
      have hjl : j < zs.length := by
        rcases Nat.lt_or_ge j zs.length with hl | hl
        · exact hl
        · simp [List.getElem?_eq_none hl] at hj
      have hv : v = .bool (zs[j]?.getD false) := by simpa [hjl, eq_comm] using hj
      rw [hv, ← hc j hjl, addr_add]
    · intro v hv
      obtain ⟨x, _, rfl⟩ := List.mem_map.1 hv
      rfl
set_option maxRecDepth 100000 in
set_option maxHeartbeats 4000000 in
theorem coming_any (m : ML) (c s : Slc) (st : CS) (w : World) (hM : Med w m c s) : Calls Try.prog 29 #[vM m c s, .agg st.cells] w fun e w' => e = .returned (.agg (comS m st)) ∧ Below w.heap.size w w' := by
  have h1 := fun U (h : Below w.heap.size w U) => mocheck_any m c s st U (hM.on h)
  by_cases c1 : askedS m st = 0
  rotate_left
  · have e1 : comS m st = b4 false false false false := by
      unfold comS
      rw [may_no (fun h => c1 h.1), may_no (fun h => c1 h.1), may_no (fun h => c1 h.1), may_no (fun h => c1 h.1)]
    rw [e1]
    have d1 := neqz c1
    clear e1
    generalize askedS m st = er at *
    clear c1 hM
    have H1 := Lib.hid h1; clear h1
    obtain ⟨N, S, G, W, D, L, cold, ms⟩ := m
    obtain ⟨Ac, nc, cc⟩ := c
    obtain ⟨As, ns, cs⟩ := s
    obtain ⟨T, P, Mo, Nx, Me⟩ := st
    dsimp only [vM, CS.cells] at *
    obtain ⟨kb, kc, kr, ka, bc⟩ := bx4 w #[.int .i64 N, .int .i64 S, .int .i64 G, .int .i64 W, .int .i64 D, .int .i64 L, .slice Ac nc cc, .slice As ns cs] #[.int .i64 T, .int .i64 P, .int .i64 Mo, .int .i64 Nx, .int .i64 Me] #[.bool false, .bool false, .bool false, .bool false] #[.bool false, .bool false, .bool false, .bool false] 25 27 57 57
    go_enter Try.func29, Try.ntmps29
    go_wp2_with (first
      | (go_at_call 21; with_reducible refine (H1.out _ bc).mono ?_; rintro e w1 ⟨rfl, hC⟩; dsimp only; replace kb := kb.on hC; replace kc := kc.on hC; replace kr := kr.on hC; replace ka := ka.on hC; replace bc := bc.trans (hC.mono bc.size); clear hC; (try clear pkb0 pkb1 pkb2 pkb3 pkb4 pkb5 pkb6 pkb7); obtain ⟨pkb0, pkb1, pkb2, pkb3, pkb4, pkb5, pkb6, pkb7⟩ := kb.eight; (try clear pkc0 pkc1 pkc2 pkc3 pkc4); obtain ⟨⟨pkc0, pkc1, pkc2, pkc3, pkc4⟩, -⟩ := kc.five; (try clear pkr0 pkr1 pkr2 pkr3); (try clear fkr0 fkr1 fkr2 fkr3); obtain ⟨pkr0, pkr1, pkr2, pkr3⟩ := kr.four; obtain ⟨fkr0, fkr1, fkr2, fkr3⟩ := kr.fourF; (try clear pka0 pka1 pka2 pka3); (try clear fka0 fka1 fka2 fka3); obtain ⟨pka0, pka1, pka2, pka3⟩ := ka.four; obtain ⟨fka0, fka1, fka2, fka3⟩ := ka.fourF))
    exact bodyPost_ret (v := .agg #[.bool false, .bool false, .bool false, .bool false]) (by simp [results, Try.results29, go_sem, pkr0, pkr1, pkr2, pkr3]) rfl ⟨rfl, by repeat (first | refine Below.setCell ?_ (by dsimp only; omega) _ | exact bc)⟩
  by_cases c2 : st.Nx = 0
  rotate_left
  · have e1 : comS m st = b4 false false false false := by
      unfold comS
      rw [may_no (fun h => c2 h.2.2.2.1), may_no (fun h => c2 h.2.2.2.1), may_no (fun h => c2 h.2.2.2.1), may_no (fun h => c2 h.2.2.2.1)]
    rw [e1]
    rw [c1] at h1
    have d2 := neqz c2
    clear c1 c2 hM e1
    have H1 := Lib.hid h1; clear h1
    obtain ⟨N, S, G, W, D, L, cold, ms⟩ := m
    obtain ⟨Ac, nc, cc⟩ := c
    obtain ⟨As, ns, cs⟩ := s
    obtain ⟨T, P, Mo, Nx, Me⟩ := st
    dsimp only [vM, CS.cells] at *
    obtain ⟨kb, kc, kr, ka, bc⟩ := bx4 w #[.int .i64 N, .int .i64 S, .int .i64 G, .int .i64 W, .int .i64 D, .int .i64 L, .slice Ac nc cc, .slice As ns cs] #[.int .i64 T, .int .i64 P, .int .i64 Mo, .int .i64 Nx, .int .i64 Me] #[.bool false, .bool false, .bool false, .bool false] #[.bool false, .bool false, .bool false, .bool false] 25 27 57 57
    go_enter Try.func29, Try.ntmps29
    go_wp2_with (first
      | (go_at_call 21; with_reducible refine (H1.out _ bc).mono ?_; rintro e w1 ⟨rfl, hC⟩; dsimp only; replace kb := kb.on hC; replace kc := kc.on hC; replace kr := kr.on hC; replace ka := ka.on hC; replace bc := bc.trans (hC.mono bc.size); clear hC; (try clear pkb0 pkb1 pkb2 pkb3 pkb4 pkb5 pkb6 pkb7); obtain ⟨pkb0, pkb1, pkb2, pkb3, pkb4, pkb5, pkb6, pkb7⟩ := kb.eight; (try clear pkc0 pkc1 pkc2 pkc3 pkc4); obtain ⟨⟨pkc0, pkc1, pkc2, pkc3, pkc4⟩, -⟩ := kc.five; (try clear pkr0 pkr1 pkr2 pkr3); (try clear fkr0 fkr1 fkr2 fkr3); obtain ⟨pkr0, pkr1, pkr2, pkr3⟩ := kr.four; obtain ⟨fkr0, fkr1, fkr2, fkr3⟩ := kr.fourF; (try clear pka0 pka1 pka2 pka3); (try clear fka0 fka1 fka2 fka3); obtain ⟨pka0, pka1, pka2, pka3⟩ := ka.four; obtain ⟨fka0, fka1, fka2, fka3⟩ := ka.fourF))
    exact bodyPost_ret (v := .agg #[.bool false, .bool false, .bool false, .bool false]) (by simp [results, Try.results29, go_sem, pkr0, pkr1, pkr2, pkr3]) rfl ⟨rfl, by repeat (first | refine Below.setCell ?_ (by dsimp only; omega) _ | exact bc)⟩
  obtain ⟨hok, -, hl4, ⟨mo0, mo1⟩, -, -⟩ := asked_ok c1
  obtain ⟨i, hi⟩ := Int.eq_ofNat_of_zero_le mo0
  have him : i < m.ms.length := by omega
  have hsn := hM.sn
  obtain ⟨o, ho⟩ : ∃ o, m.ms[i]? = some o := ⟨m.ms[i], List.getElem?_eq_getElem him⟩
  have hat := fun j => mayN_at c1 hi c2 j
  obtain ⟨b, off, e1, hb, v, k0, k1, k2, hv⟩ := hM.sb.at_ ho
  have hon := (okM_mode hok (List.mem_of_getElem? ho)).2.2.1
  have hlet : ∀ j, letS m i j = o.n[j]?.getD false := fun j => by unfold letS; rw [ho]; rfl
  have e2 : comS m st = b4 (if 0 = i then false else o.n[0]?.getD false) (if 1 = i then false else o.n[1]?.getD false) (if 2 = i then false else o.n[2]?.getD false) (if 3 = i then false else o.n[3]?.getD false) := by
    unfold comS
    rw [← hlet, ← hlet, ← hlet, ← hlet]
    have a0 := hat 0; have a1 := hat 1; have a2 := hat 2; have a3 := hat 3
    simp only [Int.cast_ofNat_Int] at a0 a1 a2 a3
    rw [a0, a1, a2, a3]
  rw [e2]
  have hvn := hv.nn
  have hvb := hv.n
  rw [c1] at h1
  have hi4 : i < 4 := by omega
  have his : i < s.n := by omega
  have hz : v.n.n ≤ 4 := by omega
  clear c1 hM e2 hat hlet hok hl4 mo0 mo1 him hsn hon hv
  generalize o.n = zs at *
  have H1 := Lib.hid h1; clear h1
  obtain ⟨N, S, G, W, D, L, cold, ms⟩ := m
  obtain ⟨Ac, nc, cc⟩ := c
  obtain ⟨As, ns, cs⟩ := s
  obtain ⟨T, P, Mo, Nx, Me⟩ := st
  obtain ⟨⟨Ad, nd, cd⟩, ⟨Ax, nx, cx⟩, ⟨An, nn, cn⟩⟩ := v
  dsimp only at *
  subst e1 hi c2
  have K0 := Lib.hid k0; have K1 := Lib.hid k1; have K2 := Lib.hid k2; clear k0 k1 k2 ho
  obtain ⟨x0, hx0⟩ : ∃ x, x = zs[0]?.getD false := ⟨_, rfl⟩
  obtain ⟨x1, hx1⟩ : ∃ x, x = zs[1]?.getD false := ⟨_, rfl⟩
  obtain ⟨x2, hx2⟩ : ∃ x, x = zs[2]?.getD false := ⟨_, rfl⟩
  obtain ⟨x3, hx3⟩ : ∃ x, x = zs[3]?.getD false := ⟨_, rfl⟩
  rw [← hx0, ← hx1, ← hx2, ← hx3]
  have HX0 := Lib.hid hx0; have HX1 := Lib.hid hx1; have HX2 := Lib.hid hx2; have HX3 := Lib.hid hx3; clear hx0 hx1 hx2 hx3
  dsimp only [vM, CS.cells] at *
  obtain ⟨kb, kc, kr, ka, bc⟩ := bx4 w #[.int .i64 N, .int .i64 S, .int .i64 G, .int .i64 W, .int .i64 D, .int .i64 L, .slice Ac nc cc, .slice (some ⟨b, off, none⟩) ns cs] #[.int .i64 T, .int .i64 P, .int .i64 (i : Int), .int .i64 0, .int .i64 Me] #[.bool false, .bool false, .bool false, .bool false] #[.bool false, .bool false, .bool false, .bool false] 25 27 57 57
  go_enter Try.func29, Try.ntmps29
  go_wp2_with fail
  refine (H1.out _ bc).mono ?_
  rintro e w1 ⟨rfl, hC⟩
  dsimp only
  replace kb := kb.on hC
  replace kc := kc.on hC
  replace kr := kr.on hC
  replace ka := ka.on hC
  replace bc := bc.trans (hC.mono bc.size)
  clear hC
  (try clear pkc0 pkc1 pkc2 pkc3 pkc4); obtain ⟨⟨pkc0, pkc1, pkc2, pkc3, pkc4⟩, -⟩ := kc.five
  go_wp2_with fail
  clear pkc0 pkc1 pkc2 pkc3 pkc4
  have hdr : Below w1.heap.size w1 w1.drew := (Below.refl _ _).drew
  replace kb := kb.on hdr
  replace kc := kc.on hdr
  replace kr := kr.on hdr
  replace ka := ka.on hdr
  replace bc := bc.trans (hdr.mono bc.size)
  clear hdr
  obtain ⟨w2, hrun, kz, hG⟩ := run_copy_four w1.drew (w.heap.size + 1 + 1 + 1) 4 An nn cn zs ka _ (hvb.below bc) hvn hz
  have hlen : goInt zs.length = .int .i64 (nn : Int) := by rw [← hvn]; rfl
  rw [hlen] at hrun
  have n0 := (bc.cell (p := ⟨b, off + i * 3, none⟩) hb).trans K0.out; have n1 := (bc.cell (p := ⟨b, off + i * 3 + 1, none⟩) hb).trans K1.out; have n2 := (bc.cell (p := ⟨b, off + i * 3 + 2, none⟩) hb).trans K2.out
  have bd := bc
  have kcd := kc
  replace bc : Below w.heap.size w w2 := bc.grown hG bc.size (by intro k hk; injection hk with hk; omega)
  replace kc := kc.grown hG (some_ne (by omega)); replace kr := kr.grown hG (some_ne (by omega))
  (try clear pkb0 pkb1 pkb2 pkb3 pkb4 pkb5 pkb6 pkb7); obtain ⟨pkb0, pkb1, pkb2, pkb3, pkb4, pkb5, pkb6, pkb7⟩ := kb.eight
  obtain ⟨⟨pkc0, pkc1, pkc2, pkc3, pkc4⟩, -⟩ := kcd.five
  clear kcd hvn hlen hz
  go_region
  clear pkb0 pkb1 pkb2 pkb3 pkb4 pkb5 pkb6 pkb7 pkc0 pkc1 pkc2 pkc3 pkc4 n0 n1 n2 hrun kb ka bd hG hvb
  rw [← HX0.out, ← HX1.out, ← HX2.out, ← HX3.out] at kz
  clear HX0 HX1 HX2 HX3
  obtain rfl | rfl | rfl | rfl : i = 0 ∨ i = 1 ∨ i = 2 ∨ i = 3 := by omega
  · show Exit.then _ _ _ _ _
    clear his hi4
    obtain ⟨⟨pkc0, pkc1, pkc2, pkc3, pkc4⟩, -⟩ := kc.five
    (try clear pkr0 pkr1 pkr2 pkr3)
    (try clear fkr0 fkr1 fkr2 fkr3)
    obtain ⟨pkr0, pkr1, pkr2, pkr3⟩ := kr.four
    obtain ⟨fkr0, fkr1, fkr2, fkr3⟩ := kr.fourF
    (try clear pkz0 pkz1 pkz2 pkz3)
    (try clear fkz0 fkz1 fkz2 fkz3)
    obtain ⟨pkz0, pkz1, pkz2, pkz3⟩ := kz.four
    obtain ⟨fkz0, fkz1, fkz2, fkz3⟩ := kz.fourF
    go_wp2
    exact bodyPost_ret (v := .agg #[.bool false, .bool x1, .bool x2, .bool x3]) (by simp [results, Try.results29, go_sem, pkr0, pkr1, pkr2, pkr3]) rfl ⟨rfl, by repeat (first | refine Below.setCell ?_ (by dsimp only; omega) _ | exact bc)⟩
  · show Exit.then _ _ _ _ _
    clear his hi4
    obtain ⟨⟨pkc0, pkc1, pkc2, pkc3, pkc4⟩, -⟩ := kc.five
    (try clear pkr0 pkr1 pkr2 pkr3)
    (try clear fkr0 fkr1 fkr2 fkr3)
    obtain ⟨pkr0, pkr1, pkr2, pkr3⟩ := kr.four
    obtain ⟨fkr0, fkr1, fkr2, fkr3⟩ := kr.fourF
    (try clear pkz0 pkz1 pkz2 pkz3)
    (try clear fkz0 fkz1 fkz2 fkz3)
    obtain ⟨pkz0, pkz1, pkz2, pkz3⟩ := kz.four
    obtain ⟨fkz0, fkz1, fkz2, fkz3⟩ := kz.fourF
    go_wp2
    exact bodyPost_ret (v := .agg #[.bool x0, .bool false, .bool x2, .bool x3]) (by simp [results, Try.results29, go_sem, pkr0, pkr1, pkr2, pkr3]) rfl ⟨rfl, by repeat (first | refine Below.setCell ?_ (by dsimp only; omega) _ | exact bc)⟩
  · show Exit.then _ _ _ _ _
    clear his hi4
    obtain ⟨⟨pkc0, pkc1, pkc2, pkc3, pkc4⟩, -⟩ := kc.five
    (try clear pkr0 pkr1 pkr2 pkr3)
    (try clear fkr0 fkr1 fkr2 fkr3)
    obtain ⟨pkr0, pkr1, pkr2, pkr3⟩ := kr.four
    obtain ⟨fkr0, fkr1, fkr2, fkr3⟩ := kr.fourF
    (try clear pkz0 pkz1 pkz2 pkz3)
    (try clear fkz0 fkz1 fkz2 fkz3)
    obtain ⟨pkz0, pkz1, pkz2, pkz3⟩ := kz.four
    obtain ⟨fkz0, fkz1, fkz2, fkz3⟩ := kz.fourF
    go_wp2
    exact bodyPost_ret (v := .agg #[.bool x0, .bool x1, .bool false, .bool x3]) (by simp [results, Try.results29, go_sem, pkr0, pkr1, pkr2, pkr3]) rfl ⟨rfl, by repeat (first | refine Below.setCell ?_ (by dsimp only; omega) _ | exact bc)⟩
  · show Exit.then _ _ _ _ _
    clear his hi4
    obtain ⟨⟨pkc0, pkc1, pkc2, pkc3, pkc4⟩, -⟩ := kc.five
    (try clear pkr0 pkr1 pkr2 pkr3)
    (try clear fkr0 fkr1 fkr2 fkr3)
    obtain ⟨pkr0, pkr1, pkr2, pkr3⟩ := kr.four
    obtain ⟨fkr0, fkr1, fkr2, fkr3⟩ := kr.fourF
    (try clear pkz0 pkz1 pkz2 pkz3)
    (try clear fkz0 fkz1 fkz2 fkz3)
    obtain ⟨pkz0, pkz1, pkz2, pkz3⟩ := kz.four
    obtain ⟨fkz0, fkz1, fkz2, fkz3⟩ := kz.fourF
    go_wp2
    exact bodyPost_ret (v := .agg #[.bool x0, .bool x1, .bool x2, .bool false]) (by simp [results, Try.results29, go_sem, pkr0, pkr1, pkr2, pkr3]) rfl ⟨rfl, by repeat (first | refine Below.setCell ?_ (by dsimp only; omega) _ | exact bc)⟩
end Go.Proofs.Ytaooonajfdbfhaa

namespace Go.Proofs.Ytaooonajfdbfhaa
open Go.RowKit Go.Shelf
attribute [local go_sem] Oper.semAt_some

/-- The numbers below k that hold. -/
def upB (bs : Nat → Bool) (k : Nat) : List Nat := (List.range k).filter bs
theorem upB_yes {bs : Nat → Bool} {k : Nat} (h : bs k = true) : upB bs (k + 1) = upB bs k ++ [k] := by simp [upB, List.range_succ, h]
theorem upB_no {bs : Nat → Bool} {k : Nat} (h : bs k = false) : upB bs (k + 1) = upB bs k := by simp [upB, List.range_succ, h]
theorem upB_length (bs : Nat → Bool) (k : Nat) : (upB bs k).length ≤ k := by
  have := List.length_filter_le bs (List.range k)
  simpa [upB] using this
theorem upB_pre (bs : Nat → Bool) {k n : Nat} (h : k ≤ n) : ∃ r, upB bs n = upB bs k ++ r := by
  obtain ⟨d, rfl⟩ : ∃ d, n = k + d := ⟨n - k, by omega⟩
  exact ⟨((List.range d).map (k + ·)).filter bs, by unfold upB; rw [List.range_add, List.filter_append]⟩
theorem mem_upB {bs : Nat → Bool} {k j : Nat} : j ∈ upB bs k ↔ j < k ∧ bs j = true := by simp [upB, List.mem_filter]
abbrev cell4 (bs : Nat → Bool) : Array Value := b4 (bs 0) (bs 1) (bs 2) (bs 3)
/-- Which modes may come next, by their places. -/
def mayB (m : ML) (st : CS) (j : Nat) : Bool := mayN m st (j : Int)
theorem comS_eq (m : ML) (st : CS) : comS m st = cell4 (mayB m st) := rfl
theorem nextsS_eq (m : ML) (st : CS) : nextsS m st = upB (mayB m st) 4 := rfl

set_option maxRecDepth 100000 in
set_option maxHeartbeats 2000000 in
theorem nexts1_in (n lp ob : Nat) (hn : 1 ≤ n) (bs : Nat → Bool) (J Jx : List Nat → World → Prop) (W : World)
    (hJ : AbidesFrom W.heap.size J)
    (hY : ∀ (pre : List Nat) (x : Nat) (W1 : World), J pre W1 → pre.length < 4 → YieldAt Fence.wide (n - 1) Try.prog lp #[.int .i64 (x : Int)] W1 fun e W' =>
      (e = .returned (.bool true) ∧ J (pre ++ [x]) W') ∨ (e = .returned (.bool false) ∧ Jx (pre ++ [x]) W'))
    (hbox : Blk W ob 57 (cell4 bs)) (h0 : J [] W) :
    CallsIn Fence.wide n Try.prog 30 #[.func (.yield lp) #[] #[], .pointer (some ⟨ob, 0, none⟩)] W fun e W' => (∃ v, e = .returned v) ∧
      ((∃ ys, ys = upB bs 4 ∧ J ys W') ∨ (∃ pre, (∃ k, k ≤ 4 ∧ pre = upB bs k) ∧ Jx pre W')) := by
  have hms := fun (k : Nat) (h : bs k = true) => upB_yes h
  have hmn := fun (k : Nat) (h : bs k = false) => upB_no h
  have hml := upB_length bs
  have hM0 : upB bs 0 = [] := rfl
  generalize hMT : upB bs = MT at *
  clear hMT
  obtain ⟨p0, p1, p2, p3⟩ := hbox.four
  clear hbox
  obtain ⟨x0, hx0⟩ : ∃ x, x = bs 0 := ⟨_, rfl⟩
  obtain ⟨x1, hx1⟩ : ∃ x, x = bs 1 := ⟨_, rfl⟩
  obtain ⟨x2, hx2⟩ : ∃ x, x = bs 2 := ⟨_, rfl⟩
  obtain ⟨x3, hx3⟩ : ∃ x, x = bs 3 := ⟨_, rfl⟩
  rw [← hx0] at p0; rw [← hx1] at p1; rw [← hx2] at p2; rw [← hx3] at p3
  have HX0 := Lib.hid hx0; have HX1 := Lib.hid hx1; have HX2 := Lib.hid hx2; have HX3 := Lib.hid hx3; clear hx0 hx1 hx2 hx3
  have HMS := Lib.hid hms; have HMN := Lib.hid hmn; have HML := Lib.hid hml; have HM0 := Lib.hid hM0; clear hms hmn hml hM0
  have HJ := Lib.hid hJ; clear hJ
  have HY := Lib.hid hY; clear hY
  have H0 := Lib.hid h0; clear h0
  refine callsIn_of_wp Try.func30 rfl trivial ?_ rfl
  simp only [Try.ntmps30, List.size_toArray, List.length_cons, List.length_nil, Nat.reduceAdd, Nat.reduceSub, Array.replicate_succ, Array.replicate_zero, List.push_toArray, List.append_toArray, List.nil_append, List.cons_append]
  gi_wp2
  clear p0 p1 p2 p3
  gi_loopw [6] (fun i wr => ∃ k : Nat, k ≤ 4 ∧ i = .int .i64 k ∧ J (MT k) wr)
    (fun i _ => 4 - (intOf i).toNat)
  case atStart => exact ⟨0, Nat.zero_le _, rfl, by rw [HM0.out]; exact H0.out⟩
  case round =>
    obtain ⟨k, hk, rfl, hJs⟩ := hrel
    by_cases hlt : k < 4
    · obtain rfl | rfl | rfl | rfl : k = 0 ∨ k = 1 ∨ k = 2 ∨ k = 3 := by omega
      · simp only [Int.cast_ofNat_Int] at *
        have ix : ∀ w : World, (Instr.index 57 (.agg #[.bool x0, .bool x1, .bool x2, .bool x3]) (.int .i64 0)).run Try.prog w = .ok (.bool x0) w := fun _ => by kernel_rfl
        cases x0 with
        | false =>
          gi_wp2_with fail
          refine ⟨(fun f e => by cases e), ?_⟩
          gi_wp2
          go_roundw
          case rel => exact ⟨1, by omega, by first | rfl | go_num, by rw [HMN.out 0 HX0.out.symm]; exact hJs⟩
          case measure => simp [intOf]
        | true =>
          gi_wp2_with fail
          obtain ⟨fn, tmps, assign, body, hy, hR⟩ := HY.out (MT 0) 0 wr hJs (by have := HML.out 0; omega)
          simp only [Int.cast_ofNat_Int] at hy
          rw [hy]
          gi_wp2_with fail
          refine hR.mono ?_
          rintro e W3 (⟨rfl, hJ3⟩ | ⟨rfl, hJx3⟩)
          · gi_wp2
            go_roundw
            case rel => exact ⟨1, by omega, by first | rfl | go_num, by rw [HMS.out 0 HX0.out.symm]; exact hJ3⟩
            case measure => simp [intOf]
          · gi_wp2
            refine bodyPost_ret (results_none rfl _ _ _) rfl ?_
            exact ⟨⟨_, rfl⟩, .inr ⟨_, ⟨1, by omega, (HMS.out 0 HX0.out.symm).symm⟩, hJx3⟩⟩
      · simp only [Int.cast_ofNat_Int] at *
        have ix : ∀ w : World, (Instr.index 57 (.agg #[.bool x0, .bool x1, .bool x2, .bool x3]) (.int .i64 1)).run Try.prog w = .ok (.bool x1) w := fun _ => by kernel_rfl
        cases x1 with
        | false =>
          gi_wp2_with fail
          refine ⟨(fun f e => by cases e), ?_⟩
          gi_wp2
          go_roundw
          case rel => exact ⟨2, by omega, by first | rfl | go_num, by rw [HMN.out 1 HX1.out.symm]; exact hJs⟩
          case measure => simp [intOf]
        | true =>
          gi_wp2_with fail
          obtain ⟨fn, tmps, assign, body, hy, hR⟩ := HY.out (MT 1) 1 wr hJs (by have := HML.out 1; omega)
          simp only [Int.cast_ofNat_Int] at hy
          rw [hy]
          gi_wp2_with fail
          refine hR.mono ?_
          rintro e W3 (⟨rfl, hJ3⟩ | ⟨rfl, hJx3⟩)
          · gi_wp2
            go_roundw
            case rel => exact ⟨2, by omega, by first | rfl | go_num, by rw [HMS.out 1 HX1.out.symm]; exact hJ3⟩
            case measure => simp [intOf]
          · gi_wp2
            refine bodyPost_ret (results_none rfl _ _ _) rfl ?_
            exact ⟨⟨_, rfl⟩, .inr ⟨_, ⟨2, by omega, (HMS.out 1 HX1.out.symm).symm⟩, hJx3⟩⟩
      · simp only [Int.cast_ofNat_Int] at *
        have ix : ∀ w : World, (Instr.index 57 (.agg #[.bool x0, .bool x1, .bool x2, .bool x3]) (.int .i64 2)).run Try.prog w = .ok (.bool x2) w := fun _ => by kernel_rfl
        cases x2 with
        | false =>
          gi_wp2_with fail
          refine ⟨(fun f e => by cases e), ?_⟩
          gi_wp2
          go_roundw
          case rel => exact ⟨3, by omega, by first | rfl | go_num, by rw [HMN.out 2 HX2.out.symm]; exact hJs⟩
          case measure => simp [intOf]
        | true =>
          gi_wp2_with fail
          obtain ⟨fn, tmps, assign, body, hy, hR⟩ := HY.out (MT 2) 2 wr hJs (by have := HML.out 2; omega)
          simp only [Int.cast_ofNat_Int] at hy
          rw [hy]
          gi_wp2_with fail
          refine hR.mono ?_
          rintro e W3 (⟨rfl, hJ3⟩ | ⟨rfl, hJx3⟩)
          · gi_wp2
            go_roundw
            case rel => exact ⟨3, by omega, by first | rfl | go_num, by rw [HMS.out 2 HX2.out.symm]; exact hJ3⟩
            case measure => simp [intOf]
          · gi_wp2
            refine bodyPost_ret (results_none rfl _ _ _) rfl ?_
            exact ⟨⟨_, rfl⟩, .inr ⟨_, ⟨3, by omega, (HMS.out 2 HX2.out.symm).symm⟩, hJx3⟩⟩
      · simp only [Int.cast_ofNat_Int] at *
        have ix : ∀ w : World, (Instr.index 57 (.agg #[.bool x0, .bool x1, .bool x2, .bool x3]) (.int .i64 3)).run Try.prog w = .ok (.bool x3) w := fun _ => by kernel_rfl
        cases x3 with
        | false =>
          gi_wp2_with fail
          refine ⟨(fun f e => by cases e), ?_⟩
          gi_wp2
          go_roundw
          case rel => exact ⟨4, by omega, by first | rfl | go_num, by rw [HMN.out 3 HX3.out.symm]; exact hJs⟩
          case measure => simp [intOf]
        | true =>
          gi_wp2_with fail
          obtain ⟨fn, tmps, assign, body, hy, hR⟩ := HY.out (MT 3) 3 wr hJs (by have := HML.out 3; omega)
          simp only [Int.cast_ofNat_Int] at hy
          rw [hy]
          gi_wp2_with fail
          refine hR.mono ?_
          rintro e W3 (⟨rfl, hJ3⟩ | ⟨rfl, hJx3⟩)
          · gi_wp2
            go_roundw
            case rel => exact ⟨4, by omega, by first | rfl | go_num, by rw [HMS.out 3 HX3.out.symm]; exact hJ3⟩
            case measure => simp [intOf]
          · gi_wp2
            refine bodyPost_ret (results_none rfl _ _ _) rfl ?_
            exact ⟨⟨_, rfl⟩, .inr ⟨_, ⟨4, by omega, (HMS.out 3 HX3.out.symm).symm⟩, hJx3⟩⟩
    · obtain rfl : k = 4 := by omega
      gi_wp2
      go_end0
      exact ⟨⟨_, rfl⟩, .inl ⟨_, rfl, hJs⟩⟩

abbrev encN (x : Nat) : Array Value := #[Value.int .i64 (x : Int)]
/-- A sequence that tells the numbers below four that hold. -/
abbrev TellsB (n gf : Nat) (lb : Array Value) (bs : Nat → Bool) (w : World) : Prop :=
  SeqStopsK Fence.wide n Try.prog gf lb encN (fun _ _ => True) (fun ys => ys = upB bs 4) (fun pre => ∃ k, k ≤ 4 ∧ pre = upB bs k) 4 w
/-- What Nexts answers. -/
def NextsGives (w : World) (bs : Nat → Bool) (e : Ending) (w' : World) : Prop :=
  ∃ (gf : Nat) (lb : Array Value), e = .returned (.func (.func gf) #[] lb) ∧ (∀ args w, (callFunc gf args).run Try.prog w = .ok (.enter gf args) w) ∧ (∀ w'', Below w'.heap.size w' w'' → ∀ n, 1 ≤ n → TellsB n gf lb bs w'') ∧ Below w.heap.size w w'

set_option maxRecDepth 100000 in
set_option maxHeartbeats 2000000 in
theorem nexts_any (m : ML) (c s : Slc) (st : CS) (w : World) (hM : Med w m c s) : Calls Try.prog 19 #[vM m c s, .agg st.cells] w (NextsGives w (mayB m st)) := by
  have h1 := fun U (h : Below w.heap.size w U) => coming_any m c s st U (hM.on h)
  have e1 := comS_eq m st
  rw [e1] at h1
  clear e1 hM
  generalize mayB m st = bs at *
  have H1 := Lib.hid h1; clear h1
  obtain ⟨N, S, G, W, D, L, cold, ms⟩ := m
  obtain ⟨Ac, nc, cc⟩ := c
  obtain ⟨As, ns, cs⟩ := s
  obtain ⟨T, P, Mo, Nx, Me⟩ := st
  dsimp only [vM, CS.cells] at *
  obtain ⟨kb, kc, bc⟩ := bx2 w #[.int .i64 N, .int .i64 S, .int .i64 G, .int .i64 W, .int .i64 D, .int .i64 L, .slice Ac nc cc, .slice As ns cs] #[.int .i64 T, .int .i64 P, .int .i64 Mo, .int .i64 Nx, .int .i64 Me] 25 27
  go_enter Try.func19, Try.ntmps19
  go_wp2_with fail
  refine (H1.out _ bc).mono ?_
  rintro e w1 ⟨rfl, hC⟩
  dsimp only
  replace bc := bc.trans (hC.mono bc.size); clear hC kb kc
  have ka := Blk.new w1 57 (cell4 bs)
  have al := Below.al w1 (.cells (cell4 bs) 57)
  replace bc := bc.trans (al.mono bc.size); clear al
  go_wp2
  go_ret
  refine ⟨30, _, rfl, enters_of Try.func30 (by kernel_rfl) rfl, fun w'' hD q hq => ?_, bc⟩
  refine fun lp J Jx W hW hJ _ hY h0 => nexts1_in q lp w1.heap.size hq bs J Jx W hJ (fun pre x W1 h hl => (hY pre x W1 h hl).mono fun e W' h => ?_) ((ka.on hD).below hW (ka.on hD).lt) h0
  rcases h with ⟨h1, h2, _⟩ | h
  · exact .inl ⟨h1, h2⟩
  · exact .inr h
end Go.Proofs.Ytaooonajfdbfhaa

namespace Go.Proofs.Ytaooonajfdbfhaa
open Go.RowKit Go.Shelf
attribute [local go_sem] Oper.semAt_some

theorem bk_kept {W W' : World} {g : Nat} {t : TypeId} {cs : Array Value} {row : Option Nat} (h : Blk W g t cs) (hg : W.grownBy W' row) (hr : ∀ r, row = some r → ∃ o : Obj, W.heap[r]? = some o ∧ o.isCells = false) : Blk W' g t cs := by
  refine h.grown hg (fun e => ?_)
  obtain ⟨o, ho, hc⟩ := hr g e.symm
  unfold Blk at h
  rw [h] at ho
  cases ho
  cases hc
/-- What lies in May's own variables. -/
def MayI (w : World) (k : Int) (W : World) : Prop :=
  Blk W (w.heap.size + 1 + 1) 3 #[.int .i64 k] ∧ Blk W (w.heap.size + 1 + 1 + 1) 4 #[.bool false] ∧ Below w.heap.size w W ∧ w.heap.size + 4 ≤ W.heap.size
def MayX (w : World) (W : World) : Prop :=
  Blk W (w.heap.size + 1 + 1 + 1) 4 #[.bool true] ∧ Below w.heap.size w W ∧ w.heap.size + 4 ≤ W.heap.size
theorem mayI_kept {w : World} {k : Int} {X Y : World} {row : Option Nat} (h : MayI w k X) (hg : X.grownBy Y row) (hr : ∀ r, row = some r → w.heap.size + 4 ≤ r ∧ ∃ o : Obj, X.heap[r]? = some o ∧ o.isCells = false) : MayI w k Y := by
  obtain ⟨h1, h2, h5, h6⟩ := h
  have hr' : ∀ r, row = some r → ∃ o : Obj, X.heap[r]? = some o ∧ o.isCells = false := fun r e => (hr r e).2
  exact ⟨bk_kept h1 hg hr', bk_kept h2 hg hr', h5.grown hg (by omega) (fun q e => by have := (hr q e).1; omega), Nat.le_trans h6 hg.size⟩
theorem mayX_kept {w : World} {X Y : World} {row : Option Nat} (h : MayX w X) (hg : X.grownBy Y row) (hr : ∀ r, row = some r → w.heap.size + 4 ≤ r ∧ ∃ o : Obj, X.heap[r]? = some o ∧ o.isCells = false) : MayX w Y := by
  obtain ⟨h1, h5, h6⟩ := h
  have hr' : ∀ r, row = some r → ∃ o : Obj, X.heap[r]? = some o ∧ o.isCells = false := fun r e => (hr r e).2
  exact ⟨bk_kept h1 hg hr', h5.grown hg (by omega) (fun q e => by have := (hr q e).1; omega), Nat.le_trans h6 hg.size⟩
/-- No number told so far is the one that is asked for. -/
def NotYetN (k : Int) (pre : List Nat) : Prop := ∀ y ∈ pre, (y : Int) ≠ k

set_option maxRecDepth 100000 in
set_option maxHeartbeats 4000000 in
theorem may_any (m : ML) (c s : Slc) (st : CS) (k : Int) (w : World) (hM : Med w m c s) : Calls Try.prog 14 #[vM m c s, .agg st.cells, .int .i64 k] w fun e w' => e = .returned (.bool (mayN m st k)) ∧ Below w.heap.size w w' := by
  have hvw := fun U (h : Below w.heap.size w U) => nexts_any m c s st U (hM.on h)
  obtain ⟨o, ho⟩ : ∃ o, o = mayN m st k := ⟨_, rfl⟩
  rw [← ho]
  have hno : (∀ j, j < 4 → mayB m st j = true → (j : Int) ≠ k) → o = false := fun h => by
    rw [ho]
    cases hm : mayN m st k with
    | false => rfl
    | true =>
      obtain ⟨h0, h1⟩ := may_lt hm
      obtain ⟨j, rfl⟩ := Int.eq_ofNat_of_zero_le h0
      exact absurd rfl (h j (by omega) hm)
  have hyes : ∀ j : Nat, mayB m st j = true → (j : Int) = k → o = true := fun j h1 h2 => by rw [ho, ← h2]; exact h1
  clear ho hM
  generalize mayB m st = bs at *
  have HNO := Lib.hid hno; have HYE := Lib.hid hyes; clear hno hyes
  obtain ⟨N, S, G, W, D, L, cold, ms⟩ := m
  obtain ⟨Ac, nc, cc⟩ := c
  obtain ⟨As, ns, cs⟩ := s
  obtain ⟨T, P, Mo, Nx, Me⟩ := st
  dsimp only [vM, CS.cells] at *
  obtain ⟨k0, k1, k2, k3, bc⟩ := bx4 w #[.int .i64 N, .int .i64 S, .int .i64 G, .int .i64 W, .int .i64 D, .int .i64 L, .slice Ac nc cc, .slice As ns cs] #[.int .i64 T, .int .i64 P, .int .i64 Mo, .int .i64 Nx, .int .i64 Me] #[.int .i64 k] #[.bool false] 25 27 3 4
  have hsz : ((((w.alloc (.cells #[.int .i64 N, .int .i64 S, .int .i64 G, .int .i64 W, .int .i64 D, .int .i64 L, .slice Ac nc cc, .slice As ns cs] 25)).alloc (.cells #[.int .i64 T, .int .i64 P, .int .i64 Mo, .int .i64 Nx, .int .i64 Me] 27)).alloc (.cells #[.int .i64 k] 3)).alloc (.cells #[.bool false] 4)).heap.size = w.heap.size + 4 := by simp
  have hW0 : MayI w k ((((w.alloc (.cells #[.int .i64 N, .int .i64 S, .int .i64 G, .int .i64 W, .int .i64 D, .int .i64 L, .slice Ac nc cc, .slice As ns cs] 25)).alloc (.cells #[.int .i64 T, .int .i64 P, .int .i64 Mo, .int .i64 Nx, .int .i64 Me] 27)).alloc (.cells #[.int .i64 k] 3)).alloc (.cells #[.bool false] 4)) := ⟨k2, k3, bc, by omega⟩
  clear k2 k3
  have HV := Lib.hid hvw; have HW := Lib.hid hW0; clear hvw hW0
  refine (callsIn_wide (n := 5)).1 ?_
  refine callsIn_of_wp_marks Try.func14 rfl trivial ?_ rfl
  simp only [Try.ntmps14, List.size_toArray, List.length_cons, List.length_nil, Nat.reduceAdd, Nat.reduceSub, Array.replicate_succ, Array.replicate_zero, List.push_toArray, List.append_toArray, List.nil_append, List.cons_append]
  gi_wp2_with fail
  generalize (((w.alloc _).alloc _).alloc _).alloc _ = W0 at *
  refine ⟨trivial, ?_⟩
  refine (callsIn_wide.2 (HV.out _ bc)).mono ?_
  rintro e W1 ⟨gf, lb, rfl, hent, htells, hB⟩
  dsimp only
  have hI1 := mayI_kept HW.out (only_of_below hB none) (fun r e => by cases e)
  have hs1 : w.heap.size + 4 ≤ W1.heap.size := hI1.2.2.2
  have HT := Lib.hid htells; have HE := Lib.hid hent; have HI := Lib.hid hI1; clear htells hent hI1 HW hB
  gi_wp2_with fail
  rename_i Q' K hK0
  have HK := Lib.hid hK0; clear hK0
  refine wpIn_rangeFunc_ownG rfl (by omega) (gf := gf) (lb := lb) rfl trivial HE.out (HT.out W1 (Below.refl _ _) (5 - 1) (by omega)) (fun _ _ => trivial) (fun _ _ _ _ _ _ _ _ => trivial) (Below.refl _ _) (fun _ => rfl)
    (fun pre W => MayI w k W ∧ NotYetN k pre)
    (fun cd pre W => cd = .ret ∧ ∃ pre' x, pre = pre' ++ [x] ∧ ((x : Nat) : Int) = k ∧ MayX w W)
    (fun s X Y row hs hgr hr => ⟨mayI_kept hs.1 hgr (fun r e => ⟨by have := (hr r e).1; omega, (hr r e).2⟩), hs.2⟩)
    (fun cd s X Y row hs hgr hr => ⟨hs.1, by obtain ⟨p', x, h1, h2, h3⟩ := hs.2; exact ⟨p', x, h1, h2, mayX_kept h3 hgr (fun r e => ⟨by have := (hr r e).1; omega, (hr r e).2⟩)⟩⟩)
    ⟨HI.out, fun _ h => by cases h⟩
    (fun x => { tmps := #[.agg #[.int .i64 N, .int .i64 S, .int .i64 G, .int .i64 W, .int .i64 D, .int .i64 L, .slice Ac nc cc, .slice As ns cs], .agg #[.int .i64 T, .int .i64 P, .int .i64 Mo, .int .i64 Nx, .int .i64 Me], .int .i64 k, .pointer (some ⟨w.heap.size, 0, none⟩), .pointer (some ⟨w.heap.size + 1, 0, none⟩), .pointer (some ⟨w.heap.size + 1 + 1, 0, none⟩), .pointer (some ⟨w.heap.size + 1 + 1 + 1, 0, none⟩), .int .i64 (x : Int), .agg #[.int .i64 N, .int .i64 S, .int .i64 G, .int .i64 W, .int .i64 D, .int .i64 L, .slice Ac nc cc, .slice As ns cs], .agg #[.int .i64 T, .int .i64 P, .int .i64 Mo, .int .i64 Nx, .int .i64 Me], .func (.func gf) #[] lb, .int .i64 (x : Int), undef, undef, undef], defers := [] }) ?assign ?body ?done ?stop
  case assign =>
    intro l x W K hK
    gi_wp2
    simpa [encN] using hK
  case body =>
    rintro lp pre x W ⟨⟨h2, h3, hb, hz⟩, hny⟩ hlt
    obtain ⟨p2, f2⟩ := h2.one
    obtain ⟨p3, f3⟩ := h3.one
    by_cases hx : (x : Int) = k
    · have hd : ((x : Int) == k) = true := by simpa using hx
      gi_wp2
      refine ⟨(KeepsOthers.setCell _ _ _).from _, rfl, pre, x, rfl, hx, h3.put1 _, hb.setCell (p := ⟨w.heap.size + 1 + 1 + 1, 0, none⟩) (by dsimp only; omega) _, by simpa using hz⟩
    · have hd : ((x : Int) == k) = false := by simpa using hx
      gi_wp2
      refine ⟨(KeepsOthers.refl _).from _, trivial, ⟨h2, h3, hb, hz⟩, ?_⟩
      intro y hy
      rcases List.mem_append.1 hy with h | h
      · exact hny y h
      · obtain rfl : y = x := by simpa using h
        exact hx
  case done =>
    rintro D ys W hD rfl ⟨⟨h2, h3, hb, hz⟩, hny⟩ hK
    obtain ⟨p3, f3⟩ := h3.one
    have hnone : o = false := HNO.out (fun j hj h => hny j (mem_upB.2 ⟨hj, h⟩))
    subst hnone
    refine HK.out _ _ ?_
    gi_wp2
    have hD3 : D ≠ w.heap.size + 1 + 1 + 1 := by omega
    have hKd : (W.setCell ⟨w.heap.size + 1 + 1 + 1, 0, none⟩ (.bool false)).heap[D]? = some (.deferred (some [])) := (Below.heap_setCell _ _ _ D hD3).trans hK
    refine ⟨by simp, .inl ⟨_, _, rfl, run_takeDeferred hKd, ?_⟩⟩
    clear p3 f3
    have j3 : Blk ((W.setCell ⟨w.heap.size + 1 + 1 + 1, 0, none⟩ (.bool false)).putObj D (.deferred none)) (w.heap.size + 1 + 1 + 1) 4 #[.bool false] := Blk.grown (h3.put1 _) (grownBy_putObj' _ D _) (fun e => hD3 (Option.some.inj e).symm)
    have jb : Below w.heap.size w ((W.setCell ⟨w.heap.size + 1 + 1 + 1, 0, none⟩ (.bool false)).putObj D (.deferred none)) := (hb.setCell (p := ⟨w.heap.size + 1 + 1 + 1, 0, none⟩) (by dsimp only; omega) _).grown (grownBy_putObj' _ D _) (by simp; omega) (fun q e => by have := Option.some.inj e; omega)
    generalize (W.setCell ⟨w.heap.size + 1 + 1 + 1, 0, none⟩ (.bool false)).putObj D (.deferred none) = U at *
    obtain ⟨p3, -⟩ := j3.one
    exact ⟨.bool false, by simp [results, Try.results14, go_sem, p3], rfl, jb⟩
  case stop =>
    rintro D cd pre W hD ⟨q, hq, hpre⟩ ⟨rfl, p', x, hp, hxk, h3, hb, hz⟩ hK
    obtain ⟨p3, f3⟩ := h3.one
    have hx : x ∈ upB bs q := by rw [← hpre, hp]; simp
    have hsome : o = true := HYE.out x (mem_upB.1 hx).2 hxk
    subst hsome
    gi_wp2
    have hD3 : D ≠ w.heap.size + 1 + 1 + 1 := by omega
    refine ⟨by simp, .inl ⟨_, _, rfl, run_takeDeferred hK, ?_⟩⟩
    clear p3 f3
    have j3 : Blk (W.putObj D (.deferred none)) (w.heap.size + 1 + 1 + 1) 4 #[.bool true] := Blk.grown h3 (grownBy_putObj' _ D _) (fun e => hD3 (Option.some.inj e).symm)
    have jb : Below w.heap.size w (W.putObj D (.deferred none)) := hb.grown (grownBy_putObj' _ D _) (by omega) (fun q e => by have := Option.some.inj e; omega)
    generalize W.putObj D (.deferred none) = U at *
    obtain ⟨p3, -⟩ := j3.one
    exact ⟨.bool true, by simp [results, Try.results14, go_sem, p3], rfl, jb⟩
end Go.Proofs.Ytaooonajfdbfhaa

namespace Go.Proofs.Ytaooonajfdbfhaa
open Go.RowKit

/-- What Ask answers. -/
def ResK (w : World) (r : Int × Int) (e : Ending) (w' : World) : Prop := e = .returned (.tuple #[.int .i64 r.2, .int .i64 r.1]) ∧ Below w.heap.size w w'
theorem ask_out {m : ML} {st : CS} {k : Int} (h : ¬ askedS m st = 0) : askS m st k = (askedS m st, 0) := if_neg h
theorem ask_bad {m : ML} {st : CS} {k : Int} (h : askedS m st = 0) (h1 : k < -1 ∨ (m.ms.length : Int) ≤ k) : askS m st k = (100, 0) := by unfold askS; rw [if_pos h, if_pos h1]
theorem ask_in {m : ML} {st : CS} {k : Int} (h : askedS m st = 0) (h1 : ¬ (k < -1 ∨ (m.ms.length : Int) ≤ k)) : askS m st k = if mayN m st k = true then (0, k + 1) else (0, 0) := by unfold askS; rw [if_pos h, if_neg h1]
theorem take_out {m : ML} {st : CS} {k : Int} (h : ¬ askedS m st = 0) : takeS m st k = (askedS m st, zeroC) := if_neg h
theorem take_bad {m : ML} {st : CS} {k : Int} (h : askedS m st = 0) (h1 : k < 0 ∨ (m.ms.length : Int) < k) : takeS m st k = (100, zeroC) := by unfold takeS; rw [if_pos h, if_pos h1]
theorem take_in {m : ML} {st : CS} {k : Int} (h : askedS m st = 0) (h1 : ¬ (k < 0 ∨ (m.ms.length : Int) < k)) : takeS m st k = if mayN m st (k - 1) = true then (0, withNx st k) else (0, st) := by unfold takeS; rw [if_pos h, if_neg h1]

set_option maxRecDepth 100000 in
set_option maxHeartbeats 4000000 in
theorem ask_any (m : ML) (c s : Slc) (st : CS) (k : Int) (w : World) (hM : Med w m c s) : Calls Try.prog 7 #[vM m c s, .agg st.cells, .int .i64 k] w (ResK w (askS m st k)) := by
  have h1 := fun U (h : Below w.heap.size w U) => mocheck_any m c s st U (hM.on h)
  have h2 := fun U (h : Below w.heap.size w U) => may_any m c s st k U (hM.on h)
  have h3 := fun U (h : Below w.heap.size w U) => isMode_any m c s k U (hM.on h)
  have hsn := hM.sn
  clear hM
  by_cases c1 : askedS m st = 0
  rotate_left
  · rw [ask_out c1]
    have d1 := neqz c1
    generalize askedS m st = er at *
    clear c1 hsn h2 h3
    have H1 := Lib.hid h1; clear h1
    obtain ⟨N, S, G, W, D, L, cold, ms⟩ := m
    obtain ⟨Ac, nc, cc⟩ := c
    obtain ⟨As, ns, cs⟩ := s
    obtain ⟨T, P, Mo, Nx, Me⟩ := st
    dsimp only [vM, CS.cells] at *
    obtain ⟨kb, kc, bc⟩ := bx2 w #[.int .i64 N, .int .i64 S, .int .i64 G, .int .i64 W, .int .i64 D, .int .i64 L, .slice Ac nc cc, .slice As ns cs] #[.int .i64 T, .int .i64 P, .int .i64 Mo, .int .i64 Nx, .int .i64 Me] 25 27
    go_enter Try.func7, Try.ntmps7
    go_wp2_with (first
      | (go_at_call 21; with_reducible refine (H1.out _ bc).mono ?_; rintro e w1 ⟨rfl, hC⟩; dsimp only; replace kb := kb.on hC; replace kc := kc.on hC; replace bc := bc.trans (hC.mono bc.size); clear hC; (try clear pkb0 pkb1 pkb2 pkb3 pkb4 pkb5 pkb6 pkb7); obtain ⟨pkb0, pkb1, pkb2, pkb3, pkb4, pkb5, pkb6, pkb7⟩ := kb.eight; (try clear pkc0 pkc1 pkc2 pkc3 pkc4); obtain ⟨⟨pkc0, pkc1, pkc2, pkc3, pkc4⟩, -⟩ := kc.five)
      | (go_at_call 14; with_reducible refine (H2.out _ bc).mono ?_; rintro e w1 ⟨rfl, hC⟩; dsimp only; replace kb := kb.on hC; replace kc := kc.on hC; replace bc := bc.trans (hC.mono bc.size); clear hC; (try clear pkb0 pkb1 pkb2 pkb3 pkb4 pkb5 pkb6 pkb7); obtain ⟨pkb0, pkb1, pkb2, pkb3, pkb4, pkb5, pkb6, pkb7⟩ := kb.eight; (try clear pkc0 pkc1 pkc2 pkc3 pkc4); obtain ⟨⟨pkc0, pkc1, pkc2, pkc3, pkc4⟩, -⟩ := kc.five)
      | (go_at_call 22; with_reducible refine (H3.out _ bc).mono ?_; rintro e w1 ⟨rfl, hC⟩; dsimp only; replace kb := kb.on hC; replace kc := kc.on hC; replace bc := bc.trans (hC.mono bc.size); clear hC; (try clear pkb0 pkb1 pkb2 pkb3 pkb4 pkb5 pkb6 pkb7); obtain ⟨pkb0, pkb1, pkb2, pkb3, pkb4, pkb5, pkb6, pkb7⟩ := kb.eight; (try clear pkc0 pkc1 pkc2 pkc3 pkc4); obtain ⟨⟨pkc0, pkc1, pkc2, pkc3, pkc4⟩, -⟩ := kc.five))
    go_ret2
    exact ⟨rfl, bc⟩
  obtain ⟨-, -, hl4, -, -, -⟩ := asked_ok c1
  by_cases c2 : k < -1 ∨ (m.ms.length : Int) ≤ k
  · rw [ask_bad c1 c2]
    rw [c1] at h1
    rw [decide_eq_false (show ¬ (0 ≤ k ∧ k < (m.ms.length : Int)) by omega)] at h3
    have d2 : (k != -1) = true := by simp; omega
    clear c1 h2 hl4 c2 hsn
    have H1 := Lib.hid h1; have H3 := Lib.hid h3; clear h1 h3
    obtain ⟨N, S, G, W, D, L, cold, ms⟩ := m
    obtain ⟨Ac, nc, cc⟩ := c
    obtain ⟨As, ns, cs⟩ := s
    obtain ⟨T, P, Mo, Nx, Me⟩ := st
    dsimp only [vM, CS.cells] at *
    obtain ⟨kb, kc, bc⟩ := bx2 w #[.int .i64 N, .int .i64 S, .int .i64 G, .int .i64 W, .int .i64 D, .int .i64 L, .slice Ac nc cc, .slice As ns cs] #[.int .i64 T, .int .i64 P, .int .i64 Mo, .int .i64 Nx, .int .i64 Me] 25 27
    go_enter Try.func7, Try.ntmps7
    go_wp2_with (first
      | (go_at_call 21; with_reducible refine (H1.out _ bc).mono ?_; rintro e w1 ⟨rfl, hC⟩; dsimp only; replace kb := kb.on hC; replace kc := kc.on hC; replace bc := bc.trans (hC.mono bc.size); clear hC; (try clear pkb0 pkb1 pkb2 pkb3 pkb4 pkb5 pkb6 pkb7); obtain ⟨pkb0, pkb1, pkb2, pkb3, pkb4, pkb5, pkb6, pkb7⟩ := kb.eight; (try clear pkc0 pkc1 pkc2 pkc3 pkc4); obtain ⟨⟨pkc0, pkc1, pkc2, pkc3, pkc4⟩, -⟩ := kc.five)
      | (go_at_call 14; with_reducible refine (H2.out _ bc).mono ?_; rintro e w1 ⟨rfl, hC⟩; dsimp only; replace kb := kb.on hC; replace kc := kc.on hC; replace bc := bc.trans (hC.mono bc.size); clear hC; (try clear pkb0 pkb1 pkb2 pkb3 pkb4 pkb5 pkb6 pkb7); obtain ⟨pkb0, pkb1, pkb2, pkb3, pkb4, pkb5, pkb6, pkb7⟩ := kb.eight; (try clear pkc0 pkc1 pkc2 pkc3 pkc4); obtain ⟨⟨pkc0, pkc1, pkc2, pkc3, pkc4⟩, -⟩ := kc.five)
      | (go_at_call 22; with_reducible refine (H3.out _ bc).mono ?_; rintro e w1 ⟨rfl, hC⟩; dsimp only; replace kb := kb.on hC; replace kc := kc.on hC; replace bc := bc.trans (hC.mono bc.size); clear hC; (try clear pkb0 pkb1 pkb2 pkb3 pkb4 pkb5 pkb6 pkb7); obtain ⟨pkb0, pkb1, pkb2, pkb3, pkb4, pkb5, pkb6, pkb7⟩ := kb.eight; (try clear pkc0 pkc1 pkc2 pkc3 pkc4); obtain ⟨⟨pkc0, pkc1, pkc2, pkc3, pkc4⟩, -⟩ := kc.five))
    go_ret2
    exact ⟨rfl, bc⟩
  · rw [ask_in c1 c2]
    rw [c1] at h1
    have hwr : IntKind.i64.wrap (k + 1) = k + 1 := IntWalk.i64_in _ (by omega)
    generalize mayN m st k = q at *
    by_cases c3 : k = -1
    · have d2 : (k != -1) = false := by simpa using c3
      clear c1 c2 hl4 hsn h3 c3
      have H1 := Lib.hid h1; have H2 := Lib.hid h2; clear h1 h2
      obtain ⟨N, S, G, W, D, L, cold, ms⟩ := m
      obtain ⟨Ac, nc, cc⟩ := c
      obtain ⟨As, ns, cs⟩ := s
      obtain ⟨T, P, Mo, Nx, Me⟩ := st
      cases q with
      | false =>
        dsimp only [vM, CS.cells] at *
        obtain ⟨kb, kc, bc⟩ := bx2 w #[.int .i64 N, .int .i64 S, .int .i64 G, .int .i64 W, .int .i64 D, .int .i64 L, .slice Ac nc cc, .slice As ns cs] #[.int .i64 T, .int .i64 P, .int .i64 Mo, .int .i64 Nx, .int .i64 Me] 25 27
        go_enter Try.func7, Try.ntmps7
        go_wp2_with (first
          | (go_at_call 21; with_reducible refine (H1.out _ bc).mono ?_; rintro e w1 ⟨rfl, hC⟩; dsimp only; replace kb := kb.on hC; replace kc := kc.on hC; replace bc := bc.trans (hC.mono bc.size); clear hC; (try clear pkb0 pkb1 pkb2 pkb3 pkb4 pkb5 pkb6 pkb7); obtain ⟨pkb0, pkb1, pkb2, pkb3, pkb4, pkb5, pkb6, pkb7⟩ := kb.eight; (try clear pkc0 pkc1 pkc2 pkc3 pkc4); obtain ⟨⟨pkc0, pkc1, pkc2, pkc3, pkc4⟩, -⟩ := kc.five)
          | (go_at_call 14; with_reducible refine (H2.out _ bc).mono ?_; rintro e w1 ⟨rfl, hC⟩; dsimp only; replace kb := kb.on hC; replace kc := kc.on hC; replace bc := bc.trans (hC.mono bc.size); clear hC; (try clear pkb0 pkb1 pkb2 pkb3 pkb4 pkb5 pkb6 pkb7); obtain ⟨pkb0, pkb1, pkb2, pkb3, pkb4, pkb5, pkb6, pkb7⟩ := kb.eight; (try clear pkc0 pkc1 pkc2 pkc3 pkc4); obtain ⟨⟨pkc0, pkc1, pkc2, pkc3, pkc4⟩, -⟩ := kc.five)
          | (go_at_call 22; with_reducible refine (H3.out _ bc).mono ?_; rintro e w1 ⟨rfl, hC⟩; dsimp only; replace kb := kb.on hC; replace kc := kc.on hC; replace bc := bc.trans (hC.mono bc.size); clear hC; (try clear pkb0 pkb1 pkb2 pkb3 pkb4 pkb5 pkb6 pkb7); obtain ⟨pkb0, pkb1, pkb2, pkb3, pkb4, pkb5, pkb6, pkb7⟩ := kb.eight; (try clear pkc0 pkc1 pkc2 pkc3 pkc4); obtain ⟨⟨pkc0, pkc1, pkc2, pkc3, pkc4⟩, -⟩ := kc.five))
        go_ret2
        exact ⟨rfl, bc⟩
      | true =>
        dsimp only [vM, CS.cells] at *
        obtain ⟨kb, kc, bc⟩ := bx2 w #[.int .i64 N, .int .i64 S, .int .i64 G, .int .i64 W, .int .i64 D, .int .i64 L, .slice Ac nc cc, .slice As ns cs] #[.int .i64 T, .int .i64 P, .int .i64 Mo, .int .i64 Nx, .int .i64 Me] 25 27
        go_enter Try.func7, Try.ntmps7
        go_wp2_with (first
          | (go_at_call 21; with_reducible refine (H1.out _ bc).mono ?_; rintro e w1 ⟨rfl, hC⟩; dsimp only; replace kb := kb.on hC; replace kc := kc.on hC; replace bc := bc.trans (hC.mono bc.size); clear hC; (try clear pkb0 pkb1 pkb2 pkb3 pkb4 pkb5 pkb6 pkb7); obtain ⟨pkb0, pkb1, pkb2, pkb3, pkb4, pkb5, pkb6, pkb7⟩ := kb.eight; (try clear pkc0 pkc1 pkc2 pkc3 pkc4); obtain ⟨⟨pkc0, pkc1, pkc2, pkc3, pkc4⟩, -⟩ := kc.five)
          | (go_at_call 14; with_reducible refine (H2.out _ bc).mono ?_; rintro e w1 ⟨rfl, hC⟩; dsimp only; replace kb := kb.on hC; replace kc := kc.on hC; replace bc := bc.trans (hC.mono bc.size); clear hC; (try clear pkb0 pkb1 pkb2 pkb3 pkb4 pkb5 pkb6 pkb7); obtain ⟨pkb0, pkb1, pkb2, pkb3, pkb4, pkb5, pkb6, pkb7⟩ := kb.eight; (try clear pkc0 pkc1 pkc2 pkc3 pkc4); obtain ⟨⟨pkc0, pkc1, pkc2, pkc3, pkc4⟩, -⟩ := kc.five)
          | (go_at_call 22; with_reducible refine (H3.out _ bc).mono ?_; rintro e w1 ⟨rfl, hC⟩; dsimp only; replace kb := kb.on hC; replace kc := kc.on hC; replace bc := bc.trans (hC.mono bc.size); clear hC; (try clear pkb0 pkb1 pkb2 pkb3 pkb4 pkb5 pkb6 pkb7); obtain ⟨pkb0, pkb1, pkb2, pkb3, pkb4, pkb5, pkb6, pkb7⟩ := kb.eight; (try clear pkc0 pkc1 pkc2 pkc3 pkc4); obtain ⟨⟨pkc0, pkc1, pkc2, pkc3, pkc4⟩, -⟩ := kc.five))
        go_ret2
        exact ⟨rfl, bc⟩
    · have d2 : (k != -1) = true := by simpa using c3
      rw [decide_eq_true (show 0 ≤ k ∧ k < (m.ms.length : Int) by omega)] at h3
      clear c1 c2 hl4 hsn c3
      have H1 := Lib.hid h1; have H2 := Lib.hid h2; have H3 := Lib.hid h3; clear h1 h2 h3
      obtain ⟨N, S, G, W, D, L, cold, ms⟩ := m
      obtain ⟨Ac, nc, cc⟩ := c
      obtain ⟨As, ns, cs⟩ := s
      obtain ⟨T, P, Mo, Nx, Me⟩ := st
      cases q with
      | false =>
        dsimp only [vM, CS.cells] at *
        obtain ⟨kb, kc, bc⟩ := bx2 w #[.int .i64 N, .int .i64 S, .int .i64 G, .int .i64 W, .int .i64 D, .int .i64 L, .slice Ac nc cc, .slice As ns cs] #[.int .i64 T, .int .i64 P, .int .i64 Mo, .int .i64 Nx, .int .i64 Me] 25 27
        go_enter Try.func7, Try.ntmps7
        go_wp2_with (first
          | (go_at_call 21; with_reducible refine (H1.out _ bc).mono ?_; rintro e w1 ⟨rfl, hC⟩; dsimp only; replace kb := kb.on hC; replace kc := kc.on hC; replace bc := bc.trans (hC.mono bc.size); clear hC; (try clear pkb0 pkb1 pkb2 pkb3 pkb4 pkb5 pkb6 pkb7); obtain ⟨pkb0, pkb1, pkb2, pkb3, pkb4, pkb5, pkb6, pkb7⟩ := kb.eight; (try clear pkc0 pkc1 pkc2 pkc3 pkc4); obtain ⟨⟨pkc0, pkc1, pkc2, pkc3, pkc4⟩, -⟩ := kc.five)
          | (go_at_call 14; with_reducible refine (H2.out _ bc).mono ?_; rintro e w1 ⟨rfl, hC⟩; dsimp only; replace kb := kb.on hC; replace kc := kc.on hC; replace bc := bc.trans (hC.mono bc.size); clear hC; (try clear pkb0 pkb1 pkb2 pkb3 pkb4 pkb5 pkb6 pkb7); obtain ⟨pkb0, pkb1, pkb2, pkb3, pkb4, pkb5, pkb6, pkb7⟩ := kb.eight; (try clear pkc0 pkc1 pkc2 pkc3 pkc4); obtain ⟨⟨pkc0, pkc1, pkc2, pkc3, pkc4⟩, -⟩ := kc.five)
          | (go_at_call 22; with_reducible refine (H3.out _ bc).mono ?_; rintro e w1 ⟨rfl, hC⟩; dsimp only; replace kb := kb.on hC; replace kc := kc.on hC; replace bc := bc.trans (hC.mono bc.size); clear hC; (try clear pkb0 pkb1 pkb2 pkb3 pkb4 pkb5 pkb6 pkb7); obtain ⟨pkb0, pkb1, pkb2, pkb3, pkb4, pkb5, pkb6, pkb7⟩ := kb.eight; (try clear pkc0 pkc1 pkc2 pkc3 pkc4); obtain ⟨⟨pkc0, pkc1, pkc2, pkc3, pkc4⟩, -⟩ := kc.five))
        go_ret2
        exact ⟨rfl, bc⟩
      | true =>
        dsimp only [vM, CS.cells] at *
        obtain ⟨kb, kc, bc⟩ := bx2 w #[.int .i64 N, .int .i64 S, .int .i64 G, .int .i64 W, .int .i64 D, .int .i64 L, .slice Ac nc cc, .slice As ns cs] #[.int .i64 T, .int .i64 P, .int .i64 Mo, .int .i64 Nx, .int .i64 Me] 25 27
        go_enter Try.func7, Try.ntmps7
        go_wp2_with (first
          | (go_at_call 21; with_reducible refine (H1.out _ bc).mono ?_; rintro e w1 ⟨rfl, hC⟩; dsimp only; replace kb := kb.on hC; replace kc := kc.on hC; replace bc := bc.trans (hC.mono bc.size); clear hC; (try clear pkb0 pkb1 pkb2 pkb3 pkb4 pkb5 pkb6 pkb7); obtain ⟨pkb0, pkb1, pkb2, pkb3, pkb4, pkb5, pkb6, pkb7⟩ := kb.eight; (try clear pkc0 pkc1 pkc2 pkc3 pkc4); obtain ⟨⟨pkc0, pkc1, pkc2, pkc3, pkc4⟩, -⟩ := kc.five)
          | (go_at_call 14; with_reducible refine (H2.out _ bc).mono ?_; rintro e w1 ⟨rfl, hC⟩; dsimp only; replace kb := kb.on hC; replace kc := kc.on hC; replace bc := bc.trans (hC.mono bc.size); clear hC; (try clear pkb0 pkb1 pkb2 pkb3 pkb4 pkb5 pkb6 pkb7); obtain ⟨pkb0, pkb1, pkb2, pkb3, pkb4, pkb5, pkb6, pkb7⟩ := kb.eight; (try clear pkc0 pkc1 pkc2 pkc3 pkc4); obtain ⟨⟨pkc0, pkc1, pkc2, pkc3, pkc4⟩, -⟩ := kc.five)
          | (go_at_call 22; with_reducible refine (H3.out _ bc).mono ?_; rintro e w1 ⟨rfl, hC⟩; dsimp only; replace kb := kb.on hC; replace kc := kc.on hC; replace bc := bc.trans (hC.mono bc.size); clear hC; (try clear pkb0 pkb1 pkb2 pkb3 pkb4 pkb5 pkb6 pkb7); obtain ⟨pkb0, pkb1, pkb2, pkb3, pkb4, pkb5, pkb6, pkb7⟩ := kb.eight; (try clear pkc0 pkc1 pkc2 pkc3 pkc4); obtain ⟨⟨pkc0, pkc1, pkc2, pkc3, pkc4⟩, -⟩ := kc.five))
        go_ret2
        exact ⟨rfl, bc⟩
set_option maxRecDepth 100000 in
set_option maxHeartbeats 4000000 in
theorem rask_any (m : ML) (c s : Slc) (st : CS) (k : Int) (w : World) (hM : Med w m c s) : Calls Try.prog 8 #[vM m c s, .agg st.cells, .int .i64 k] w (ResK w (askS m st k)) := by
  have h1 := fun U (h : Below w.heap.size w U) => rasked_any m c s st U (hM.on h)
  have h2 := fun U (h : Below w.heap.size w U) => rmay_any m c s st k U (hM.on h)
  have hsn := hM.sn
  clear hM
  by_cases c1 : askedS m st = 0
  rotate_left
  · rw [ask_out c1]
    have d1 := neqz c1
    generalize askedS m st = er at *
    clear c1 hsn h2
    have H1 := Lib.hid h1; clear h1
    obtain ⟨N, S, G, W, D, L, cold, ms⟩ := m
    obtain ⟨Ac, nc, cc⟩ := c
    obtain ⟨As, ns, cs⟩ := s
    obtain ⟨T, P, Mo, Nx, Me⟩ := st
    dsimp only [vM, CS.cells] at *
    obtain ⟨kb, kc, bc⟩ := bx2 w #[.int .i64 N, .int .i64 S, .int .i64 G, .int .i64 W, .int .i64 D, .int .i64 L, .slice Ac nc cc, .slice As ns cs] #[.int .i64 T, .int .i64 P, .int .i64 Mo, .int .i64 Nx, .int .i64 Me] 25 27
    go_enter Try.func8, Try.ntmps8
    go_wp2_with (first
      | (go_at_call 23; with_reducible refine (H1.out _ bc).mono ?_; rintro e w1 ⟨rfl, hC⟩; dsimp only; replace kb := kb.on hC; replace kc := kc.on hC; replace bc := bc.trans (hC.mono bc.size); clear hC; (try clear pkb0 pkb1 pkb2 pkb3 pkb4 pkb5 pkb6 pkb7); obtain ⟨pkb0, pkb1, pkb2, pkb3, pkb4, pkb5, pkb6, pkb7⟩ := kb.eight; (try clear pkc0 pkc1 pkc2 pkc3 pkc4); obtain ⟨⟨pkc0, pkc1, pkc2, pkc3, pkc4⟩, -⟩ := kc.five)
      | (go_at_call 15; with_reducible refine (H2.out _ bc).mono ?_; rintro e w1 ⟨rfl, hC⟩; dsimp only; replace kb := kb.on hC; replace kc := kc.on hC; replace bc := bc.trans (hC.mono bc.size); clear hC; (try clear pkb0 pkb1 pkb2 pkb3 pkb4 pkb5 pkb6 pkb7); obtain ⟨pkb0, pkb1, pkb2, pkb3, pkb4, pkb5, pkb6, pkb7⟩ := kb.eight; (try clear pkc0 pkc1 pkc2 pkc3 pkc4); obtain ⟨⟨pkc0, pkc1, pkc2, pkc3, pkc4⟩, -⟩ := kc.five))
    go_ret2
    exact ⟨rfl, bc⟩
  obtain ⟨-, -, hl4, -, -, -⟩ := asked_ok c1
  by_cases c2 : k < -1 ∨ (m.ms.length : Int) ≤ k
  · rw [ask_bad c1 c2]
    rw [c1] at h1
    rw [← hsn] at c2
    clear c1 h2 hl4 hsn
    have H1 := Lib.hid h1; clear h1
    obtain ⟨N, S, G, W, D, L, cold, ms⟩ := m
    obtain ⟨Ac, nc, cc⟩ := c
    obtain ⟨As, ns, cs⟩ := s
    obtain ⟨T, P, Mo, Nx, Me⟩ := st
    dsimp only at c2
    by_cases c3 : k < -1
    · have d3 := decide_eq_true c3
      clear c2 c3
      dsimp only [vM, CS.cells] at *
      obtain ⟨kb, kc, bc⟩ := bx2 w #[.int .i64 N, .int .i64 S, .int .i64 G, .int .i64 W, .int .i64 D, .int .i64 L, .slice Ac nc cc, .slice As ns cs] #[.int .i64 T, .int .i64 P, .int .i64 Mo, .int .i64 Nx, .int .i64 Me] 25 27
      go_enter Try.func8, Try.ntmps8
      go_wp2_with (first
        | (go_at_call 23; with_reducible refine (H1.out _ bc).mono ?_; rintro e w1 ⟨rfl, hC⟩; dsimp only; replace kb := kb.on hC; replace kc := kc.on hC; replace bc := bc.trans (hC.mono bc.size); clear hC; (try clear pkb0 pkb1 pkb2 pkb3 pkb4 pkb5 pkb6 pkb7); obtain ⟨pkb0, pkb1, pkb2, pkb3, pkb4, pkb5, pkb6, pkb7⟩ := kb.eight; (try clear pkc0 pkc1 pkc2 pkc3 pkc4); obtain ⟨⟨pkc0, pkc1, pkc2, pkc3, pkc4⟩, -⟩ := kc.five)
        | (go_at_call 15; with_reducible refine (H2.out _ bc).mono ?_; rintro e w1 ⟨rfl, hC⟩; dsimp only; replace kb := kb.on hC; replace kc := kc.on hC; replace bc := bc.trans (hC.mono bc.size); clear hC; (try clear pkb0 pkb1 pkb2 pkb3 pkb4 pkb5 pkb6 pkb7); obtain ⟨pkb0, pkb1, pkb2, pkb3, pkb4, pkb5, pkb6, pkb7⟩ := kb.eight; (try clear pkc0 pkc1 pkc2 pkc3 pkc4); obtain ⟨⟨pkc0, pkc1, pkc2, pkc3, pkc4⟩, -⟩ := kc.five))
      go_ret2
      exact ⟨rfl, bc⟩
    · have d3 := decide_eq_false c3
      have d4 : decide ((ns : Int) ≤ k) = true := by simp; omega
      clear c2 c3
      dsimp only [vM, CS.cells] at *
      obtain ⟨kb, kc, bc⟩ := bx2 w #[.int .i64 N, .int .i64 S, .int .i64 G, .int .i64 W, .int .i64 D, .int .i64 L, .slice Ac nc cc, .slice As ns cs] #[.int .i64 T, .int .i64 P, .int .i64 Mo, .int .i64 Nx, .int .i64 Me] 25 27
      go_enter Try.func8, Try.ntmps8
      go_wp2_with (first
        | (go_at_call 23; with_reducible refine (H1.out _ bc).mono ?_; rintro e w1 ⟨rfl, hC⟩; dsimp only; replace kb := kb.on hC; replace kc := kc.on hC; replace bc := bc.trans (hC.mono bc.size); clear hC; (try clear pkb0 pkb1 pkb2 pkb3 pkb4 pkb5 pkb6 pkb7); obtain ⟨pkb0, pkb1, pkb2, pkb3, pkb4, pkb5, pkb6, pkb7⟩ := kb.eight; (try clear pkc0 pkc1 pkc2 pkc3 pkc4); obtain ⟨⟨pkc0, pkc1, pkc2, pkc3, pkc4⟩, -⟩ := kc.five)
        | (go_at_call 15; with_reducible refine (H2.out _ bc).mono ?_; rintro e w1 ⟨rfl, hC⟩; dsimp only; replace kb := kb.on hC; replace kc := kc.on hC; replace bc := bc.trans (hC.mono bc.size); clear hC; (try clear pkb0 pkb1 pkb2 pkb3 pkb4 pkb5 pkb6 pkb7); obtain ⟨pkb0, pkb1, pkb2, pkb3, pkb4, pkb5, pkb6, pkb7⟩ := kb.eight; (try clear pkc0 pkc1 pkc2 pkc3 pkc4); obtain ⟨⟨pkc0, pkc1, pkc2, pkc3, pkc4⟩, -⟩ := kc.five))
      go_ret2
      exact ⟨rfl, bc⟩
  · rw [ask_in c1 c2]
    rw [c1] at h1
    have hwr : IntKind.i64.wrap (k + 1) = k + 1 := IntWalk.i64_in _ (by omega)
    generalize mayN m st k = q at *
    have d3 : decide (k < -1) = false := by simp; omega
    have d4 : decide ((s.n : Int) ≤ k) = false := by simp; omega
    clear c1 c2 hl4 hsn
    have H1 := Lib.hid h1; have H2 := Lib.hid h2; clear h1 h2
    obtain ⟨N, S, G, W, D, L, cold, ms⟩ := m
    obtain ⟨Ac, nc, cc⟩ := c
    obtain ⟨As, ns, cs⟩ := s
    obtain ⟨T, P, Mo, Nx, Me⟩ := st
    dsimp only at d4
    cases q with
    | false =>
      dsimp only [vM, CS.cells] at *
      obtain ⟨kb, kc, bc⟩ := bx2 w #[.int .i64 N, .int .i64 S, .int .i64 G, .int .i64 W, .int .i64 D, .int .i64 L, .slice Ac nc cc, .slice As ns cs] #[.int .i64 T, .int .i64 P, .int .i64 Mo, .int .i64 Nx, .int .i64 Me] 25 27
      go_enter Try.func8, Try.ntmps8
      go_wp2_with (first
        | (go_at_call 23; with_reducible refine (H1.out _ bc).mono ?_; rintro e w1 ⟨rfl, hC⟩; dsimp only; replace kb := kb.on hC; replace kc := kc.on hC; replace bc := bc.trans (hC.mono bc.size); clear hC; (try clear pkb0 pkb1 pkb2 pkb3 pkb4 pkb5 pkb6 pkb7); obtain ⟨pkb0, pkb1, pkb2, pkb3, pkb4, pkb5, pkb6, pkb7⟩ := kb.eight; (try clear pkc0 pkc1 pkc2 pkc3 pkc4); obtain ⟨⟨pkc0, pkc1, pkc2, pkc3, pkc4⟩, -⟩ := kc.five)
        | (go_at_call 15; with_reducible refine (H2.out _ bc).mono ?_; rintro e w1 ⟨rfl, hC⟩; dsimp only; replace kb := kb.on hC; replace kc := kc.on hC; replace bc := bc.trans (hC.mono bc.size); clear hC; (try clear pkb0 pkb1 pkb2 pkb3 pkb4 pkb5 pkb6 pkb7); obtain ⟨pkb0, pkb1, pkb2, pkb3, pkb4, pkb5, pkb6, pkb7⟩ := kb.eight; (try clear pkc0 pkc1 pkc2 pkc3 pkc4); obtain ⟨⟨pkc0, pkc1, pkc2, pkc3, pkc4⟩, -⟩ := kc.five))
      go_ret2
      exact ⟨rfl, bc⟩
    | true =>
      dsimp only [vM, CS.cells] at *
      obtain ⟨kb, kc, bc⟩ := bx2 w #[.int .i64 N, .int .i64 S, .int .i64 G, .int .i64 W, .int .i64 D, .int .i64 L, .slice Ac nc cc, .slice As ns cs] #[.int .i64 T, .int .i64 P, .int .i64 Mo, .int .i64 Nx, .int .i64 Me] 25 27
      go_enter Try.func8, Try.ntmps8
      go_wp2_with (first
        | (go_at_call 23; with_reducible refine (H1.out _ bc).mono ?_; rintro e w1 ⟨rfl, hC⟩; dsimp only; replace kb := kb.on hC; replace kc := kc.on hC; replace bc := bc.trans (hC.mono bc.size); clear hC; (try clear pkb0 pkb1 pkb2 pkb3 pkb4 pkb5 pkb6 pkb7); obtain ⟨pkb0, pkb1, pkb2, pkb3, pkb4, pkb5, pkb6, pkb7⟩ := kb.eight; (try clear pkc0 pkc1 pkc2 pkc3 pkc4); obtain ⟨⟨pkc0, pkc1, pkc2, pkc3, pkc4⟩, -⟩ := kc.five)
        | (go_at_call 15; with_reducible refine (H2.out _ bc).mono ?_; rintro e w1 ⟨rfl, hC⟩; dsimp only; replace kb := kb.on hC; replace kc := kc.on hC; replace bc := bc.trans (hC.mono bc.size); clear hC; (try clear pkb0 pkb1 pkb2 pkb3 pkb4 pkb5 pkb6 pkb7); obtain ⟨pkb0, pkb1, pkb2, pkb3, pkb4, pkb5, pkb6, pkb7⟩ := kb.eight; (try clear pkc0 pkc1 pkc2 pkc3 pkc4); obtain ⟨⟨pkc0, pkc1, pkc2, pkc3, pkc4⟩, -⟩ := kc.five))
      go_ret2
      exact ⟨rfl, bc⟩
set_option maxRecDepth 100000 in
set_option maxHeartbeats 4000000 in
theorem take_any (m : ML) (c s : Slc) (st : CS) (k : Int) (w : World) (hM : Med w m c s) : Calls Try.prog 9 #[vM m c s, .agg st.cells, .int .i64 k] w (ResC w (takeS m st k)) := by
  have h1 := fun U (h : Below w.heap.size w U) => mocheck_any m c s st U (hM.on h)
  have h2 := fun U (h : Below w.heap.size w U) => may_any m c s st (k - 1) U (hM.on h)
  have hsn := hM.sn
  clear hM
  by_cases c1 : askedS m st = 0
  rotate_left
  · rw [take_out c1]
    have d1 := neqz c1
    generalize askedS m st = er at *
    clear c1 hsn h2
    have H1 := Lib.hid h1; clear h1
    obtain ⟨N, S, G, W, D, L, cold, ms⟩ := m
    obtain ⟨Ac, nc, cc⟩ := c
    obtain ⟨As, ns, cs⟩ := s
    obtain ⟨T, P, Mo, Nx, Me⟩ := st
    dsimp only [vM, CS.cells, zeroC, withNx] at *
    obtain ⟨kb, kc, kr, bc⟩ := bx3 w #[.int .i64 N, .int .i64 S, .int .i64 G, .int .i64 W, .int .i64 D, .int .i64 L, .slice Ac nc cc, .slice As ns cs] #[.int .i64 T, .int .i64 P, .int .i64 Mo, .int .i64 Nx, .int .i64 Me] #[.int .i64 0, .int .i64 0, .int .i64 0, .int .i64 0, .int .i64 0] 25 27 27
    go_enter Try.func9, Try.ntmps9
    go_wp2_with (first
      | (go_at_call 21; with_reducible refine (H1.out _ bc).mono ?_; rintro e w1 ⟨rfl, hC⟩; dsimp only; replace kb := kb.on hC; replace kc := kc.on hC; replace kr := kr.on hC; replace bc := bc.trans (hC.mono bc.size); clear hC; (try clear pkb0 pkb1 pkb2 pkb3 pkb4 pkb5 pkb6 pkb7); obtain ⟨pkb0, pkb1, pkb2, pkb3, pkb4, pkb5, pkb6, pkb7⟩ := kb.eight; (try clear pkc0 pkc1 pkc2 pkc3 pkc4); obtain ⟨⟨pkc0, pkc1, pkc2, pkc3, pkc4⟩, -⟩ := kc.five; (try clear pkr0 pkr1 pkr2 pkr3 pkr4); obtain ⟨⟨pkr0, pkr1, pkr2, pkr3, pkr4⟩, -⟩ := kr.five; (try clear fkc0 fkc1 fkc2 fkc3 fkc4 fkr0 fkr1 fkr2 fkr3 fkr4 zc zr); obtain ⟨-, fkc0, fkc1, fkc2, fkc3, fkc4⟩ := kc.five; obtain ⟨-, fkr0, fkr1, fkr2, fkr3, fkr4⟩ := kr.five; have zc := kc.lt; have zr := kr.lt)
      | (go_at_call 14; with_reducible refine (H2.out _ bc).mono ?_; rintro e w1 ⟨rfl, hC⟩; dsimp only; replace kb := kb.on hC; replace kc := kc.on hC; replace kr := kr.on hC; replace bc := bc.trans (hC.mono bc.size); clear hC; (try clear pkb0 pkb1 pkb2 pkb3 pkb4 pkb5 pkb6 pkb7); obtain ⟨pkb0, pkb1, pkb2, pkb3, pkb4, pkb5, pkb6, pkb7⟩ := kb.eight; (try clear pkc0 pkc1 pkc2 pkc3 pkc4); obtain ⟨⟨pkc0, pkc1, pkc2, pkc3, pkc4⟩, -⟩ := kc.five; (try clear pkr0 pkr1 pkr2 pkr3 pkr4); obtain ⟨⟨pkr0, pkr1, pkr2, pkr3, pkr4⟩, -⟩ := kr.five; (try clear fkc0 fkc1 fkc2 fkc3 fkc4 fkr0 fkr1 fkr2 fkr3 fkr4 zc zr); obtain ⟨-, fkc0, fkc1, fkc2, fkc3, fkc4⟩ := kc.five; obtain ⟨-, fkr0, fkr1, fkr2, fkr3, fkr4⟩ := kr.five; have zc := kc.lt; have zr := kr.lt))
    exact bodyPost_ret (v := .tuple #[.agg #[.int .i64 0, .int .i64 0, .int .i64 0, .int .i64 0, .int .i64 0], .int .i64 er]) (by simp [results, Try.results9, go_sem, pkr0, pkr1, pkr2, pkr3, pkr4]) rfl ⟨rfl, by repeat (first | refine Below.setCell ?_ (by dsimp only; omega) _ | exact bc)⟩
  obtain ⟨-, -, hl4, -, -, -⟩ := asked_ok c1
  by_cases c2 : k < 0 ∨ (m.ms.length : Int) < k
  · rw [take_bad c1 c2]
    rw [c1] at h1
    rw [← hsn] at c2
    clear c1 h2 hl4 hsn
    have H1 := Lib.hid h1; clear h1
    obtain ⟨N, S, G, W, D, L, cold, ms⟩ := m
    obtain ⟨Ac, nc, cc⟩ := c
    obtain ⟨As, ns, cs⟩ := s
    obtain ⟨T, P, Mo, Nx, Me⟩ := st
    dsimp only at c2
    by_cases c3 : k < 0
    · have d3 := decide_eq_true c3
      clear c2 c3
      dsimp only [vM, CS.cells, zeroC, withNx] at *
      obtain ⟨kb, kc, kr, bc⟩ := bx3 w #[.int .i64 N, .int .i64 S, .int .i64 G, .int .i64 W, .int .i64 D, .int .i64 L, .slice Ac nc cc, .slice As ns cs] #[.int .i64 T, .int .i64 P, .int .i64 Mo, .int .i64 Nx, .int .i64 Me] #[.int .i64 0, .int .i64 0, .int .i64 0, .int .i64 0, .int .i64 0] 25 27 27
      go_enter Try.func9, Try.ntmps9
      go_wp2_with (first
        | (go_at_call 21; with_reducible refine (H1.out _ bc).mono ?_; rintro e w1 ⟨rfl, hC⟩; dsimp only; replace kb := kb.on hC; replace kc := kc.on hC; replace kr := kr.on hC; replace bc := bc.trans (hC.mono bc.size); clear hC; (try clear pkb0 pkb1 pkb2 pkb3 pkb4 pkb5 pkb6 pkb7); obtain ⟨pkb0, pkb1, pkb2, pkb3, pkb4, pkb5, pkb6, pkb7⟩ := kb.eight; (try clear pkc0 pkc1 pkc2 pkc3 pkc4); obtain ⟨⟨pkc0, pkc1, pkc2, pkc3, pkc4⟩, -⟩ := kc.five; (try clear pkr0 pkr1 pkr2 pkr3 pkr4); obtain ⟨⟨pkr0, pkr1, pkr2, pkr3, pkr4⟩, -⟩ := kr.five; (try clear fkc0 fkc1 fkc2 fkc3 fkc4 fkr0 fkr1 fkr2 fkr3 fkr4 zc zr); obtain ⟨-, fkc0, fkc1, fkc2, fkc3, fkc4⟩ := kc.five; obtain ⟨-, fkr0, fkr1, fkr2, fkr3, fkr4⟩ := kr.five; have zc := kc.lt; have zr := kr.lt)
        | (go_at_call 14; with_reducible refine (H2.out _ bc).mono ?_; rintro e w1 ⟨rfl, hC⟩; dsimp only; replace kb := kb.on hC; replace kc := kc.on hC; replace kr := kr.on hC; replace bc := bc.trans (hC.mono bc.size); clear hC; (try clear pkb0 pkb1 pkb2 pkb3 pkb4 pkb5 pkb6 pkb7); obtain ⟨pkb0, pkb1, pkb2, pkb3, pkb4, pkb5, pkb6, pkb7⟩ := kb.eight; (try clear pkc0 pkc1 pkc2 pkc3 pkc4); obtain ⟨⟨pkc0, pkc1, pkc2, pkc3, pkc4⟩, -⟩ := kc.five; (try clear pkr0 pkr1 pkr2 pkr3 pkr4); obtain ⟨⟨pkr0, pkr1, pkr2, pkr3, pkr4⟩, -⟩ := kr.five; (try clear fkc0 fkc1 fkc2 fkc3 fkc4 fkr0 fkr1 fkr2 fkr3 fkr4 zc zr); obtain ⟨-, fkc0, fkc1, fkc2, fkc3, fkc4⟩ := kc.five; obtain ⟨-, fkr0, fkr1, fkr2, fkr3, fkr4⟩ := kr.five; have zc := kc.lt; have zr := kr.lt))
      exact bodyPost_ret (v := .tuple #[.agg #[.int .i64 0, .int .i64 0, .int .i64 0, .int .i64 0, .int .i64 0], .int .i64 100]) (by simp [results, Try.results9, go_sem, pkr0, pkr1, pkr2, pkr3, pkr4]) rfl ⟨rfl, by repeat (first | refine Below.setCell ?_ (by dsimp only; omega) _ | exact bc)⟩
    · have d3 := decide_eq_false c3
      have d4 : decide ((ns : Int) < k) = true := by simp; omega
      clear c2 c3
      dsimp only [vM, CS.cells, zeroC, withNx] at *
      obtain ⟨kb, kc, kr, bc⟩ := bx3 w #[.int .i64 N, .int .i64 S, .int .i64 G, .int .i64 W, .int .i64 D, .int .i64 L, .slice Ac nc cc, .slice As ns cs] #[.int .i64 T, .int .i64 P, .int .i64 Mo, .int .i64 Nx, .int .i64 Me] #[.int .i64 0, .int .i64 0, .int .i64 0, .int .i64 0, .int .i64 0] 25 27 27
      go_enter Try.func9, Try.ntmps9
      go_wp2_with (first
        | (go_at_call 21; with_reducible refine (H1.out _ bc).mono ?_; rintro e w1 ⟨rfl, hC⟩; dsimp only; replace kb := kb.on hC; replace kc := kc.on hC; replace kr := kr.on hC; replace bc := bc.trans (hC.mono bc.size); clear hC; (try clear pkb0 pkb1 pkb2 pkb3 pkb4 pkb5 pkb6 pkb7); obtain ⟨pkb0, pkb1, pkb2, pkb3, pkb4, pkb5, pkb6, pkb7⟩ := kb.eight; (try clear pkc0 pkc1 pkc2 pkc3 pkc4); obtain ⟨⟨pkc0, pkc1, pkc2, pkc3, pkc4⟩, -⟩ := kc.five; (try clear pkr0 pkr1 pkr2 pkr3 pkr4); obtain ⟨⟨pkr0, pkr1, pkr2, pkr3, pkr4⟩, -⟩ := kr.five; (try clear fkc0 fkc1 fkc2 fkc3 fkc4 fkr0 fkr1 fkr2 fkr3 fkr4 zc zr); obtain ⟨-, fkc0, fkc1, fkc2, fkc3, fkc4⟩ := kc.five; obtain ⟨-, fkr0, fkr1, fkr2, fkr3, fkr4⟩ := kr.five; have zc := kc.lt; have zr := kr.lt)
        | (go_at_call 14; with_reducible refine (H2.out _ bc).mono ?_; rintro e w1 ⟨rfl, hC⟩; dsimp only; replace kb := kb.on hC; replace kc := kc.on hC; replace kr := kr.on hC; replace bc := bc.trans (hC.mono bc.size); clear hC; (try clear pkb0 pkb1 pkb2 pkb3 pkb4 pkb5 pkb6 pkb7); obtain ⟨pkb0, pkb1, pkb2, pkb3, pkb4, pkb5, pkb6, pkb7⟩ := kb.eight; (try clear pkc0 pkc1 pkc2 pkc3 pkc4); obtain ⟨⟨pkc0, pkc1, pkc2, pkc3, pkc4⟩, -⟩ := kc.five; (try clear pkr0 pkr1 pkr2 pkr3 pkr4); obtain ⟨⟨pkr0, pkr1, pkr2, pkr3, pkr4⟩, -⟩ := kr.five; (try clear fkc0 fkc1 fkc2 fkc3 fkc4 fkr0 fkr1 fkr2 fkr3 fkr4 zc zr); obtain ⟨-, fkc0, fkc1, fkc2, fkc3, fkc4⟩ := kc.five; obtain ⟨-, fkr0, fkr1, fkr2, fkr3, fkr4⟩ := kr.five; have zc := kc.lt; have zr := kr.lt))
      exact bodyPost_ret (v := .tuple #[.agg #[.int .i64 0, .int .i64 0, .int .i64 0, .int .i64 0, .int .i64 0], .int .i64 100]) (by simp [results, Try.results9, go_sem, pkr0, pkr1, pkr2, pkr3, pkr4]) rfl ⟨rfl, by repeat (first | refine Below.setCell ?_ (by dsimp only; omega) _ | exact bc)⟩
  · rw [take_in c1 c2]
    rw [c1] at h1
    have hwr : IntKind.i64.wrap (k - 1) = k - 1 := IntWalk.i64_in _ (by omega)
    have d3 : decide (k < 0) = false := by simp; omega
    have d4 : decide ((s.n : Int) < k) = false := by simp; omega
    generalize mayN m st (k - 1) = q at *
    clear c1 c2 hl4 hsn
    have H1 := Lib.hid h1; have H2 := Lib.hid h2; clear h1 h2
    obtain ⟨N, S, G, W, D, L, cold, ms⟩ := m
    obtain ⟨Ac, nc, cc⟩ := c
    obtain ⟨As, ns, cs⟩ := s
    obtain ⟨T, P, Mo, Nx, Me⟩ := st
    dsimp only at d4
    cases q with
    | false =>
      dsimp only [vM, CS.cells, zeroC, withNx] at *
      obtain ⟨kb, kc, kr, bc⟩ := bx3 w #[.int .i64 N, .int .i64 S, .int .i64 G, .int .i64 W, .int .i64 D, .int .i64 L, .slice Ac nc cc, .slice As ns cs] #[.int .i64 T, .int .i64 P, .int .i64 Mo, .int .i64 Nx, .int .i64 Me] #[.int .i64 0, .int .i64 0, .int .i64 0, .int .i64 0, .int .i64 0] 25 27 27
      go_enter Try.func9, Try.ntmps9
      go_wp2_with (first
        | (go_at_call 21; with_reducible refine (H1.out _ bc).mono ?_; rintro e w1 ⟨rfl, hC⟩; dsimp only; replace kb := kb.on hC; replace kc := kc.on hC; replace kr := kr.on hC; replace bc := bc.trans (hC.mono bc.size); clear hC; (try clear pkb0 pkb1 pkb2 pkb3 pkb4 pkb5 pkb6 pkb7); obtain ⟨pkb0, pkb1, pkb2, pkb3, pkb4, pkb5, pkb6, pkb7⟩ := kb.eight; (try clear pkc0 pkc1 pkc2 pkc3 pkc4); obtain ⟨⟨pkc0, pkc1, pkc2, pkc3, pkc4⟩, -⟩ := kc.five; (try clear pkr0 pkr1 pkr2 pkr3 pkr4); obtain ⟨⟨pkr0, pkr1, pkr2, pkr3, pkr4⟩, -⟩ := kr.five; (try clear fkc0 fkc1 fkc2 fkc3 fkc4 fkr0 fkr1 fkr2 fkr3 fkr4 zc zr); obtain ⟨-, fkc0, fkc1, fkc2, fkc3, fkc4⟩ := kc.five; obtain ⟨-, fkr0, fkr1, fkr2, fkr3, fkr4⟩ := kr.five; have zc := kc.lt; have zr := kr.lt)
        | (go_at_call 14; with_reducible refine (H2.out _ bc).mono ?_; rintro e w1 ⟨rfl, hC⟩; dsimp only; replace kb := kb.on hC; replace kc := kc.on hC; replace kr := kr.on hC; replace bc := bc.trans (hC.mono bc.size); clear hC; (try clear pkb0 pkb1 pkb2 pkb3 pkb4 pkb5 pkb6 pkb7); obtain ⟨pkb0, pkb1, pkb2, pkb3, pkb4, pkb5, pkb6, pkb7⟩ := kb.eight; (try clear pkc0 pkc1 pkc2 pkc3 pkc4); obtain ⟨⟨pkc0, pkc1, pkc2, pkc3, pkc4⟩, -⟩ := kc.five; (try clear pkr0 pkr1 pkr2 pkr3 pkr4); obtain ⟨⟨pkr0, pkr1, pkr2, pkr3, pkr4⟩, -⟩ := kr.five; (try clear fkc0 fkc1 fkc2 fkc3 fkc4 fkr0 fkr1 fkr2 fkr3 fkr4 zc zr); obtain ⟨-, fkc0, fkc1, fkc2, fkc3, fkc4⟩ := kc.five; obtain ⟨-, fkr0, fkr1, fkr2, fkr3, fkr4⟩ := kr.five; have zc := kc.lt; have zr := kr.lt))
      exact bodyPost_ret (v := .tuple #[.agg #[.int .i64 T, .int .i64 P, .int .i64 Mo, .int .i64 Nx, .int .i64 Me], .int .i64 0]) (by simp [results, Try.results9, go_sem, pkr0, pkr1, pkr2, pkr3, pkr4]) rfl ⟨rfl, by repeat (first | refine Below.setCell ?_ (by dsimp only; omega) _ | exact bc)⟩
    | true =>
      dsimp only [vM, CS.cells, zeroC, withNx] at *
      obtain ⟨kb, kc, kr, bc⟩ := bx3 w #[.int .i64 N, .int .i64 S, .int .i64 G, .int .i64 W, .int .i64 D, .int .i64 L, .slice Ac nc cc, .slice As ns cs] #[.int .i64 T, .int .i64 P, .int .i64 Mo, .int .i64 Nx, .int .i64 Me] #[.int .i64 0, .int .i64 0, .int .i64 0, .int .i64 0, .int .i64 0] 25 27 27
      go_enter Try.func9, Try.ntmps9
      go_wp2_with (first
        | (go_at_call 21; with_reducible refine (H1.out _ bc).mono ?_; rintro e w1 ⟨rfl, hC⟩; dsimp only; replace kb := kb.on hC; replace kc := kc.on hC; replace kr := kr.on hC; replace bc := bc.trans (hC.mono bc.size); clear hC; (try clear pkb0 pkb1 pkb2 pkb3 pkb4 pkb5 pkb6 pkb7); obtain ⟨pkb0, pkb1, pkb2, pkb3, pkb4, pkb5, pkb6, pkb7⟩ := kb.eight; (try clear pkc0 pkc1 pkc2 pkc3 pkc4); obtain ⟨⟨pkc0, pkc1, pkc2, pkc3, pkc4⟩, -⟩ := kc.five; (try clear pkr0 pkr1 pkr2 pkr3 pkr4); obtain ⟨⟨pkr0, pkr1, pkr2, pkr3, pkr4⟩, -⟩ := kr.five; (try clear fkc0 fkc1 fkc2 fkc3 fkc4 fkr0 fkr1 fkr2 fkr3 fkr4 zc zr); obtain ⟨-, fkc0, fkc1, fkc2, fkc3, fkc4⟩ := kc.five; obtain ⟨-, fkr0, fkr1, fkr2, fkr3, fkr4⟩ := kr.five; have zc := kc.lt; have zr := kr.lt)
        | (go_at_call 14; with_reducible refine (H2.out _ bc).mono ?_; rintro e w1 ⟨rfl, hC⟩; dsimp only; replace kb := kb.on hC; replace kc := kc.on hC; replace kr := kr.on hC; replace bc := bc.trans (hC.mono bc.size); clear hC; (try clear pkb0 pkb1 pkb2 pkb3 pkb4 pkb5 pkb6 pkb7); obtain ⟨pkb0, pkb1, pkb2, pkb3, pkb4, pkb5, pkb6, pkb7⟩ := kb.eight; (try clear pkc0 pkc1 pkc2 pkc3 pkc4); obtain ⟨⟨pkc0, pkc1, pkc2, pkc3, pkc4⟩, -⟩ := kc.five; (try clear pkr0 pkr1 pkr2 pkr3 pkr4); obtain ⟨⟨pkr0, pkr1, pkr2, pkr3, pkr4⟩, -⟩ := kr.five; (try clear fkc0 fkc1 fkc2 fkc3 fkc4 fkr0 fkr1 fkr2 fkr3 fkr4 zc zr); obtain ⟨-, fkc0, fkc1, fkc2, fkc3, fkc4⟩ := kc.five; obtain ⟨-, fkr0, fkr1, fkr2, fkr3, fkr4⟩ := kr.five; have zc := kc.lt; have zr := kr.lt))
      exact bodyPost_ret (v := .tuple #[.agg #[.int .i64 T, .int .i64 P, .int .i64 Mo, .int .i64 k, .int .i64 Me], .int .i64 0]) (by simp [results, Try.results9, go_sem, pkr0, pkr1, pkr2, pkr3, pkr4]) rfl ⟨rfl, by repeat (first | refine Below.setCell ?_ (by dsimp only; omega) _ | exact bc)⟩
set_option maxRecDepth 100000 in
set_option maxHeartbeats 4000000 in
theorem rtake_any (m : ML) (c s : Slc) (st : CS) (k : Int) (w : World) (hM : Med w m c s) : Calls Try.prog 10 #[vM m c s, .agg st.cells, .int .i64 k] w (ResC w (takeS m st k)) := by
  have h1 := fun U (h : Below w.heap.size w U) => rasked_any m c s st U (hM.on h)
  have h2 := fun U (h : Below w.heap.size w U) => rmay_any m c s st (k - 1) U (hM.on h)
  have hsn := hM.sn
  clear hM
  by_cases c1 : askedS m st = 0
  rotate_left
  · rw [take_out c1]
    have d1 := neqz c1
    generalize askedS m st = er at *
    clear c1 hsn h2
    have H1 := Lib.hid h1; clear h1
    obtain ⟨N, S, G, W, D, L, cold, ms⟩ := m
    obtain ⟨Ac, nc, cc⟩ := c
    obtain ⟨As, ns, cs⟩ := s
    obtain ⟨T, P, Mo, Nx, Me⟩ := st
    dsimp only [vM, CS.cells, zeroC, withNx] at *
    obtain ⟨kb, kc, kr, bc⟩ := bx3 w #[.int .i64 N, .int .i64 S, .int .i64 G, .int .i64 W, .int .i64 D, .int .i64 L, .slice Ac nc cc, .slice As ns cs] #[.int .i64 T, .int .i64 P, .int .i64 Mo, .int .i64 Nx, .int .i64 Me] #[.int .i64 0, .int .i64 0, .int .i64 0, .int .i64 0, .int .i64 0] 25 27 27
    go_enter Try.func10, Try.ntmps10
    go_wp2_with (first
      | (go_at_call 23; with_reducible refine (H1.out _ bc).mono ?_; rintro e w1 ⟨rfl, hC⟩; dsimp only; replace kb := kb.on hC; replace kc := kc.on hC; replace kr := kr.on hC; replace bc := bc.trans (hC.mono bc.size); clear hC; (try clear pkb0 pkb1 pkb2 pkb3 pkb4 pkb5 pkb6 pkb7); obtain ⟨pkb0, pkb1, pkb2, pkb3, pkb4, pkb5, pkb6, pkb7⟩ := kb.eight; (try clear pkc0 pkc1 pkc2 pkc3 pkc4); obtain ⟨⟨pkc0, pkc1, pkc2, pkc3, pkc4⟩, -⟩ := kc.five; (try clear pkr0 pkr1 pkr2 pkr3 pkr4); obtain ⟨⟨pkr0, pkr1, pkr2, pkr3, pkr4⟩, -⟩ := kr.five; (try clear fkc0 fkc1 fkc2 fkc3 fkc4 fkr0 fkr1 fkr2 fkr3 fkr4 zc zr); obtain ⟨-, fkc0, fkc1, fkc2, fkc3, fkc4⟩ := kc.five; obtain ⟨-, fkr0, fkr1, fkr2, fkr3, fkr4⟩ := kr.five; have zc := kc.lt; have zr := kr.lt)
      | (go_at_call 15; with_reducible refine (H2.out _ bc).mono ?_; rintro e w1 ⟨rfl, hC⟩; dsimp only; replace kb := kb.on hC; replace kc := kc.on hC; replace kr := kr.on hC; replace bc := bc.trans (hC.mono bc.size); clear hC; (try clear pkb0 pkb1 pkb2 pkb3 pkb4 pkb5 pkb6 pkb7); obtain ⟨pkb0, pkb1, pkb2, pkb3, pkb4, pkb5, pkb6, pkb7⟩ := kb.eight; (try clear pkc0 pkc1 pkc2 pkc3 pkc4); obtain ⟨⟨pkc0, pkc1, pkc2, pkc3, pkc4⟩, -⟩ := kc.five; (try clear pkr0 pkr1 pkr2 pkr3 pkr4); obtain ⟨⟨pkr0, pkr1, pkr2, pkr3, pkr4⟩, -⟩ := kr.five; (try clear fkc0 fkc1 fkc2 fkc3 fkc4 fkr0 fkr1 fkr2 fkr3 fkr4 zc zr); obtain ⟨-, fkc0, fkc1, fkc2, fkc3, fkc4⟩ := kc.five; obtain ⟨-, fkr0, fkr1, fkr2, fkr3, fkr4⟩ := kr.five; have zc := kc.lt; have zr := kr.lt))
    exact bodyPost_ret (v := .tuple #[.agg #[.int .i64 0, .int .i64 0, .int .i64 0, .int .i64 0, .int .i64 0], .int .i64 er]) (by simp [results, Try.results10, go_sem, pkr0, pkr1, pkr2, pkr3, pkr4]) rfl ⟨rfl, by repeat (first | refine Below.setCell ?_ (by dsimp only; omega) _ | exact bc)⟩
  obtain ⟨-, -, hl4, -, -, -⟩ := asked_ok c1
  by_cases c2 : k < 0 ∨ (m.ms.length : Int) < k
  · rw [take_bad c1 c2]
    rw [c1] at h1
    rw [← hsn] at c2
    clear c1 h2 hl4 hsn
    have H1 := Lib.hid h1; clear h1
    obtain ⟨N, S, G, W, D, L, cold, ms⟩ := m
    obtain ⟨Ac, nc, cc⟩ := c
    obtain ⟨As, ns, cs⟩ := s
    obtain ⟨T, P, Mo, Nx, Me⟩ := st
    dsimp only at c2
    by_cases c3 : k < 0
    · have d3 := decide_eq_true c3
      clear c2 c3
      dsimp only [vM, CS.cells, zeroC, withNx] at *
      obtain ⟨kb, kc, kr, bc⟩ := bx3 w #[.int .i64 N, .int .i64 S, .int .i64 G, .int .i64 W, .int .i64 D, .int .i64 L, .slice Ac nc cc, .slice As ns cs] #[.int .i64 T, .int .i64 P, .int .i64 Mo, .int .i64 Nx, .int .i64 Me] #[.int .i64 0, .int .i64 0, .int .i64 0, .int .i64 0, .int .i64 0] 25 27 27
      go_enter Try.func10, Try.ntmps10
      go_wp2_with (first
        | (go_at_call 23; with_reducible refine (H1.out _ bc).mono ?_; rintro e w1 ⟨rfl, hC⟩; dsimp only; replace kb := kb.on hC; replace kc := kc.on hC; replace kr := kr.on hC; replace bc := bc.trans (hC.mono bc.size); clear hC; (try clear pkb0 pkb1 pkb2 pkb3 pkb4 pkb5 pkb6 pkb7); obtain ⟨pkb0, pkb1, pkb2, pkb3, pkb4, pkb5, pkb6, pkb7⟩ := kb.eight; (try clear pkc0 pkc1 pkc2 pkc3 pkc4); obtain ⟨⟨pkc0, pkc1, pkc2, pkc3, pkc4⟩, -⟩ := kc.five; (try clear pkr0 pkr1 pkr2 pkr3 pkr4); obtain ⟨⟨pkr0, pkr1, pkr2, pkr3, pkr4⟩, -⟩ := kr.five; (try clear fkc0 fkc1 fkc2 fkc3 fkc4 fkr0 fkr1 fkr2 fkr3 fkr4 zc zr); obtain ⟨-, fkc0, fkc1, fkc2, fkc3, fkc4⟩ := kc.five; obtain ⟨-, fkr0, fkr1, fkr2, fkr3, fkr4⟩ := kr.five; have zc := kc.lt; have zr := kr.lt)
        | (go_at_call 15; with_reducible refine (H2.out _ bc).mono ?_; rintro e w1 ⟨rfl, hC⟩; dsimp only; replace kb := kb.on hC; replace kc := kc.on hC; replace kr := kr.on hC; replace bc := bc.trans (hC.mono bc.size); clear hC; (try clear pkb0 pkb1 pkb2 pkb3 pkb4 pkb5 pkb6 pkb7); obtain ⟨pkb0, pkb1, pkb2, pkb3, pkb4, pkb5, pkb6, pkb7⟩ := kb.eight; (try clear pkc0 pkc1 pkc2 pkc3 pkc4); obtain ⟨⟨pkc0, pkc1, pkc2, pkc3, pkc4⟩, -⟩ := kc.five; (try clear pkr0 pkr1 pkr2 pkr3 pkr4); obtain ⟨⟨pkr0, pkr1, pkr2, pkr3, pkr4⟩, -⟩ := kr.five; (try clear fkc0 fkc1 fkc2 fkc3 fkc4 fkr0 fkr1 fkr2 fkr3 fkr4 zc zr); obtain ⟨-, fkc0, fkc1, fkc2, fkc3, fkc4⟩ := kc.five; obtain ⟨-, fkr0, fkr1, fkr2, fkr3, fkr4⟩ := kr.five; have zc := kc.lt; have zr := kr.lt))
      exact bodyPost_ret (v := .tuple #[.agg #[.int .i64 0, .int .i64 0, .int .i64 0, .int .i64 0, .int .i64 0], .int .i64 100]) (by simp [results, Try.results10, go_sem, pkr0, pkr1, pkr2, pkr3, pkr4]) rfl ⟨rfl, by repeat (first | refine Below.setCell ?_ (by dsimp only; omega) _ | exact bc)⟩
    · have d3 := decide_eq_false c3
      have d4 : decide ((ns : Int) < k) = true := by simp; omega
      clear c2 c3
      dsimp only [vM, CS.cells, zeroC, withNx] at *
      obtain ⟨kb, kc, kr, bc⟩ := bx3 w #[.int .i64 N, .int .i64 S, .int .i64 G, .int .i64 W, .int .i64 D, .int .i64 L, .slice Ac nc cc, .slice As ns cs] #[.int .i64 T, .int .i64 P, .int .i64 Mo, .int .i64 Nx, .int .i64 Me] #[.int .i64 0, .int .i64 0, .int .i64 0, .int .i64 0, .int .i64 0] 25 27 27
      go_enter Try.func10, Try.ntmps10
      go_wp2_with (first
        | (go_at_call 23; with_reducible refine (H1.out _ bc).mono ?_; rintro e w1 ⟨rfl, hC⟩; dsimp only; replace kb := kb.on hC; replace kc := kc.on hC; replace kr := kr.on hC; replace bc := bc.trans (hC.mono bc.size); clear hC; (try clear pkb0 pkb1 pkb2 pkb3 pkb4 pkb5 pkb6 pkb7); obtain ⟨pkb0, pkb1, pkb2, pkb3, pkb4, pkb5, pkb6, pkb7⟩ := kb.eight; (try clear pkc0 pkc1 pkc2 pkc3 pkc4); obtain ⟨⟨pkc0, pkc1, pkc2, pkc3, pkc4⟩, -⟩ := kc.five; (try clear pkr0 pkr1 pkr2 pkr3 pkr4); obtain ⟨⟨pkr0, pkr1, pkr2, pkr3, pkr4⟩, -⟩ := kr.five; (try clear fkc0 fkc1 fkc2 fkc3 fkc4 fkr0 fkr1 fkr2 fkr3 fkr4 zc zr); obtain ⟨-, fkc0, fkc1, fkc2, fkc3, fkc4⟩ := kc.five; obtain ⟨-, fkr0, fkr1, fkr2, fkr3, fkr4⟩ := kr.five; have zc := kc.lt; have zr := kr.lt)
        | (go_at_call 15; with_reducible refine (H2.out _ bc).mono ?_; rintro e w1 ⟨rfl, hC⟩; dsimp only; replace kb := kb.on hC; replace kc := kc.on hC; replace kr := kr.on hC; replace bc := bc.trans (hC.mono bc.size); clear hC; (try clear pkb0 pkb1 pkb2 pkb3 pkb4 pkb5 pkb6 pkb7); obtain ⟨pkb0, pkb1, pkb2, pkb3, pkb4, pkb5, pkb6, pkb7⟩ := kb.eight; (try clear pkc0 pkc1 pkc2 pkc3 pkc4); obtain ⟨⟨pkc0, pkc1, pkc2, pkc3, pkc4⟩, -⟩ := kc.five; (try clear pkr0 pkr1 pkr2 pkr3 pkr4); obtain ⟨⟨pkr0, pkr1, pkr2, pkr3, pkr4⟩, -⟩ := kr.five; (try clear fkc0 fkc1 fkc2 fkc3 fkc4 fkr0 fkr1 fkr2 fkr3 fkr4 zc zr); obtain ⟨-, fkc0, fkc1, fkc2, fkc3, fkc4⟩ := kc.five; obtain ⟨-, fkr0, fkr1, fkr2, fkr3, fkr4⟩ := kr.five; have zc := kc.lt; have zr := kr.lt))
      exact bodyPost_ret (v := .tuple #[.agg #[.int .i64 0, .int .i64 0, .int .i64 0, .int .i64 0, .int .i64 0], .int .i64 100]) (by simp [results, Try.results10, go_sem, pkr0, pkr1, pkr2, pkr3, pkr4]) rfl ⟨rfl, by repeat (first | refine Below.setCell ?_ (by dsimp only; omega) _ | exact bc)⟩
  · rw [take_in c1 c2]
    rw [c1] at h1
    have hwr : IntKind.i64.wrap (k - 1) = k - 1 := IntWalk.i64_in _ (by omega)
    have d3 : decide (k < 0) = false := by simp; omega
    have d4 : decide ((s.n : Int) < k) = false := by simp; omega
    by_cases c5 : 0 < k
    rotate_left
    · have d5 := decide_eq_false c5
      rw [if_neg (by rw [may_no (fun h => c5 (by have := h.2.1.1; omega))]; decide)]
      clear c1 c2 hl4 hsn h2 c5
      have H1 := Lib.hid h1; clear h1
      obtain ⟨N, S, G, W, D, L, cold, ms⟩ := m
      obtain ⟨Ac, nc, cc⟩ := c
      obtain ⟨As, ns, cs⟩ := s
      obtain ⟨T, P, Mo, Nx, Me⟩ := st
      dsimp only at d4
      dsimp only [vM, CS.cells, zeroC, withNx] at *
      obtain ⟨kb, kc, kr, bc⟩ := bx3 w #[.int .i64 N, .int .i64 S, .int .i64 G, .int .i64 W, .int .i64 D, .int .i64 L, .slice Ac nc cc, .slice As ns cs] #[.int .i64 T, .int .i64 P, .int .i64 Mo, .int .i64 Nx, .int .i64 Me] #[.int .i64 0, .int .i64 0, .int .i64 0, .int .i64 0, .int .i64 0] 25 27 27
      go_enter Try.func10, Try.ntmps10
      go_wp2_with (first
        | (go_at_call 23; with_reducible refine (H1.out _ bc).mono ?_; rintro e w1 ⟨rfl, hC⟩; dsimp only; replace kb := kb.on hC; replace kc := kc.on hC; replace kr := kr.on hC; replace bc := bc.trans (hC.mono bc.size); clear hC; (try clear pkb0 pkb1 pkb2 pkb3 pkb4 pkb5 pkb6 pkb7); obtain ⟨pkb0, pkb1, pkb2, pkb3, pkb4, pkb5, pkb6, pkb7⟩ := kb.eight; (try clear pkc0 pkc1 pkc2 pkc3 pkc4); obtain ⟨⟨pkc0, pkc1, pkc2, pkc3, pkc4⟩, -⟩ := kc.five; (try clear pkr0 pkr1 pkr2 pkr3 pkr4); obtain ⟨⟨pkr0, pkr1, pkr2, pkr3, pkr4⟩, -⟩ := kr.five; (try clear fkc0 fkc1 fkc2 fkc3 fkc4 fkr0 fkr1 fkr2 fkr3 fkr4 zc zr); obtain ⟨-, fkc0, fkc1, fkc2, fkc3, fkc4⟩ := kc.five; obtain ⟨-, fkr0, fkr1, fkr2, fkr3, fkr4⟩ := kr.five; have zc := kc.lt; have zr := kr.lt)
        | (go_at_call 15; with_reducible refine (H2.out _ bc).mono ?_; rintro e w1 ⟨rfl, hC⟩; dsimp only; replace kb := kb.on hC; replace kc := kc.on hC; replace kr := kr.on hC; replace bc := bc.trans (hC.mono bc.size); clear hC; (try clear pkb0 pkb1 pkb2 pkb3 pkb4 pkb5 pkb6 pkb7); obtain ⟨pkb0, pkb1, pkb2, pkb3, pkb4, pkb5, pkb6, pkb7⟩ := kb.eight; (try clear pkc0 pkc1 pkc2 pkc3 pkc4); obtain ⟨⟨pkc0, pkc1, pkc2, pkc3, pkc4⟩, -⟩ := kc.five; (try clear pkr0 pkr1 pkr2 pkr3 pkr4); obtain ⟨⟨pkr0, pkr1, pkr2, pkr3, pkr4⟩, -⟩ := kr.five; (try clear fkc0 fkc1 fkc2 fkc3 fkc4 fkr0 fkr1 fkr2 fkr3 fkr4 zc zr); obtain ⟨-, fkc0, fkc1, fkc2, fkc3, fkc4⟩ := kc.five; obtain ⟨-, fkr0, fkr1, fkr2, fkr3, fkr4⟩ := kr.five; have zc := kc.lt; have zr := kr.lt))
      exact bodyPost_ret (v := .tuple #[.agg #[.int .i64 T, .int .i64 P, .int .i64 Mo, .int .i64 Nx, .int .i64 Me], .int .i64 0]) (by simp [results, Try.results10, go_sem, pkr0, pkr1, pkr2, pkr3, pkr4]) rfl ⟨rfl, by repeat (first | refine Below.setCell ?_ (by dsimp only; omega) _ | exact bc)⟩
    have d5 := decide_eq_true c5
    clear c5
    generalize mayN m st (k - 1) = q at *
    clear c1 c2 hl4 hsn
    have H1 := Lib.hid h1; have H2 := Lib.hid h2; clear h1 h2
    obtain ⟨N, S, G, W, D, L, cold, ms⟩ := m
    obtain ⟨Ac, nc, cc⟩ := c
    obtain ⟨As, ns, cs⟩ := s
    obtain ⟨T, P, Mo, Nx, Me⟩ := st
    dsimp only at d4
    cases q with
    | false =>
      dsimp only [vM, CS.cells, zeroC, withNx] at *
      obtain ⟨kb, kc, kr, bc⟩ := bx3 w #[.int .i64 N, .int .i64 S, .int .i64 G, .int .i64 W, .int .i64 D, .int .i64 L, .slice Ac nc cc, .slice As ns cs] #[.int .i64 T, .int .i64 P, .int .i64 Mo, .int .i64 Nx, .int .i64 Me] #[.int .i64 0, .int .i64 0, .int .i64 0, .int .i64 0, .int .i64 0] 25 27 27
      go_enter Try.func10, Try.ntmps10
      go_wp2_with (first
        | (go_at_call 23; with_reducible refine (H1.out _ bc).mono ?_; rintro e w1 ⟨rfl, hC⟩; dsimp only; replace kb := kb.on hC; replace kc := kc.on hC; replace kr := kr.on hC; replace bc := bc.trans (hC.mono bc.size); clear hC; (try clear pkb0 pkb1 pkb2 pkb3 pkb4 pkb5 pkb6 pkb7); obtain ⟨pkb0, pkb1, pkb2, pkb3, pkb4, pkb5, pkb6, pkb7⟩ := kb.eight; (try clear pkc0 pkc1 pkc2 pkc3 pkc4); obtain ⟨⟨pkc0, pkc1, pkc2, pkc3, pkc4⟩, -⟩ := kc.five; (try clear pkr0 pkr1 pkr2 pkr3 pkr4); obtain ⟨⟨pkr0, pkr1, pkr2, pkr3, pkr4⟩, -⟩ := kr.five; (try clear fkc0 fkc1 fkc2 fkc3 fkc4 fkr0 fkr1 fkr2 fkr3 fkr4 zc zr); obtain ⟨-, fkc0, fkc1, fkc2, fkc3, fkc4⟩ := kc.five; obtain ⟨-, fkr0, fkr1, fkr2, fkr3, fkr4⟩ := kr.five; have zc := kc.lt; have zr := kr.lt)
        | (go_at_call 15; with_reducible refine (H2.out _ bc).mono ?_; rintro e w1 ⟨rfl, hC⟩; dsimp only; replace kb := kb.on hC; replace kc := kc.on hC; replace kr := kr.on hC; replace bc := bc.trans (hC.mono bc.size); clear hC; (try clear pkb0 pkb1 pkb2 pkb3 pkb4 pkb5 pkb6 pkb7); obtain ⟨pkb0, pkb1, pkb2, pkb3, pkb4, pkb5, pkb6, pkb7⟩ := kb.eight; (try clear pkc0 pkc1 pkc2 pkc3 pkc4); obtain ⟨⟨pkc0, pkc1, pkc2, pkc3, pkc4⟩, -⟩ := kc.five; (try clear pkr0 pkr1 pkr2 pkr3 pkr4); obtain ⟨⟨pkr0, pkr1, pkr2, pkr3, pkr4⟩, -⟩ := kr.five; (try clear fkc0 fkc1 fkc2 fkc3 fkc4 fkr0 fkr1 fkr2 fkr3 fkr4 zc zr); obtain ⟨-, fkc0, fkc1, fkc2, fkc3, fkc4⟩ := kc.five; obtain ⟨-, fkr0, fkr1, fkr2, fkr3, fkr4⟩ := kr.five; have zc := kc.lt; have zr := kr.lt))
      exact bodyPost_ret (v := .tuple #[.agg #[.int .i64 T, .int .i64 P, .int .i64 Mo, .int .i64 Nx, .int .i64 Me], .int .i64 0]) (by simp [results, Try.results10, go_sem, pkr0, pkr1, pkr2, pkr3, pkr4]) rfl ⟨rfl, by repeat (first | refine Below.setCell ?_ (by dsimp only; omega) _ | exact bc)⟩
    | true =>
      dsimp only [vM, CS.cells, zeroC, withNx] at *
      obtain ⟨kb, kc, kr, bc⟩ := bx3 w #[.int .i64 N, .int .i64 S, .int .i64 G, .int .i64 W, .int .i64 D, .int .i64 L, .slice Ac nc cc, .slice As ns cs] #[.int .i64 T, .int .i64 P, .int .i64 Mo, .int .i64 Nx, .int .i64 Me] #[.int .i64 0, .int .i64 0, .int .i64 0, .int .i64 0, .int .i64 0] 25 27 27
      go_enter Try.func10, Try.ntmps10
      go_wp2_with (first
        | (go_at_call 23; with_reducible refine (H1.out _ bc).mono ?_; rintro e w1 ⟨rfl, hC⟩; dsimp only; replace kb := kb.on hC; replace kc := kc.on hC; replace kr := kr.on hC; replace bc := bc.trans (hC.mono bc.size); clear hC; (try clear pkb0 pkb1 pkb2 pkb3 pkb4 pkb5 pkb6 pkb7); obtain ⟨pkb0, pkb1, pkb2, pkb3, pkb4, pkb5, pkb6, pkb7⟩ := kb.eight; (try clear pkc0 pkc1 pkc2 pkc3 pkc4); obtain ⟨⟨pkc0, pkc1, pkc2, pkc3, pkc4⟩, -⟩ := kc.five; (try clear pkr0 pkr1 pkr2 pkr3 pkr4); obtain ⟨⟨pkr0, pkr1, pkr2, pkr3, pkr4⟩, -⟩ := kr.five; (try clear fkc0 fkc1 fkc2 fkc3 fkc4 fkr0 fkr1 fkr2 fkr3 fkr4 zc zr); obtain ⟨-, fkc0, fkc1, fkc2, fkc3, fkc4⟩ := kc.five; obtain ⟨-, fkr0, fkr1, fkr2, fkr3, fkr4⟩ := kr.five; have zc := kc.lt; have zr := kr.lt)
        | (go_at_call 15; with_reducible refine (H2.out _ bc).mono ?_; rintro e w1 ⟨rfl, hC⟩; dsimp only; replace kb := kb.on hC; replace kc := kc.on hC; replace kr := kr.on hC; replace bc := bc.trans (hC.mono bc.size); clear hC; (try clear pkb0 pkb1 pkb2 pkb3 pkb4 pkb5 pkb6 pkb7); obtain ⟨pkb0, pkb1, pkb2, pkb3, pkb4, pkb5, pkb6, pkb7⟩ := kb.eight; (try clear pkc0 pkc1 pkc2 pkc3 pkc4); obtain ⟨⟨pkc0, pkc1, pkc2, pkc3, pkc4⟩, -⟩ := kc.five; (try clear pkr0 pkr1 pkr2 pkr3 pkr4); obtain ⟨⟨pkr0, pkr1, pkr2, pkr3, pkr4⟩, -⟩ := kr.five; (try clear fkc0 fkc1 fkc2 fkc3 fkc4 fkr0 fkr1 fkr2 fkr3 fkr4 zc zr); obtain ⟨-, fkc0, fkc1, fkc2, fkc3, fkc4⟩ := kc.five; obtain ⟨-, fkr0, fkr1, fkr2, fkr3, fkr4⟩ := kr.five; have zc := kc.lt; have zr := kr.lt))
      exact bodyPost_ret (v := .tuple #[.agg #[.int .i64 T, .int .i64 P, .int .i64 Mo, .int .i64 k, .int .i64 Me], .int .i64 0]) (by simp [results, Try.results10, go_sem, pkr0, pkr1, pkr2, pkr3, pkr4]) rfl ⟨rfl, by repeat (first | refine Below.setCell ?_ (by dsimp only; omega) _ | exact bc)⟩
end Go.Proofs.Ytaooonajfdbfhaa
