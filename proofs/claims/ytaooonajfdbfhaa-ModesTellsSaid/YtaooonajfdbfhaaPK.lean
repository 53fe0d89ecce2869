/-
  The statement that where no mode may come next nothing is asked for, and nothing taken. Condition: a list that can be read. (Printed by tools/gen10k.py.)
-/
import Derived.Test.YtaooonajfdbfhaaQB
namespace Go.Proofs.Ytaooonajfdbfhaa
open Go.RowKit

theorem take_nexts (m : ML) (st : CS) (n : Nat) (h : 4 ≤ n) : (upB (mayB m st) 4).take n = nextsS m st := List.take_of_length_le (Nat.le_trans (mayTo_length m st 4) h)
theorem told9_any (gf : Nat) (lb : Array Value) (m : ML) (st : CS) (w : World)
    (hent : ∀ args w, (callFunc gf args).run Try.prog w = .ok (.enter gf args) w) (htells : ∀ w'', Below w.heap.size w w'' → ∀ n, 1 ≤ n → TellsB n gf lb (mayB m st) w'') :
    Calls Try.prog 18 #[.func (.func gf) #[] lb, .int .i64 9] w fun e w' => ∃ A c, e = .returned (.slice A (nextsS m st).length c) ∧ Below w.heap.size w w' := by
  refine (told10_any gf lb 9 (mayB m st) w (by omega) hent htells).mono ?_
  rintro e w' ⟨v, rfl, hrow, hC⟩
  rw [take_nexts m st 9 (by omega)] at hrow
  obtain ⟨A, c, rfl, -⟩ := ints_ownN hrow
  exact ⟨A, c, rfl, hC⟩
theorem ask_none {m : ML} {st : CS} (h : nextsS m st = []) (n : Int) : ∃ er, askS m st n = (er, 0) := by
  unfold askS
  split
  · split
    · exact ⟨_, rfl⟩
    · rw [if_neg (by rw [nexts_nil h]; decide)]; exact ⟨_, rfl⟩
  · exact ⟨_, rfl⟩
theorem take_none {m : ML} {st : CS} (h : nextsS m st = []) (n : Int) : (∃ er x, er ≠ 0 ∧ takeS m st n = (er, x)) ∨ takeS m st n = (0, st) := by
  unfold takeS
  split
  · split
    · exact .inl ⟨_, _, by decide, rfl⟩
    · rw [if_neg (by rw [nexts_nil h]; decide)]; exact .inr rfl
  · rename_i hn; exact .inl ⟨_, _, hn, rfl⟩

set_option maxRecDepth 100000 in
set_option maxHeartbeats 4000000 in
theorem none_law (m : ML) (c s : Slc) (st : CS) (n : Int) (w : World) (hM : Med w m c s) : Calls Try.prog 6 #[vM m c s, .agg st.cells, .int .i64 n] w fun e w' => e = .returned (.bool true) ∧ Below w.heap.size w w' := by
  have hn := fun U (h : Below w.heap.size w U) => nexts_any m c s st U (hM.on h)
  have hto := fun gf lb U h1 h2 => told9_any gf lb m st U h1 h2
  have ha := fun U (h : Below w.heap.size w U) => ask_any m c s st n U (hM.on h)
  have ht := fun U (h : Below w.heap.size w U) => take_any m c s st n U (hM.on h)
  have hnone := fun h => ask_none (m := m) (st := st) h n
  have htnone := fun h => take_none (m := m) (st := st) h n
  unfold ResK at ha
  unfold ResC at ht
  unfold NextsGives at hn
  clear hM
  generalize nextsS m st = ln at *
  generalize askS m st n = ra at *
  generalize takeS m st n = rt at *
  generalize mayB m st = bs at *
  obtain ⟨N, S, G, W, D, L, cold, ms⟩ := m
  obtain ⟨Ac, nc, cc⟩ := c
  obtain ⟨As, ns, cs⟩ := s
  obtain ⟨T, P, Mo, Nx, Me⟩ := st
  dsimp only [vM, CS.cells] at *
  by_cases c20 : 20 < ns
  · have d20 : decide (20 < (ns : Int)) = true := by simp; omega
    clear hn hto ha ht hnone htnone
    obtain ⟨kb, kc, bc⟩ := bx2 w #[.int .i64 N, .int .i64 S, .int .i64 G, .int .i64 W, .int .i64 D, .int .i64 L, .slice Ac nc cc, .slice As ns cs] #[.int .i64 T, .int .i64 P, .int .i64 Mo, .int .i64 Nx, .int .i64 Me] 25 27
    go_enter Try.func6, Try.ntmps6
    go_wp2_with (first
      | (go_at_call 13; with_reducible refine (begun10_any _).mono ?_; rintro e w1 ⟨rfl, hC⟩; dsimp only; replace kb := kb.on hC; replace kc := kc.on hC; replace bc := bc.trans (hC.mono bc.size); clear hC; (try clear pkb0 pkb1 pkb2 pkb3 pkb4 pkb5 pkb6 pkb7); obtain ⟨pkb0, pkb1, pkb2, pkb3, pkb4, pkb5, pkb6, pkb7⟩ := kb.eight; (try clear pkc0 pkc1 pkc2 pkc3 pkc4); obtain ⟨⟨pkc0, pkc1, pkc2, pkc3, pkc4⟩, -⟩ := kc.five))
    go_ret
    exact ⟨rfl, bc⟩
  have d20 : decide (20 < (ns : Int)) = false := by simp; omega
  have HN := Lib.hid hn; have HTO := Lib.hid hto; clear hn hto
  by_cases cL : ln = []
  rotate_left
  · have dL : ((ln.length : Int) != 0) = true := by
      have : ln.length ≠ 0 := fun h => cL (List.eq_nil_of_length_eq_zero h)
      simpa using cL
    clear ha ht hnone htnone cL
    obtain ⟨kb, kc, bc⟩ := bx2 w #[.int .i64 N, .int .i64 S, .int .i64 G, .int .i64 W, .int .i64 D, .int .i64 L, .slice Ac nc cc, .slice As ns cs] #[.int .i64 T, .int .i64 P, .int .i64 Mo, .int .i64 Nx, .int .i64 Me] 25 27
    go_enter Try.func6, Try.ntmps6
    go_wp2_with (first
      | (go_at_call 13; with_reducible refine (begun10_any _).mono ?_; rintro e w1 ⟨rfl, hC⟩; dsimp only; replace kb := kb.on hC; replace kc := kc.on hC; replace bc := bc.trans (hC.mono bc.size); clear hC; (try clear pkb0 pkb1 pkb2 pkb3 pkb4 pkb5 pkb6 pkb7); obtain ⟨pkb0, pkb1, pkb2, pkb3, pkb4, pkb5, pkb6, pkb7⟩ := kb.eight; (try clear pkc0 pkc1 pkc2 pkc3 pkc4); obtain ⟨⟨pkc0, pkc1, pkc2, pkc3, pkc4⟩, -⟩ := kc.five)
      | (go_at_call 19; with_reducible refine (HN.out _ bc).mono ?_; rintro e w1 ⟨gf, lb, rfl, hent, htells, hC⟩; have HE := Lib.hid hent; have HT := Lib.hid htells; clear hent htells; dsimp only; replace kb := kb.on hC; replace kc := kc.on hC; replace bc := bc.trans (hC.mono bc.size); clear hC; (try clear pkb0 pkb1 pkb2 pkb3 pkb4 pkb5 pkb6 pkb7); obtain ⟨pkb0, pkb1, pkb2, pkb3, pkb4, pkb5, pkb6, pkb7⟩ := kb.eight; (try clear pkc0 pkc1 pkc2 pkc3 pkc4); obtain ⟨⟨pkc0, pkc1, pkc2, pkc3, pkc4⟩, -⟩ := kc.five)
      | (go_at_call 18; with_reducible refine (HTO.out gf lb _ HE.out HT.out).mono ?_; rintro e w1 ⟨A9, c9, rfl, hC⟩; clear HE HT; dsimp only; replace kb := kb.on hC; replace kc := kc.on hC; replace bc := bc.trans (hC.mono bc.size); clear hC; (try clear pkb0 pkb1 pkb2 pkb3 pkb4 pkb5 pkb6 pkb7); obtain ⟨pkb0, pkb1, pkb2, pkb3, pkb4, pkb5, pkb6, pkb7⟩ := kb.eight; (try clear pkc0 pkc1 pkc2 pkc3 pkc4); obtain ⟨⟨pkc0, pkc1, pkc2, pkc3, pkc4⟩, -⟩ := kc.five))
    go_ret
    exact ⟨rfl, bc⟩
  obtain ⟨er, rfl⟩ := hnone cL
  have htn := htnone cL
  subst cL
  clear hnone htnone
  dsimp only [List.length_nil] at HTO
  have HA := Lib.hid ha; clear ha
  rcases htn with ⟨et, x, hne, rfl⟩ | rfl
  · have dt : (et != 0) = true := neqz hne
    clear hne
    obtain ⟨x0, x1, x2, x3, x4⟩ := x
    dsimp only [CS.cells] at ht
    have HK := Lib.hid ht; clear ht
    obtain ⟨kb, kc, bc⟩ := bx2 w #[.int .i64 N, .int .i64 S, .int .i64 G, .int .i64 W, .int .i64 D, .int .i64 L, .slice Ac nc cc, .slice As ns cs] #[.int .i64 T, .int .i64 P, .int .i64 Mo, .int .i64 Nx, .int .i64 Me] 25 27
    go_enter Try.func6, Try.ntmps6
    go_wp2_with (first
      | (go_at_call 13; with_reducible refine (begun10_any _).mono ?_; rintro e w1 ⟨rfl, hC⟩; dsimp only; replace kb := kb.on hC; replace kc := kc.on hC; replace bc := bc.trans (hC.mono bc.size); clear hC; (try clear pkb0 pkb1 pkb2 pkb3 pkb4 pkb5 pkb6 pkb7); obtain ⟨pkb0, pkb1, pkb2, pkb3, pkb4, pkb5, pkb6, pkb7⟩ := kb.eight; (try clear pkc0 pkc1 pkc2 pkc3 pkc4); obtain ⟨⟨pkc0, pkc1, pkc2, pkc3, pkc4⟩, -⟩ := kc.five)
      | (go_at_call 19; with_reducible refine (HN.out _ bc).mono ?_; rintro e w1 ⟨gf, lb, rfl, hent, htells, hC⟩; have HE := Lib.hid hent; have HT := Lib.hid htells; clear hent htells; dsimp only; replace kb := kb.on hC; replace kc := kc.on hC; replace bc := bc.trans (hC.mono bc.size); clear hC; (try clear pkb0 pkb1 pkb2 pkb3 pkb4 pkb5 pkb6 pkb7); obtain ⟨pkb0, pkb1, pkb2, pkb3, pkb4, pkb5, pkb6, pkb7⟩ := kb.eight; (try clear pkc0 pkc1 pkc2 pkc3 pkc4); obtain ⟨⟨pkc0, pkc1, pkc2, pkc3, pkc4⟩, -⟩ := kc.five)
      | (go_at_call 18; with_reducible refine (HTO.out gf lb _ HE.out HT.out).mono ?_; rintro e w1 ⟨A9, c9, rfl, hC⟩; clear HE HT; dsimp only; replace kb := kb.on hC; replace kc := kc.on hC; replace bc := bc.trans (hC.mono bc.size); clear hC; (try clear pkb0 pkb1 pkb2 pkb3 pkb4 pkb5 pkb6 pkb7); obtain ⟨pkb0, pkb1, pkb2, pkb3, pkb4, pkb5, pkb6, pkb7⟩ := kb.eight; (try clear pkc0 pkc1 pkc2 pkc3 pkc4); obtain ⟨⟨pkc0, pkc1, pkc2, pkc3, pkc4⟩, -⟩ := kc.five)
      | (go_at_call 7; with_reducible refine (HA.out _ bc).mono ?_; rintro e w1 ⟨rfl, hC⟩; dsimp only; replace kb := kb.on hC; replace kc := kc.on hC; replace bc := bc.trans (hC.mono bc.size); clear hC; (try clear pkb0 pkb1 pkb2 pkb3 pkb4 pkb5 pkb6 pkb7); obtain ⟨pkb0, pkb1, pkb2, pkb3, pkb4, pkb5, pkb6, pkb7⟩ := kb.eight; (try clear pkc0 pkc1 pkc2 pkc3 pkc4); obtain ⟨⟨pkc0, pkc1, pkc2, pkc3, pkc4⟩, -⟩ := kc.five))
    refine (HK.out _ bc).mono ?_
    rintro e w1 ⟨rfl, hC⟩
    dsimp only
    replace kb := kb.on hC; replace kc := kc.on hC; replace bc := bc.trans (hC.mono bc.size); clear hC
    (try clear pkb0 pkb1 pkb2 pkb3 pkb4 pkb5 pkb6 pkb7); (try clear pkc0 pkc1 pkc2 pkc3 pkc4)
    have kx := Blk.new w1 27 #[.int .i64 x0, .int .i64 x1, .int .i64 x2, .int .i64 x3, .int .i64 x4]
    have al := Below.al w1 (.cells #[.int .i64 x0, .int .i64 x1, .int .i64 x2, .int .i64 x3, .int .i64 x4] 27)
    have zx := kc.lt
    replace kc := kc.on al; replace bc := bc.trans (al.mono bc.size); clear al kb
    go_upto_region 5 with fail
    generalize w1.alloc (.cells #[.int .i64 x0, .int .i64 x1, .int .i64 x2, .int .i64 x3, .int .i64 x4] 27) = u1 at *
    generalize w1.heap.size = gx at *
    obtain ⟨⟨pkc0, pkc1, pkc2, pkc3, pkc4⟩, -⟩ := kc.five
    obtain ⟨⟨pkx0, pkx1, pkx2, pkx3, pkx4⟩, -⟩ := kx.five
    go_wp2
    all_goals (go_ret; exact ⟨rfl, bc⟩)
  · dsimp only [CS.cells] at ht
    have HK := Lib.hid ht; clear ht
    obtain ⟨kb, kc, bc⟩ := bx2 w #[.int .i64 N, .int .i64 S, .int .i64 G, .int .i64 W, .int .i64 D, .int .i64 L, .slice Ac nc cc, .slice As ns cs] #[.int .i64 T, .int .i64 P, .int .i64 Mo, .int .i64 Nx, .int .i64 Me] 25 27
    go_enter Try.func6, Try.ntmps6
    go_wp2_with (first
      | (go_at_call 13; with_reducible refine (begun10_any _).mono ?_; rintro e w1 ⟨rfl, hC⟩; dsimp only; replace kb := kb.on hC; replace kc := kc.on hC; replace bc := bc.trans (hC.mono bc.size); clear hC; (try clear pkb0 pkb1 pkb2 pkb3 pkb4 pkb5 pkb6 pkb7); obtain ⟨pkb0, pkb1, pkb2, pkb3, pkb4, pkb5, pkb6, pkb7⟩ := kb.eight; (try clear pkc0 pkc1 pkc2 pkc3 pkc4); obtain ⟨⟨pkc0, pkc1, pkc2, pkc3, pkc4⟩, -⟩ := kc.five)
      | (go_at_call 19; with_reducible refine (HN.out _ bc).mono ?_; rintro e w1 ⟨gf, lb, rfl, hent, htells, hC⟩; have HE := Lib.hid hent; have HT := Lib.hid htells; clear hent htells; dsimp only; replace kb := kb.on hC; replace kc := kc.on hC; replace bc := bc.trans (hC.mono bc.size); clear hC; (try clear pkb0 pkb1 pkb2 pkb3 pkb4 pkb5 pkb6 pkb7); obtain ⟨pkb0, pkb1, pkb2, pkb3, pkb4, pkb5, pkb6, pkb7⟩ := kb.eight; (try clear pkc0 pkc1 pkc2 pkc3 pkc4); obtain ⟨⟨pkc0, pkc1, pkc2, pkc3, pkc4⟩, -⟩ := kc.five)
      | (go_at_call 18; with_reducible refine (HTO.out gf lb _ HE.out HT.out).mono ?_; rintro e w1 ⟨A9, c9, rfl, hC⟩; clear HE HT; dsimp only; replace kb := kb.on hC; replace kc := kc.on hC; replace bc := bc.trans (hC.mono bc.size); clear hC; (try clear pkb0 pkb1 pkb2 pkb3 pkb4 pkb5 pkb6 pkb7); obtain ⟨pkb0, pkb1, pkb2, pkb3, pkb4, pkb5, pkb6, pkb7⟩ := kb.eight; (try clear pkc0 pkc1 pkc2 pkc3 pkc4); obtain ⟨⟨pkc0, pkc1, pkc2, pkc3, pkc4⟩, -⟩ := kc.five)
      | (go_at_call 7; with_reducible refine (HA.out _ bc).mono ?_; rintro e w1 ⟨rfl, hC⟩; dsimp only; replace kb := kb.on hC; replace kc := kc.on hC; replace bc := bc.trans (hC.mono bc.size); clear hC; (try clear pkb0 pkb1 pkb2 pkb3 pkb4 pkb5 pkb6 pkb7); obtain ⟨pkb0, pkb1, pkb2, pkb3, pkb4, pkb5, pkb6, pkb7⟩ := kb.eight; (try clear pkc0 pkc1 pkc2 pkc3 pkc4); obtain ⟨⟨pkc0, pkc1, pkc2, pkc3, pkc4⟩, -⟩ := kc.five))
    refine (HK.out _ bc).mono ?_
    rintro e w1 ⟨rfl, hC⟩
    dsimp only
    replace kb := kb.on hC; replace kc := kc.on hC; replace bc := bc.trans (hC.mono bc.size); clear hC
    (try clear pkb0 pkb1 pkb2 pkb3 pkb4 pkb5 pkb6 pkb7); (try clear pkc0 pkc1 pkc2 pkc3 pkc4)
    have kx := Blk.new w1 27 #[.int .i64 T, .int .i64 P, .int .i64 Mo, .int .i64 Nx, .int .i64 Me]
    have al := Below.al w1 (.cells #[.int .i64 T, .int .i64 P, .int .i64 Mo, .int .i64 Nx, .int .i64 Me] 27)
    have zx := kc.lt
    replace kc := kc.on al; replace bc := bc.trans (al.mono bc.size); clear al kb
    go_upto_region 5 with fail
    generalize w1.alloc (.cells #[.int .i64 T, .int .i64 P, .int .i64 Mo, .int .i64 Nx, .int .i64 Me] 27) = u1 at *
    generalize w1.heap.size = gx at *
    obtain ⟨⟨pkc0, pkc1, pkc2, pkc3, pkc4⟩, -⟩ := kc.five
    obtain ⟨⟨pkx0, pkx1, pkx2, pkx3, pkx4⟩, -⟩ := kx.five
    go_wp2
    all_goals (go_ret; exact ⟨rfl, bc⟩)
end Go.Proofs.Ytaooonajfdbfhaa
