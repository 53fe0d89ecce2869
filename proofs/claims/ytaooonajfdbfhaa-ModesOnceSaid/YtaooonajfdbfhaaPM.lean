/-
  The statement that what is asked for is taken, and comes at the round's end. Condition: a list that can be read, and a number that an int holds. (Printed by tools/gen10m.py.)
-/
import Derived.Test.YtaooonajfdbfhaaPK
namespace Go.Proofs.Ytaooonajfdbfhaa
open Go.RowKit

theorem Blk.put5 {w : World} {g : Nat} {t : TypeId} {a b c d e : Value} (h : Blk w g t #[a, b, c, d, e]) (v0 v1 v2 v3 v4 : Value) : Blk (((((w.setCell ⟨g, 0, none⟩ v0).setCell ⟨g, 1, none⟩ v1).setCell ⟨g, 2, none⟩ v2).setCell ⟨g, 3, none⟩ v3).setCell ⟨g, 4, none⟩ v4) g t #[v0, v1, v2, v3, v4] := by
  simpa using ((((h.set_ 0 v0).set_ 1 v1).set_ 2 v2).set_ 3 v3).set_ 4 v4
theorem Blk.far5 {W : World} {g g' : Nat} {t : TypeId} {cs : Array Value} (h : Blk W g t cs) (hne : g ≠ g') (v0 v1 v2 v3 v4 : Value) : Blk (((((W.setCell ⟨g', 0, none⟩ v0).setCell ⟨g', 1, none⟩ v1).setCell ⟨g', 2, none⟩ v2).setCell ⟨g', 3, none⟩ v3).setCell ⟨g', 4, none⟩ v4) g t cs :=
  ((((h.far (p := ⟨g', 0, none⟩) hne _).far (p := ⟨g', 1, none⟩) hne _).far (p := ⟨g', 2, none⟩) hne _).far (p := ⟨g', 3, none⟩) hne _).far (p := ⟨g', 4, none⟩) hne _
theorem Below.put5 {w W : World} {n : Nat} (h : Below n w W) {g : Nat} (hg : n ≤ g) (v0 v1 v2 v3 v4 : Value) : Below n w (((((W.setCell ⟨g, 0, none⟩ v0).setCell ⟨g, 1, none⟩ v1).setCell ⟨g, 2, none⟩ v2).setCell ⟨g, 3, none⟩ v3).setCell ⟨g, 4, none⟩ v4) :=
  ((((h.setCell (p := ⟨g, 0, none⟩) hg _).setCell (p := ⟨g, 1, none⟩) hg _).setCell (p := ⟨g, 2, none⟩) hg _).setCell (p := ⟨g, 3, none⟩) hg _).setCell (p := ⟨g, 4, none⟩) hg _

/-- A state that may be. -/
theorem st5 (W : World) (g : Nat) (v0 v1 v2 v3 v4 : Value) : W.grownBy (((((W.setCell ⟨g, 0, none⟩ v0).setCell ⟨g, 1, none⟩ v1).setCell ⟨g, 2, none⟩ v2).setCell ⟨g, 3, none⟩ v3).setCell ⟨g, 4, none⟩ v4) (some g) := only_setCell (only_setCell (only_setCell (only_setCell (only_setCell (World.grownBy.refl W (some g)) (.inl rfl) _) (.inl rfl) _) (.inl rfl) _) (.inl rfl) _) (.inl rfl) _

/-- The modes that may come next, in the state that a change leaves. -/
theorem ask_cases {m : ML} {st : CS} {k : Int} (h : (askS m st k).1 = 0) : askedS m st = 0 ∧ (k < (m.ms.length : Int) ∧ -1 ≤ k) ∧
    ((askS m st k = (0, 0) ∧ takeS m st 0 = (0, st)) ∨ (0 ≤ k ∧ askS m st k = (0, k + 1) ∧ takeS m st (k + 1) = (0, withNx st (k + 1)) ∧ st.Nx = 0)) := by
  by_cases c1 : askedS m st = 0
  · by_cases c2 : k < -1 ∨ (m.ms.length : Int) ≤ k
    · rw [ask_bad c1 c2] at h; cases h
    · refine ⟨c1, by omega, ?_⟩
      have hl := (asked_ok c1).2.2.1
      rw [ask_in c1 c2]
      by_cases c3 : mayN m st k = true
      · obtain ⟨-, h2, -, h4, -⟩ := may_ok c3
        refine .inr ⟨h2.1, if_pos c3, ?_, h4⟩
        rw [take_in c1 (by omega), if_pos (by rw [show k + 1 - 1 = k by omega]; exact c3)]
      · refine .inl ⟨if_neg c3, ?_⟩
        rw [take_in c1 (by omega), if_neg (by rw [may_no (fun hh => by have := hh.2.1.1; omega)]; decide)]
  · rw [ask_out c1] at h; exact absurd h c1
/-- What is left of a round, by the state's box. -/
def measX (N T : Int) (gx : Nat) (W : World) : Nat :=
  match W.cell? ⟨gx, 0, none⟩, W.cell? ⟨gx, 1, none⟩ with
  | some (.int _ t), some (.int _ p) => if p = 0 ∧ t ≠ T then 0 else (N - p).toNat
  | _, _ => 0
theorem measX_eq {N T t p a b c : Int} {gx : Nat} {W : World} (h : Blk W gx 27 #[.int .i64 t, .int .i64 p, .int .i64 a, .int .i64 b, .int .i64 c]) : measX N T gx W = if p = 0 ∧ t ≠ T then 0 else (N - p).toNat := by
  unfold measX
  rw [h.cell 0, h.cell 1]
  rfl
/-- Where a state may be while a round goes on. -/
def InRound (T P Mo X Me N : Int) (s : CS) : Prop :=
  (∃ p, P ≤ p ∧ p < N ∧ s = ⟨T, p, Mo, X, Me⟩) ∨ s = ⟨(T + 1) % 256, 0, if X = 0 then Mo else X - 1, 0, Me⟩
theorem check_on {T P Mo X X' Me N p : Int} (h : checkC ⟨T, P, Mo, X, Me⟩ N = 0) (h0 : 0 ≤ p) (h1 : p < N) (h2 : 0 ≤ X' ∧ X' ≤ 4) : checkC ⟨T, p, Mo, X', Me⟩ N = 0 := by
  obtain ⟨hn, hm⟩ := checkC_ok h
  obtain ⟨a0, a1, a2, a3, a4, a5⟩ := mayC_ok hm
  dsimp only at a0 a1 a2 a3 a4 a5
  unfold checkC
  rw [if_neg (by omega), if_pos]
  exact decide_eq_true ⟨a0.1, a0.2, h0, h1, a2.1, a2.2, h2.1, h2.2, a4, a5⟩

set_option maxRecDepth 100000 in
set_option maxHeartbeats 4000000 in
theorem once_law (m : ML) (c s : Slc) (st : CS) (n : Int) (w : World) (hM : Med w m c s) : Calls Try.prog 4 #[vM m c s, .agg st.cells, .int .i64 n] w fun e w' => e = .returned (.bool true) ∧ Below w.heap.size w w' := by
  have ha := fun U (h : Below w.heap.size w U) => ask_any m c s st n U (hM.on h)
  unfold ResK at ha
  by_cases c1 : (askS m st n).1 = 0
  rotate_left
  · have d1 := neqz c1
    clear c1 hM
    generalize askS m st n = ra at *
    obtain ⟨er, rr⟩ := ra
    dsimp only at ha d1
    have HA := Lib.hid ha; clear ha
    obtain ⟨N, S, G, W, D, L, cold, ms⟩ := m
    obtain ⟨Ac, nc, cc⟩ := c
    obtain ⟨As, ns, cs⟩ := s
    obtain ⟨T, P, Mo, Nx, Me⟩ := st
    dsimp only [vM, CS.cells] at *
    obtain ⟨kb, kc, bc⟩ := bx2 w #[.int .i64 N, .int .i64 S, .int .i64 G, .int .i64 W, .int .i64 D, .int .i64 L, .slice Ac nc cc, .slice As ns cs] #[.int .i64 T, .int .i64 P, .int .i64 Mo, .int .i64 Nx, .int .i64 Me] 25 27
    go_enter Try.func4, Try.ntmps4
    go_wp2_with (first
      | (go_at_call 13; with_reducible refine (begun10_any _).mono ?_; rintro e w1 ⟨rfl, hC⟩; dsimp only; replace kb := kb.on hC; replace kc := kc.on hC; replace bc := bc.trans (hC.mono bc.size); clear hC; (try clear pkb0 pkb1 pkb2 pkb3 pkb4 pkb5 pkb6 pkb7); obtain ⟨pkb0, pkb1, pkb2, pkb3, pkb4, pkb5, pkb6, pkb7⟩ := kb.eight; (try clear pkc0 pkc1 pkc2 pkc3 pkc4); obtain ⟨⟨pkc0, pkc1, pkc2, pkc3, pkc4⟩, -⟩ := kc.five)
      | (go_at_call 7; with_reducible refine (HA.out _ bc).mono ?_; rintro e w1 ⟨rfl, hC⟩; dsimp only; replace kb := kb.on hC; replace kc := kc.on hC; replace bc := bc.trans (hC.mono bc.size); clear hC; (try clear pkb0 pkb1 pkb2 pkb3 pkb4 pkb5 pkb6 pkb7); obtain ⟨pkb0, pkb1, pkb2, pkb3, pkb4, pkb5, pkb6, pkb7⟩ := kb.eight; (try clear pkc0 pkc1 pkc2 pkc3 pkc4); obtain ⟨⟨pkc0, pkc1, pkc2, pkc3, pkc4⟩, -⟩ := kc.five))
    go_ret
    exact ⟨rfl, bc⟩
  obtain ⟨hask, ⟨hn0, hn1⟩, hcs⟩ := ask_cases c1
  obtain ⟨-, hck, hl4, hmo, hnx, hN⟩ := asked_ok hask
  have ht := fun (r : Int) U (h : Below w.heap.size w U) => take_any m c s st r U (hM.on h)
  have hne := fun (x : CS) U (h : Below w.heap.size w U) => nexts_any m c s x U (hM.on h)
  have hto := fun gf lb (x : CS) U h1 h2 => told9_any gf lb m x U h1 h2
  have hnn := fun (x : CS) (h : x.Nx ≠ 0) => nexts_none (m := m) h
  have hst := fun (x : CS) U => rstepC_any x m.N U
  unfold ResC at ht hst
  unfold NextsGives at hne
  clear c1 hM hask
  have hN8 := hN
  obtain ⟨T, P, Mo, Nx, Me⟩ := st
  dsimp only at hmo hnx
  obtain ⟨-, hmy⟩ := checkC_ok hck
  obtain ⟨ht5, hp5, -, hnx4, -, -⟩ := mayC_ok hmy
  dsimp only at ht5 hp5 hnx4
  obtain ⟨pn, rfl⟩ := Int.eq_ofNat_of_zero_le hp5.1
  rcases hcs with ⟨ea, et⟩ | ⟨hn2, ea, et, hx0⟩
  · rw [ea] at ha
    have ht1 := fun U h => ht 0 U h
    rw [et] at ht1
    by_cases hx : Nx = 0
    · subst hx
      have hchk := fun p (h0 : 0 ≤ p) (h1 : p < m.N) => check_on (X' := 0) hck h0 h1 (by omega)
      clear hnn hne hto ht ea et hmy hck
      obtain ⟨N, S, G, W, D, L, cold, ms⟩ := m
      obtain ⟨Ac, nc, cc⟩ := c
      obtain ⟨As, ns, cs⟩ := s
      dsimp only [vM, CS.cells, withNx] at *
      have HA := Lib.hid ha; have HK := Lib.hid ht1; have HS := Lib.hid hst; clear ha ht1 hst
      obtain ⟨kb, kc, bc⟩ := bx2 w #[.int .i64 N, .int .i64 S, .int .i64 G, .int .i64 W, .int .i64 D, .int .i64 L, .slice Ac nc cc, .slice As ns cs] #[.int .i64 T, .int .i64 (pn : Int), .int .i64 Mo, .int .i64 0, .int .i64 Me] 25 27
      go_enter Try.func4, Try.ntmps4
      go_wp2_with (first
        | (go_at_call 13; with_reducible refine (begun10_any _).mono ?_; rintro e w1 ⟨rfl, hC⟩; dsimp only; replace kb := kb.on hC; replace kc := kc.on hC; replace bc := bc.trans (hC.mono bc.size); clear hC; (try clear pkb0 pkb1 pkb2 pkb3 pkb4 pkb5 pkb6 pkb7); obtain ⟨pkb0, pkb1, pkb2, pkb3, pkb4, pkb5, pkb6, pkb7⟩ := kb.eight; (try clear pkc0 pkc1 pkc2 pkc3 pkc4); obtain ⟨⟨pkc0, pkc1, pkc2, pkc3, pkc4⟩, -⟩ := kc.five)
        | (go_at_call 7; with_reducible refine (HA.out _ bc).mono ?_; rintro e w1 ⟨rfl, hC⟩; dsimp only; replace kb := kb.on hC; replace kc := kc.on hC; replace bc := bc.trans (hC.mono bc.size); clear hC; (try clear pkb0 pkb1 pkb2 pkb3 pkb4 pkb5 pkb6 pkb7); obtain ⟨pkb0, pkb1, pkb2, pkb3, pkb4, pkb5, pkb6, pkb7⟩ := kb.eight; (try clear pkc0 pkc1 pkc2 pkc3 pkc4); obtain ⟨⟨pkc0, pkc1, pkc2, pkc3, pkc4⟩, -⟩ := kc.five))
      refine (HK.out _ bc).mono ?_
      rintro e w1 ⟨rfl, hC⟩
      dsimp only
      replace kb := kb.on hC
      replace kc := kc.on hC
      replace bc := bc.trans (hC.mono bc.size)
      clear hC
      clear pkb0 pkb1 pkb2 pkb3 pkb4 pkb5 pkb6 pkb7 pkc0 pkc1 pkc2 pkc3 pkc4
      have kx := Blk.new w1 27 #[.int .i64 T, .int .i64 (pn : Int), .int .i64 Mo, .int .i64 0, .int .i64 Me]
      have al := Below.al w1 (.cells #[.int .i64 T, .int .i64 (pn : Int), .int .i64 Mo, .int .i64 0, .int .i64 Me] 27)
      have zx := kc.lt
      replace kb := kb.on al; replace kc := kc.on al; replace bc := bc.trans (al.mono bc.size); clear al
      go_upto_region 5 with fail
      generalize w1.alloc (.cells #[.int .i64 T, .int .i64 (pn : Int), .int .i64 Mo, .int .i64 0, .int .i64 Me] 27) = u1 at *
      generalize w1.heap.size = gx at *
      clear w1
      (try clear pkb0 pkb1 pkb2 pkb3 pkb4 pkb5 pkb6 pkb7)
      obtain ⟨pkb0, pkb1, pkb2, pkb3, pkb4, pkb5, pkb6, pkb7⟩ := kb.eight
      (try clear pkc0 pkc1 pkc2 pkc3 pkc4)
      obtain ⟨⟨pkc0, pkc1, pkc2, pkc3, pkc4⟩, -⟩ := kc.five
      (try clear pkx0 pkx1 pkx2 pkx3 pkx4)
      obtain ⟨⟨pkx0, pkx1, pkx2, pkx3, pkx4⟩, -⟩ := kx.five
      go_wp2_with fail
      clear pkb0 pkb1 pkb2 pkb3 pkb4 pkb5 pkb6 pkb7 pkc0 pkc1 pkc2 pkc3 pkc4 pkx0 pkx1 pkx2 pkx3 pkx4
      go_loopw [63] (fun i wr => ∃ k : Nat, k ≤ pn ∧ i = .int .i64 k ∧ Blk wr gx 27 #[.int .i64 T, .int .i64 (pn : Int), .int .i64 Mo, .int .i64 0, .int .i64 Me] ∧ Blk wr w.heap.size 25 #[.int .i64 N, .int .i64 S, .int .i64 G, .int .i64 W, .int .i64 D, .int .i64 L, .slice Ac nc cc, .slice As ns cs] ∧ Blk wr (w.heap.size + 1) 27 #[.int .i64 T, .int .i64 (pn : Int), .int .i64 Mo, .int .i64 0, .int .i64 Me] ∧ Below w.heap.size w wr)
        (fun i _ => pn - (intOf i).toNat)
      case atStart => exact ⟨0, by omega, rfl, kx, kb, kc, bc⟩
      case round =>
        clear kx kb kc bc
        obtain ⟨k, hk, rfl, kx, kb, kc, bc⟩ := hrel
        (try clear pkb0 pkb1 pkb2 pkb3 pkb4 pkb5 pkb6 pkb7)
        obtain ⟨pkb0, pkb1, pkb2, pkb3, pkb4, pkb5, pkb6, pkb7⟩ := kb.eight
        (try clear pkc0 pkc1 pkc2 pkc3 pkc4)
        obtain ⟨⟨pkc0, pkc1, pkc2, pkc3, pkc4⟩, -⟩ := kc.five
        (try clear pkx0 pkx1 pkx2 pkx3 pkx4)
        obtain ⟨⟨pkx0, pkx1, pkx2, pkx3, pkx4⟩, -⟩ := kx.five
        by_cases hlt : k < pn
        · have hlt2 : (k : Int) < (pn : Int) := by omega
          go_wp2
          go_roundw
          case rel => exact ⟨k + 1, by omega, by go_num, kx, kb, kc, bc⟩
          case measure => simp [intOf]; omega
        · obtain rfl : k = pn := by omega
          go_wp2_with fail
          clear pkb0 pkb1 pkb2 pkb3 pkb4 pkb5 pkb6 pkb7 pkc0 pkc1 pkc2 pkc3 pkc4 pkx0 pkx1 pkx2 pkx3 pkx4
          obtain ⟨wo, hwo⟩ : ∃ x, x = wr := ⟨_, rfl⟩
          subst hwo
          go_loopw [12] (fun _ wr => ∃ x : CS, InRound T (k : Int) Mo 0 Me N x ∧ Blk wr gx 27 x.cells ∧ Blk wr w.heap.size 25 #[.int .i64 N, .int .i64 S, .int .i64 G, .int .i64 W, .int .i64 D, .int .i64 L, .slice Ac nc cc, .slice As ns cs] ∧ Blk wr (w.heap.size + 1) 27 #[.int .i64 T, .int .i64 (k : Int), .int .i64 Mo, .int .i64 0, .int .i64 Me] ∧ Below w.heap.size w wr)
            (fun _ wr => measX N T gx wr)
          case atStart => exact ⟨_, .inl ⟨(k : Int), Int.le_refl _, by omega, rfl⟩, kx, kb, kc, bc⟩
          case round =>
            clear kx kb kc bc
            obtain ⟨x, hx, kx, kb, kc, bc⟩ := hrel
            rcases hx with ⟨p, hp0, hp1, rfl⟩ | rfl
            · have hmo := measX_eq (N := N) (T := T) kx
              dsimp only [CS.cells] at kx hmo
              have hcx := hchk p (by omega) hp1
              have hgo : ∀ y, goneC ⟨T, p, Mo, 0, Me⟩ N = y → stepC ⟨T, p, Mo, 0, Me⟩ N = (0, y) := fun y h => by unfold stepC; rw [if_pos hcx, h]
              have hst1 := fun U => HS.out ⟨T, p, Mo, 0, Me⟩ U
              dsimp only at hst1
              by_cases hp : p + 1 < N
              · skip
                by_cases hz : p = 0
                · subst hz
                  rw [hgo ⟨T, 1, Mo, 0, Me⟩ (by unfold goneC; dsimp only; rw [if_pos (by omega)]; try rfl)] at hst1
                  dsimp only at hst1
                  have HS1 := Lib.hid hst1; have HMO := Lib.hid hmo; have HCX := Lib.hid hcx; clear hst1 hmo hgo hcx
                  (try clear pkb0 pkb1 pkb2 pkb3 pkb4 pkb5 pkb6 pkb7)
                  obtain ⟨pkb0, pkb1, pkb2, pkb3, pkb4, pkb5, pkb6, pkb7⟩ := kb.eight
                  (try clear pkc0 pkc1 pkc2 pkc3 pkc4)
                  obtain ⟨⟨pkc0, pkc1, pkc2, pkc3, pkc4⟩, -⟩ := kc.five
                  (try clear pkx0 pkx1 pkx2 pkx3 pkx4)
                  obtain ⟨⟨pkx0, pkx1, pkx2, pkx3, pkx4⟩, -⟩ := kx.five
                  go_wp2_with fail
                  refine (HS1.out _).mono ?_
                  rintro e w3 ⟨rfl, hC⟩
                  dsimp only
                  replace kb := kb.on hC
                  replace kc := kc.on hC
                  replace kx := kx.on hC
                  replace bc := bc.trans (hC.mono bc.size)
                  clear hC
                  clear pkb0 pkb1 pkb2 pkb3 pkb4 pkb5 pkb6 pkb7 pkc0 pkc1 pkc2 pkc3 pkc4 pkx0 pkx1 pkx2 pkx3 pkx4
                  have ky := Blk.new w3 27 #[.int .i64 T, .int .i64 1, .int .i64 Mo, .int .i64 0, .int .i64 Me]
                  have al := Below.al w3 (.cells #[.int .i64 T, .int .i64 1, .int .i64 Mo, .int .i64 0, .int .i64 Me] 27)
                  have zy := kx.lt
                  replace kb := kb.on al; replace kc := kc.on al; replace kx := kx.on al; replace bc := bc.trans (al.mono bc.size); clear al
                  go_upto_region 15 with fail
                  generalize w3.alloc (.cells #[.int .i64 T, .int .i64 1, .int .i64 Mo, .int .i64 0, .int .i64 Me] 27) = u3 at *
                  generalize w3.heap.size = gy at *
                  clear w3
                  obtain ⟨⟨pkx0, pkx1, pkx2, pkx3, pkx4⟩, f0, f1, f2, f3, f4⟩ := kx.five
                  obtain ⟨⟨pky0, pky1, pky2, pky3, pky4⟩, -⟩ := ky.five
                  have j0 := kx.put5 (.int .i64 T) (.int .i64 1) (.int .i64 Mo) (.int .i64 0) (.int .i64 Me); have j1 := kb.far5 (g' := gx) (by omega) (.int .i64 T) (.int .i64 1) (.int .i64 Mo) (.int .i64 0) (.int .i64 Me); have j2 := kc.far5 (g' := gx) (by omega) (.int .i64 T) (.int .i64 1) (.int .i64 Mo) (.int .i64 0) (.int .i64 Me); have j3 := Below.put5 bc (g := gx) (by omega) (.int .i64 T) (.int .i64 1) (.int .i64 Mo) (.int .i64 0) (.int .i64 Me)
                  have J0 := Lib.hid j0; have J1 := Lib.hid j1; have J2 := Lib.hid j2; have J3 := Lib.hid j3; clear j0 j1 j2 j3 kx ky kb kc bc
                  go_wp2
                  go_roundw
                  case rel => exact ⟨⟨T, 1, Mo, 0, Me⟩, .inl ⟨_, by omega, by omega, rfl⟩, J0.out, J1.out, J2.out, J3.out⟩
                  case measure => rw [HMO.out, measX_eq J0.out, if_neg (fun h => h.2 rfl), if_neg (fun h => h.2 rfl)]; omega
                · have hz2 : (p != 0) = true := neqz hz
                  rw [hgo ⟨T, p + 1, Mo, 0, Me⟩ (by unfold goneC; dsimp only; rw [if_pos (by omega)])] at hst1
                  dsimp only at hst1
                  have HS1 := Lib.hid hst1; have HMO := Lib.hid hmo; have HCX := Lib.hid hcx; clear hst1 hmo hgo hcx
                  (try clear pkb0 pkb1 pkb2 pkb3 pkb4 pkb5 pkb6 pkb7)
                  obtain ⟨pkb0, pkb1, pkb2, pkb3, pkb4, pkb5, pkb6, pkb7⟩ := kb.eight
                  (try clear pkc0 pkc1 pkc2 pkc3 pkc4)
                  obtain ⟨⟨pkc0, pkc1, pkc2, pkc3, pkc4⟩, -⟩ := kc.five
                  (try clear pkx0 pkx1 pkx2 pkx3 pkx4)
                  obtain ⟨⟨pkx0, pkx1, pkx2, pkx3, pkx4⟩, -⟩ := kx.five
                  go_wp2_with fail
                  refine (HS1.out _).mono ?_
                  rintro e w3 ⟨rfl, hC⟩
                  dsimp only
                  replace kb := kb.on hC
                  replace kc := kc.on hC
                  replace kx := kx.on hC
                  replace bc := bc.trans (hC.mono bc.size)
                  clear hC
                  clear pkb0 pkb1 pkb2 pkb3 pkb4 pkb5 pkb6 pkb7 pkc0 pkc1 pkc2 pkc3 pkc4 pkx0 pkx1 pkx2 pkx3 pkx4
                  have ky := Blk.new w3 27 #[.int .i64 T, .int .i64 (p + 1), .int .i64 Mo, .int .i64 0, .int .i64 Me]
                  have al := Below.al w3 (.cells #[.int .i64 T, .int .i64 (p + 1), .int .i64 Mo, .int .i64 0, .int .i64 Me] 27)
                  have zy := kx.lt
                  replace kb := kb.on al; replace kc := kc.on al; replace kx := kx.on al; replace bc := bc.trans (al.mono bc.size); clear al
                  go_upto_region 15 with fail
                  generalize w3.alloc (.cells #[.int .i64 T, .int .i64 (p + 1), .int .i64 Mo, .int .i64 0, .int .i64 Me] 27) = u3 at *
                  generalize w3.heap.size = gy at *
                  clear w3
                  obtain ⟨⟨pkx0, pkx1, pkx2, pkx3, pkx4⟩, f0, f1, f2, f3, f4⟩ := kx.five
                  obtain ⟨⟨pky0, pky1, pky2, pky3, pky4⟩, -⟩ := ky.five
                  have j0 := kx.put5 (.int .i64 T) (.int .i64 (p + 1)) (.int .i64 Mo) (.int .i64 0) (.int .i64 Me); have j1 := kb.far5 (g' := gx) (by omega) (.int .i64 T) (.int .i64 (p + 1)) (.int .i64 Mo) (.int .i64 0) (.int .i64 Me); have j2 := kc.far5 (g' := gx) (by omega) (.int .i64 T) (.int .i64 (p + 1)) (.int .i64 Mo) (.int .i64 0) (.int .i64 Me); have j3 := Below.put5 bc (g := gx) (by omega) (.int .i64 T) (.int .i64 (p + 1)) (.int .i64 Mo) (.int .i64 0) (.int .i64 Me)
                  have J0 := Lib.hid j0; have J1 := Lib.hid j1; have J2 := Lib.hid j2; have J3 := Lib.hid j3; clear j0 j1 j2 j3 kx ky kb kc bc
                  go_wp2
                  go_roundw
                  case rel => exact ⟨⟨T, p + 1, Mo, 0, Me⟩, .inl ⟨_, by omega, by omega, rfl⟩, J0.out, J1.out, J2.out, J3.out⟩
                  case measure => rw [HMO.out, measX_eq J0.out, if_neg (fun h => h.2 rfl), if_neg (fun h => h.2 rfl)]; omega
              · skip
                by_cases hz : p = 0
                · subst hz
                  exfalso; omega
                · have hz2 : (p != 0) = true := neqz hz
                  rw [hgo ⟨(T + 1) % 256, 0, Mo, 0, Me⟩ (by unfold goneC; dsimp only; rw [if_neg (by omega)]; try rw [if_pos (by omega)])] at hst1
                  dsimp only at hst1
                  have HS1 := Lib.hid hst1; have HMO := Lib.hid hmo; have HCX := Lib.hid hcx; clear hst1 hmo hgo hcx
                  (try clear pkb0 pkb1 pkb2 pkb3 pkb4 pkb5 pkb6 pkb7)
                  obtain ⟨pkb0, pkb1, pkb2, pkb3, pkb4, pkb5, pkb6, pkb7⟩ := kb.eight
                  (try clear pkc0 pkc1 pkc2 pkc3 pkc4)
                  obtain ⟨⟨pkc0, pkc1, pkc2, pkc3, pkc4⟩, -⟩ := kc.five
                  (try clear pkx0 pkx1 pkx2 pkx3 pkx4)
                  obtain ⟨⟨pkx0, pkx1, pkx2, pkx3, pkx4⟩, -⟩ := kx.five
                  go_wp2_with fail
                  refine (HS1.out _).mono ?_
                  rintro e w3 ⟨rfl, hC⟩
                  dsimp only
                  replace kb := kb.on hC
                  replace kc := kc.on hC
                  replace kx := kx.on hC
                  replace bc := bc.trans (hC.mono bc.size)
                  clear hC
                  clear pkb0 pkb1 pkb2 pkb3 pkb4 pkb5 pkb6 pkb7 pkc0 pkc1 pkc2 pkc3 pkc4 pkx0 pkx1 pkx2 pkx3 pkx4
                  have ky := Blk.new w3 27 #[.int .i64 ((T + 1) % 256), .int .i64 0, .int .i64 Mo, .int .i64 0, .int .i64 Me]
                  have al := Below.al w3 (.cells #[.int .i64 ((T + 1) % 256), .int .i64 0, .int .i64 Mo, .int .i64 0, .int .i64 Me] 27)
                  have zy := kx.lt
                  replace kb := kb.on al; replace kc := kc.on al; replace kx := kx.on al; replace bc := bc.trans (al.mono bc.size); clear al
                  go_upto_region 15 with fail
                  generalize w3.alloc (.cells #[.int .i64 ((T + 1) % 256), .int .i64 0, .int .i64 Mo, .int .i64 0, .int .i64 Me] 27) = u3 at *
                  generalize w3.heap.size = gy at *
                  clear w3
                  obtain ⟨⟨pkx0, pkx1, pkx2, pkx3, pkx4⟩, f0, f1, f2, f3, f4⟩ := kx.five
                  obtain ⟨⟨pky0, pky1, pky2, pky3, pky4⟩, -⟩ := ky.five
                  have j0 := kx.put5 (.int .i64 ((T + 1) % 256)) (.int .i64 0) (.int .i64 Mo) (.int .i64 0) (.int .i64 Me); have j1 := kb.far5 (g' := gx) (by omega) (.int .i64 ((T + 1) % 256)) (.int .i64 0) (.int .i64 Mo) (.int .i64 0) (.int .i64 Me); have j2 := kc.far5 (g' := gx) (by omega) (.int .i64 ((T + 1) % 256)) (.int .i64 0) (.int .i64 Mo) (.int .i64 0) (.int .i64 Me); have j3 := Below.put5 bc (g := gx) (by omega) (.int .i64 ((T + 1) % 256)) (.int .i64 0) (.int .i64 Mo) (.int .i64 0) (.int .i64 Me)
                  have J0 := Lib.hid j0; have J1 := Lib.hid j1; have J2 := Lib.hid j2; have J3 := Lib.hid j3; clear j0 j1 j2 j3 kx ky kb kc bc
                  go_wp2
                  go_roundw
                  case rel => exact ⟨⟨(T + 1) % 256, 0, Mo, 0, Me⟩, .inr (by rw [if_pos (by omega)]), J0.out, J1.out, J2.out, J3.out⟩
                  case measure => rw [HMO.out, measX_eq J0.out, if_pos ⟨rfl, by omega⟩, if_neg (fun h => h.2 rfl)]; omega
            · dsimp only [CS.cells] at kx
              rw [if_pos (by omega)] at kx
              have hte : ((T + 1) % 256 == T) = false := by simp; omega
              (try clear pkb0 pkb1 pkb2 pkb3 pkb4 pkb5 pkb6 pkb7)
              obtain ⟨pkb0, pkb1, pkb2, pkb3, pkb4, pkb5, pkb6, pkb7⟩ := kb.eight
              (try clear pkc0 pkc1 pkc2 pkc3 pkc4)
              obtain ⟨⟨pkc0, pkc1, pkc2, pkc3, pkc4⟩, -⟩ := kc.five
              (try clear pkx0 pkx1 pkx2 pkx3 pkx4)
              obtain ⟨⟨pkx0, pkx1, pkx2, pkx3, pkx4⟩, -⟩ := kx.five
              go_wp2
              all_goals (go_ret; exact ⟨rfl, bc⟩)
    · have hnl := hnn ⟨T, (pn : Int), Mo, Nx, Me⟩ hx
      have hne1 := fun U h => hne ⟨T, (pn : Int), Mo, Nx, Me⟩ U h
      have hto1 := fun gf lb U h1 h2 => hto gf lb ⟨T, (pn : Int), Mo, Nx, Me⟩ U h1 h2
      rw [hnl] at hto1
      dsimp only [List.length_nil] at hto1
      have hchk := fun p (h0 : 0 ≤ p) (h1 : p < m.N) => check_on (X' := Nx) hck h0 h1 (by omega)
      have hx1 : (Nx == 0) = false := eqz hx
      have hx2 : (Nx != 0) = true := neqz hx
      have hwx : IntKind.i64.wrap (Nx - 1) = Nx - 1 := IntWalk.i64_in _ (by omega)
      clear hnn hne hto ht ea et hmy hck hnl
      obtain ⟨N, S, G, W, D, L, cold, ms⟩ := m
      obtain ⟨Ac, nc, cc⟩ := c
      obtain ⟨As, ns, cs⟩ := s
      dsimp only [vM, CS.cells, withNx] at *
      have HA := Lib.hid ha; have HK := Lib.hid ht1; have HS := Lib.hid hst; clear ha ht1 hst
      have HN := Lib.hid hne1; have HTO := Lib.hid hto1; clear hne1 hto1
      obtain ⟨kb, kc, bc⟩ := bx2 w #[.int .i64 N, .int .i64 S, .int .i64 G, .int .i64 W, .int .i64 D, .int .i64 L, .slice Ac nc cc, .slice As ns cs] #[.int .i64 T, .int .i64 (pn : Int), .int .i64 Mo, .int .i64 Nx, .int .i64 Me] 25 27
      go_enter Try.func4, Try.ntmps4
      go_wp2_with (first
        | (go_at_call 13; with_reducible refine (begun10_any _).mono ?_; rintro e w1 ⟨rfl, hC⟩; dsimp only; replace kb := kb.on hC; replace kc := kc.on hC; replace bc := bc.trans (hC.mono bc.size); clear hC; (try clear pkb0 pkb1 pkb2 pkb3 pkb4 pkb5 pkb6 pkb7); obtain ⟨pkb0, pkb1, pkb2, pkb3, pkb4, pkb5, pkb6, pkb7⟩ := kb.eight; (try clear pkc0 pkc1 pkc2 pkc3 pkc4); obtain ⟨⟨pkc0, pkc1, pkc2, pkc3, pkc4⟩, -⟩ := kc.five)
        | (go_at_call 7; with_reducible refine (HA.out _ bc).mono ?_; rintro e w1 ⟨rfl, hC⟩; dsimp only; replace kb := kb.on hC; replace kc := kc.on hC; replace bc := bc.trans (hC.mono bc.size); clear hC; (try clear pkb0 pkb1 pkb2 pkb3 pkb4 pkb5 pkb6 pkb7); obtain ⟨pkb0, pkb1, pkb2, pkb3, pkb4, pkb5, pkb6, pkb7⟩ := kb.eight; (try clear pkc0 pkc1 pkc2 pkc3 pkc4); obtain ⟨⟨pkc0, pkc1, pkc2, pkc3, pkc4⟩, -⟩ := kc.five))
      refine (HK.out _ bc).mono ?_
      rintro e w1 ⟨rfl, hC⟩
      dsimp only
      replace kb := kb.on hC
      replace kc := kc.on hC
      replace bc := bc.trans (hC.mono bc.size)
      clear hC
      clear pkb0 pkb1 pkb2 pkb3 pkb4 pkb5 pkb6 pkb7 pkc0 pkc1 pkc2 pkc3 pkc4
      have kx := Blk.new w1 27 #[.int .i64 T, .int .i64 (pn : Int), .int .i64 Mo, .int .i64 Nx, .int .i64 Me]
      have al := Below.al w1 (.cells #[.int .i64 T, .int .i64 (pn : Int), .int .i64 Mo, .int .i64 Nx, .int .i64 Me] 27)
      have zx := kc.lt
      replace kb := kb.on al; replace kc := kc.on al; replace bc := bc.trans (al.mono bc.size); clear al
      go_upto_region 5 with fail
      generalize w1.alloc (.cells #[.int .i64 T, .int .i64 (pn : Int), .int .i64 Mo, .int .i64 Nx, .int .i64 Me] 27) = u1 at *
      generalize w1.heap.size = gx at *
      clear w1
      (try clear pkb0 pkb1 pkb2 pkb3 pkb4 pkb5 pkb6 pkb7)
      obtain ⟨pkb0, pkb1, pkb2, pkb3, pkb4, pkb5, pkb6, pkb7⟩ := kb.eight
      (try clear pkc0 pkc1 pkc2 pkc3 pkc4)
      obtain ⟨⟨pkc0, pkc1, pkc2, pkc3, pkc4⟩, -⟩ := kc.five
      (try clear pkx0 pkx1 pkx2 pkx3 pkx4)
      obtain ⟨⟨pkx0, pkx1, pkx2, pkx3, pkx4⟩, -⟩ := kx.five
      go_wp2_with fail
      clear pkb0 pkb1 pkb2 pkb3 pkb4 pkb5 pkb6 pkb7 pkc0 pkc1 pkc2 pkc3 pkc4 pkx0 pkx1 pkx2 pkx3 pkx4
      go_loopw [63] (fun i wr => ∃ k : Nat, k ≤ pn ∧ i = .int .i64 k ∧ Blk wr gx 27 #[.int .i64 T, .int .i64 (pn : Int), .int .i64 Mo, .int .i64 Nx, .int .i64 Me] ∧ Blk wr w.heap.size 25 #[.int .i64 N, .int .i64 S, .int .i64 G, .int .i64 W, .int .i64 D, .int .i64 L, .slice Ac nc cc, .slice As ns cs] ∧ Blk wr (w.heap.size + 1) 27 #[.int .i64 T, .int .i64 (pn : Int), .int .i64 Mo, .int .i64 Nx, .int .i64 Me] ∧ Below w.heap.size w wr)
        (fun i _ => pn - (intOf i).toNat)
      case atStart => exact ⟨0, by omega, rfl, kx, kb, kc, bc⟩
      case round =>
        clear kx kb kc bc
        obtain ⟨k, hk, rfl, kx, kb, kc, bc⟩ := hrel
        (try clear pkb0 pkb1 pkb2 pkb3 pkb4 pkb5 pkb6 pkb7)
        obtain ⟨pkb0, pkb1, pkb2, pkb3, pkb4, pkb5, pkb6, pkb7⟩ := kb.eight
        (try clear pkc0 pkc1 pkc2 pkc3 pkc4)
        obtain ⟨⟨pkc0, pkc1, pkc2, pkc3, pkc4⟩, -⟩ := kc.five
        (try clear pkx0 pkx1 pkx2 pkx3 pkx4)
        obtain ⟨⟨pkx0, pkx1, pkx2, pkx3, pkx4⟩, -⟩ := kx.five
        by_cases hlt : k < pn
        · have hlt2 : (k : Int) < (pn : Int) := by omega
          go_wp2_with (first
            | (go_at_call 19; with_reducible refine (HN.out _ bc).mono ?_; rintro e w1 ⟨gf, lb, rfl, hent, htells, hC⟩; have HE := Lib.hid hent; have HT := Lib.hid htells; clear hent htells; dsimp only; replace kb := kb.on hC; replace kc := kc.on hC; replace kx := kx.on hC; replace bc := bc.trans (hC.mono bc.size); clear hC; (try clear pkb0 pkb1 pkb2 pkb3 pkb4 pkb5 pkb6 pkb7); obtain ⟨pkb0, pkb1, pkb2, pkb3, pkb4, pkb5, pkb6, pkb7⟩ := kb.eight; (try clear pkc0 pkc1 pkc2 pkc3 pkc4); obtain ⟨⟨pkc0, pkc1, pkc2, pkc3, pkc4⟩, -⟩ := kc.five; (try clear pkx0 pkx1 pkx2 pkx3 pkx4); obtain ⟨⟨pkx0, pkx1, pkx2, pkx3, pkx4⟩, -⟩ := kx.five)
            | (go_at_call 18; with_reducible refine (HTO.out gf lb _ HE.out HT.out).mono ?_; rintro e w1 ⟨A9, c9, rfl, hC⟩; clear HE HT; dsimp only; replace kb := kb.on hC; replace kc := kc.on hC; replace kx := kx.on hC; replace bc := bc.trans (hC.mono bc.size); clear hC; (try clear pkb0 pkb1 pkb2 pkb3 pkb4 pkb5 pkb6 pkb7); obtain ⟨pkb0, pkb1, pkb2, pkb3, pkb4, pkb5, pkb6, pkb7⟩ := kb.eight; (try clear pkc0 pkc1 pkc2 pkc3 pkc4); obtain ⟨⟨pkc0, pkc1, pkc2, pkc3, pkc4⟩, -⟩ := kc.five; (try clear pkx0 pkx1 pkx2 pkx3 pkx4); obtain ⟨⟨pkx0, pkx1, pkx2, pkx3, pkx4⟩, -⟩ := kx.five))
          go_roundw
          case rel => exact ⟨k + 1, by omega, by go_num, kx, kb, kc, bc⟩
          case measure => simp [intOf]; omega
        · obtain rfl : k = pn := by omega
          go_wp2_with fail
          clear pkb0 pkb1 pkb2 pkb3 pkb4 pkb5 pkb6 pkb7 pkc0 pkc1 pkc2 pkc3 pkc4 pkx0 pkx1 pkx2 pkx3 pkx4
          obtain ⟨wo, hwo⟩ : ∃ x, x = wr := ⟨_, rfl⟩
          subst hwo
          go_loopw [12] (fun _ wr => ∃ x : CS, InRound T (k : Int) Mo Nx Me N x ∧ Blk wr gx 27 x.cells ∧ Blk wr w.heap.size 25 #[.int .i64 N, .int .i64 S, .int .i64 G, .int .i64 W, .int .i64 D, .int .i64 L, .slice Ac nc cc, .slice As ns cs] ∧ Blk wr (w.heap.size + 1) 27 #[.int .i64 T, .int .i64 (k : Int), .int .i64 Mo, .int .i64 Nx, .int .i64 Me] ∧ Below w.heap.size w wr)
            (fun _ wr => measX N T gx wr)
          case atStart => exact ⟨_, .inl ⟨(k : Int), Int.le_refl _, by omega, rfl⟩, kx, kb, kc, bc⟩
          case round =>
            clear kx kb kc bc
            obtain ⟨x, hx, kx, kb, kc, bc⟩ := hrel
            rcases hx with ⟨p, hp0, hp1, rfl⟩ | rfl
            · have hmo := measX_eq (N := N) (T := T) kx
              dsimp only [CS.cells] at kx hmo
              have hcx := hchk p (by omega) hp1
              have hgo : ∀ y, goneC ⟨T, p, Mo, Nx, Me⟩ N = y → stepC ⟨T, p, Mo, Nx, Me⟩ N = (0, y) := fun y h => by unfold stepC; rw [if_pos hcx, h]
              have hst1 := fun U => HS.out ⟨T, p, Mo, Nx, Me⟩ U
              dsimp only at hst1
              by_cases hp : p + 1 < N
              · skip
                by_cases hz : p = 0
                · subst hz
                  rw [hgo ⟨T, 1, Mo, Nx, Me⟩ (by unfold goneC; dsimp only; rw [if_pos (by omega)]; try rfl)] at hst1
                  dsimp only at hst1
                  have HS1 := Lib.hid hst1; have HMO := Lib.hid hmo; have HCX := Lib.hid hcx; clear hst1 hmo hgo hcx
                  (try clear pkb0 pkb1 pkb2 pkb3 pkb4 pkb5 pkb6 pkb7)
                  obtain ⟨pkb0, pkb1, pkb2, pkb3, pkb4, pkb5, pkb6, pkb7⟩ := kb.eight
                  (try clear pkc0 pkc1 pkc2 pkc3 pkc4)
                  obtain ⟨⟨pkc0, pkc1, pkc2, pkc3, pkc4⟩, -⟩ := kc.five
                  (try clear pkx0 pkx1 pkx2 pkx3 pkx4)
                  obtain ⟨⟨pkx0, pkx1, pkx2, pkx3, pkx4⟩, -⟩ := kx.five
                  go_wp2_with fail
                  refine (HS1.out _).mono ?_
                  rintro e w3 ⟨rfl, hC⟩
                  dsimp only
                  replace kb := kb.on hC
                  replace kc := kc.on hC
                  replace kx := kx.on hC
                  replace bc := bc.trans (hC.mono bc.size)
                  clear hC
                  clear pkb0 pkb1 pkb2 pkb3 pkb4 pkb5 pkb6 pkb7 pkc0 pkc1 pkc2 pkc3 pkc4 pkx0 pkx1 pkx2 pkx3 pkx4
                  have ky := Blk.new w3 27 #[.int .i64 T, .int .i64 1, .int .i64 Mo, .int .i64 Nx, .int .i64 Me]
                  have al := Below.al w3 (.cells #[.int .i64 T, .int .i64 1, .int .i64 Mo, .int .i64 Nx, .int .i64 Me] 27)
                  have zy := kx.lt
                  replace kb := kb.on al; replace kc := kc.on al; replace kx := kx.on al; replace bc := bc.trans (al.mono bc.size); clear al
                  go_upto_region 15 with fail
                  generalize w3.alloc (.cells #[.int .i64 T, .int .i64 1, .int .i64 Mo, .int .i64 Nx, .int .i64 Me] 27) = u3 at *
                  generalize w3.heap.size = gy at *
                  clear w3
                  obtain ⟨⟨pkx0, pkx1, pkx2, pkx3, pkx4⟩, f0, f1, f2, f3, f4⟩ := kx.five
                  obtain ⟨⟨pky0, pky1, pky2, pky3, pky4⟩, -⟩ := ky.five
                  have j0 := kx.put5 (.int .i64 T) (.int .i64 1) (.int .i64 Mo) (.int .i64 Nx) (.int .i64 Me); have j1 := kb.far5 (g' := gx) (by omega) (.int .i64 T) (.int .i64 1) (.int .i64 Mo) (.int .i64 Nx) (.int .i64 Me); have j2 := kc.far5 (g' := gx) (by omega) (.int .i64 T) (.int .i64 1) (.int .i64 Mo) (.int .i64 Nx) (.int .i64 Me); have j3 := Below.put5 bc (g := gx) (by omega) (.int .i64 T) (.int .i64 1) (.int .i64 Mo) (.int .i64 Nx) (.int .i64 Me)
                  have J0 := Lib.hid j0; have J1 := Lib.hid j1; have J2 := Lib.hid j2; have J3 := Lib.hid j3; clear j0 j1 j2 j3 kx ky kb kc bc
                  go_wp2
                  go_roundw
                  case rel => exact ⟨⟨T, 1, Mo, Nx, Me⟩, .inl ⟨_, by omega, by omega, rfl⟩, J0.out, J1.out, J2.out, J3.out⟩
                  case measure => rw [HMO.out, measX_eq J0.out, if_neg (fun h => h.2 rfl), if_neg (fun h => h.2 rfl)]; omega
                · have hz2 : (p != 0) = true := neqz hz
                  rw [hgo ⟨T, p + 1, Mo, Nx, Me⟩ (by unfold goneC; dsimp only; rw [if_pos (by omega)])] at hst1
                  dsimp only at hst1
                  have HS1 := Lib.hid hst1; have HMO := Lib.hid hmo; have HCX := Lib.hid hcx; clear hst1 hmo hgo hcx
                  (try clear pkb0 pkb1 pkb2 pkb3 pkb4 pkb5 pkb6 pkb7)
                  obtain ⟨pkb0, pkb1, pkb2, pkb3, pkb4, pkb5, pkb6, pkb7⟩ := kb.eight
                  (try clear pkc0 pkc1 pkc2 pkc3 pkc4)
                  obtain ⟨⟨pkc0, pkc1, pkc2, pkc3, pkc4⟩, -⟩ := kc.five
                  (try clear pkx0 pkx1 pkx2 pkx3 pkx4)
                  obtain ⟨⟨pkx0, pkx1, pkx2, pkx3, pkx4⟩, -⟩ := kx.five
                  go_wp2_with fail
                  refine (HS1.out _).mono ?_
                  rintro e w3 ⟨rfl, hC⟩
                  dsimp only
                  replace kb := kb.on hC
                  replace kc := kc.on hC
                  replace kx := kx.on hC
                  replace bc := bc.trans (hC.mono bc.size)
                  clear hC
                  clear pkb0 pkb1 pkb2 pkb3 pkb4 pkb5 pkb6 pkb7 pkc0 pkc1 pkc2 pkc3 pkc4 pkx0 pkx1 pkx2 pkx3 pkx4
                  have ky := Blk.new w3 27 #[.int .i64 T, .int .i64 (p + 1), .int .i64 Mo, .int .i64 Nx, .int .i64 Me]
                  have al := Below.al w3 (.cells #[.int .i64 T, .int .i64 (p + 1), .int .i64 Mo, .int .i64 Nx, .int .i64 Me] 27)
                  have zy := kx.lt
                  replace kb := kb.on al; replace kc := kc.on al; replace kx := kx.on al; replace bc := bc.trans (al.mono bc.size); clear al
                  go_upto_region 15 with fail
                  generalize w3.alloc (.cells #[.int .i64 T, .int .i64 (p + 1), .int .i64 Mo, .int .i64 Nx, .int .i64 Me] 27) = u3 at *
                  generalize w3.heap.size = gy at *
                  clear w3
                  obtain ⟨⟨pkx0, pkx1, pkx2, pkx3, pkx4⟩, f0, f1, f2, f3, f4⟩ := kx.five
                  obtain ⟨⟨pky0, pky1, pky2, pky3, pky4⟩, -⟩ := ky.five
                  have j0 := kx.put5 (.int .i64 T) (.int .i64 (p + 1)) (.int .i64 Mo) (.int .i64 Nx) (.int .i64 Me); have j1 := kb.far5 (g' := gx) (by omega) (.int .i64 T) (.int .i64 (p + 1)) (.int .i64 Mo) (.int .i64 Nx) (.int .i64 Me); have j2 := kc.far5 (g' := gx) (by omega) (.int .i64 T) (.int .i64 (p + 1)) (.int .i64 Mo) (.int .i64 Nx) (.int .i64 Me); have j3 := Below.put5 bc (g := gx) (by omega) (.int .i64 T) (.int .i64 (p + 1)) (.int .i64 Mo) (.int .i64 Nx) (.int .i64 Me)
                  have J0 := Lib.hid j0; have J1 := Lib.hid j1; have J2 := Lib.hid j2; have J3 := Lib.hid j3; clear j0 j1 j2 j3 kx ky kb kc bc
                  go_wp2
                  go_roundw
                  case rel => exact ⟨⟨T, p + 1, Mo, Nx, Me⟩, .inl ⟨_, by omega, by omega, rfl⟩, J0.out, J1.out, J2.out, J3.out⟩
                  case measure => rw [HMO.out, measX_eq J0.out, if_neg (fun h => h.2 rfl), if_neg (fun h => h.2 rfl)]; omega
              · skip
                by_cases hz : p = 0
                · subst hz
                  exfalso; omega
                · have hz2 : (p != 0) = true := neqz hz
                  rw [hgo ⟨(T + 1) % 256, 0, (Nx - 1), 0, Me⟩ (by unfold goneC; dsimp only; rw [if_neg (by omega)]; try rw [if_neg (by omega)])] at hst1
                  dsimp only at hst1
                  have HS1 := Lib.hid hst1; have HMO := Lib.hid hmo; have HCX := Lib.hid hcx; clear hst1 hmo hgo hcx
                  (try clear pkb0 pkb1 pkb2 pkb3 pkb4 pkb5 pkb6 pkb7)
                  obtain ⟨pkb0, pkb1, pkb2, pkb3, pkb4, pkb5, pkb6, pkb7⟩ := kb.eight
                  (try clear pkc0 pkc1 pkc2 pkc3 pkc4)
                  obtain ⟨⟨pkc0, pkc1, pkc2, pkc3, pkc4⟩, -⟩ := kc.five
                  (try clear pkx0 pkx1 pkx2 pkx3 pkx4)
                  obtain ⟨⟨pkx0, pkx1, pkx2, pkx3, pkx4⟩, -⟩ := kx.five
                  go_wp2_with fail
                  refine (HS1.out _).mono ?_
                  rintro e w3 ⟨rfl, hC⟩
                  dsimp only
                  replace kb := kb.on hC
                  replace kc := kc.on hC
                  replace kx := kx.on hC
                  replace bc := bc.trans (hC.mono bc.size)
                  clear hC
                  clear pkb0 pkb1 pkb2 pkb3 pkb4 pkb5 pkb6 pkb7 pkc0 pkc1 pkc2 pkc3 pkc4 pkx0 pkx1 pkx2 pkx3 pkx4
                  have ky := Blk.new w3 27 #[.int .i64 ((T + 1) % 256), .int .i64 0, .int .i64 (Nx - 1), .int .i64 0, .int .i64 Me]
                  have al := Below.al w3 (.cells #[.int .i64 ((T + 1) % 256), .int .i64 0, .int .i64 (Nx - 1), .int .i64 0, .int .i64 Me] 27)
                  have zy := kx.lt
                  replace kb := kb.on al; replace kc := kc.on al; replace kx := kx.on al; replace bc := bc.trans (al.mono bc.size); clear al
                  go_upto_region 15 with fail
                  generalize w3.alloc (.cells #[.int .i64 ((T + 1) % 256), .int .i64 0, .int .i64 (Nx - 1), .int .i64 0, .int .i64 Me] 27) = u3 at *
                  generalize w3.heap.size = gy at *
                  clear w3
                  obtain ⟨⟨pkx0, pkx1, pkx2, pkx3, pkx4⟩, f0, f1, f2, f3, f4⟩ := kx.five
                  obtain ⟨⟨pky0, pky1, pky2, pky3, pky4⟩, -⟩ := ky.five
                  have j0 := kx.put5 (.int .i64 ((T + 1) % 256)) (.int .i64 0) (.int .i64 (Nx - 1)) (.int .i64 0) (.int .i64 Me); have j1 := kb.far5 (g' := gx) (by omega) (.int .i64 ((T + 1) % 256)) (.int .i64 0) (.int .i64 (Nx - 1)) (.int .i64 0) (.int .i64 Me); have j2 := kc.far5 (g' := gx) (by omega) (.int .i64 ((T + 1) % 256)) (.int .i64 0) (.int .i64 (Nx - 1)) (.int .i64 0) (.int .i64 Me); have j3 := Below.put5 bc (g := gx) (by omega) (.int .i64 ((T + 1) % 256)) (.int .i64 0) (.int .i64 (Nx - 1)) (.int .i64 0) (.int .i64 Me)
                  have J0 := Lib.hid j0; have J1 := Lib.hid j1; have J2 := Lib.hid j2; have J3 := Lib.hid j3; clear j0 j1 j2 j3 kx ky kb kc bc
                  go_wp2
                  go_roundw
                  case rel => exact ⟨⟨(T + 1) % 256, 0, (Nx - 1), 0, Me⟩, .inr (by rw [if_neg (by omega)]), J0.out, J1.out, J2.out, J3.out⟩
                  case measure => rw [HMO.out, measX_eq J0.out, if_pos ⟨rfl, by omega⟩, if_neg (fun h => h.2 rfl)]; omega
            · dsimp only [CS.cells] at kx
              rw [if_neg (by omega)] at kx
              have hte : ((T + 1) % 256 == T) = false := by simp; omega
              (try clear pkb0 pkb1 pkb2 pkb3 pkb4 pkb5 pkb6 pkb7)
              obtain ⟨pkb0, pkb1, pkb2, pkb3, pkb4, pkb5, pkb6, pkb7⟩ := kb.eight
              (try clear pkc0 pkc1 pkc2 pkc3 pkc4)
              obtain ⟨⟨pkc0, pkc1, pkc2, pkc3, pkc4⟩, -⟩ := kc.five
              (try clear pkx0 pkx1 pkx2 pkx3 pkx4)
              obtain ⟨⟨pkx0, pkx1, pkx2, pkx3, pkx4⟩, -⟩ := kx.five
              go_wp2
              all_goals (go_ret; exact ⟨rfl, bc⟩)
  · rw [ea] at ha
    have ht1 := fun U h => ht (n + 1) U h
    rw [et] at ht1
    unfold withNx at ht1
    dsimp only at ht1 hx0
    obtain ⟨R, hR⟩ : ∃ R, R = n + 1 := ⟨_, rfl⟩
    have hwn : IntKind.i64.wrap (n + 1) = R := by rw [hR]; exact IntWalk.i64_in _ (by omega)
    have hR1 : 1 ≤ R ∧ R ≤ 4 := by omega
    rw [← hR] at ha ht1
    subst hx0
    have hx : R ≠ 0 := by omega
    have hnl := hnn ⟨T, (pn : Int), Mo, R, Me⟩ hx
    have hne1 := fun U h => hne ⟨T, (pn : Int), Mo, R, Me⟩ U h
    have hto1 := fun gf lb U h1 h2 => hto gf lb ⟨T, (pn : Int), Mo, R, Me⟩ U h1 h2
    rw [hnl] at hto1
    dsimp only [List.length_nil] at hto1
    have hchk := fun p (h0 : 0 ≤ p) (h1 : p < m.N) => check_on (X' := R) hck h0 h1 (by omega)
    have hx1 : (R == 0) = false := eqz hx
    have hx2 : (R != 0) = true := neqz hx
    have hwx : IntKind.i64.wrap (R - 1) = R - 1 := IntWalk.i64_in _ (by omega)
    clear hnn hne hto ht ea et hmy hck hnl hR
    obtain ⟨N, S, G, W, D, L, cold, ms⟩ := m
    obtain ⟨Ac, nc, cc⟩ := c
    obtain ⟨As, ns, cs⟩ := s
    dsimp only [vM, CS.cells, withNx] at *
    have HA := Lib.hid ha; have HK := Lib.hid ht1; have HS := Lib.hid hst; clear ha ht1 hst
    have HN := Lib.hid hne1; have HTO := Lib.hid hto1; clear hne1 hto1
    obtain ⟨kb, kc, bc⟩ := bx2 w #[.int .i64 N, .int .i64 S, .int .i64 G, .int .i64 W, .int .i64 D, .int .i64 L, .slice Ac nc cc, .slice As ns cs] #[.int .i64 T, .int .i64 (pn : Int), .int .i64 Mo, .int .i64 0, .int .i64 Me] 25 27
    go_enter Try.func4, Try.ntmps4
    go_wp2_with (first
      | (go_at_call 13; with_reducible refine (begun10_any _).mono ?_; rintro e w1 ⟨rfl, hC⟩; dsimp only; replace kb := kb.on hC; replace kc := kc.on hC; replace bc := bc.trans (hC.mono bc.size); clear hC; (try clear pkb0 pkb1 pkb2 pkb3 pkb4 pkb5 pkb6 pkb7); obtain ⟨pkb0, pkb1, pkb2, pkb3, pkb4, pkb5, pkb6, pkb7⟩ := kb.eight; (try clear pkc0 pkc1 pkc2 pkc3 pkc4); obtain ⟨⟨pkc0, pkc1, pkc2, pkc3, pkc4⟩, -⟩ := kc.five)
      | (go_at_call 7; with_reducible refine (HA.out _ bc).mono ?_; rintro e w1 ⟨rfl, hC⟩; dsimp only; replace kb := kb.on hC; replace kc := kc.on hC; replace bc := bc.trans (hC.mono bc.size); clear hC; (try clear pkb0 pkb1 pkb2 pkb3 pkb4 pkb5 pkb6 pkb7); obtain ⟨pkb0, pkb1, pkb2, pkb3, pkb4, pkb5, pkb6, pkb7⟩ := kb.eight; (try clear pkc0 pkc1 pkc2 pkc3 pkc4); obtain ⟨⟨pkc0, pkc1, pkc2, pkc3, pkc4⟩, -⟩ := kc.five))
    refine (HK.out _ bc).mono ?_
    rintro e w1 ⟨rfl, hC⟩
    dsimp only
    replace kb := kb.on hC
    replace kc := kc.on hC
    replace bc := bc.trans (hC.mono bc.size)
    clear hC
    clear pkb0 pkb1 pkb2 pkb3 pkb4 pkb5 pkb6 pkb7 pkc0 pkc1 pkc2 pkc3 pkc4
    have kx := Blk.new w1 27 #[.int .i64 T, .int .i64 (pn : Int), .int .i64 Mo, .int .i64 R, .int .i64 Me]
    have al := Below.al w1 (.cells #[.int .i64 T, .int .i64 (pn : Int), .int .i64 Mo, .int .i64 R, .int .i64 Me] 27)
    have zx := kc.lt
    replace kb := kb.on al; replace kc := kc.on al; replace bc := bc.trans (al.mono bc.size); clear al
    go_upto_region 5 with fail
    generalize w1.alloc (.cells #[.int .i64 T, .int .i64 (pn : Int), .int .i64 Mo, .int .i64 R, .int .i64 Me] 27) = u1 at *
    generalize w1.heap.size = gx at *
    clear w1
    (try clear pkb0 pkb1 pkb2 pkb3 pkb4 pkb5 pkb6 pkb7)
    obtain ⟨pkb0, pkb1, pkb2, pkb3, pkb4, pkb5, pkb6, pkb7⟩ := kb.eight
    (try clear pkc0 pkc1 pkc2 pkc3 pkc4)
    obtain ⟨⟨pkc0, pkc1, pkc2, pkc3, pkc4⟩, -⟩ := kc.five
    (try clear pkx0 pkx1 pkx2 pkx3 pkx4)
    obtain ⟨⟨pkx0, pkx1, pkx2, pkx3, pkx4⟩, -⟩ := kx.five
    go_wp2_with fail
    clear pkb0 pkb1 pkb2 pkb3 pkb4 pkb5 pkb6 pkb7 pkc0 pkc1 pkc2 pkc3 pkc4 pkx0 pkx1 pkx2 pkx3 pkx4
    go_loopw [63] (fun i wr => ∃ k : Nat, k ≤ pn ∧ i = .int .i64 k ∧ Blk wr gx 27 #[.int .i64 T, .int .i64 (pn : Int), .int .i64 Mo, .int .i64 R, .int .i64 Me] ∧ Blk wr w.heap.size 25 #[.int .i64 N, .int .i64 S, .int .i64 G, .int .i64 W, .int .i64 D, .int .i64 L, .slice Ac nc cc, .slice As ns cs] ∧ Blk wr (w.heap.size + 1) 27 #[.int .i64 T, .int .i64 (pn : Int), .int .i64 Mo, .int .i64 0, .int .i64 Me] ∧ Below w.heap.size w wr)
      (fun i _ => pn - (intOf i).toNat)
    case atStart => exact ⟨0, by omega, rfl, kx, kb, kc, bc⟩
    case round =>
      clear kx kb kc bc
      obtain ⟨k, hk, rfl, kx, kb, kc, bc⟩ := hrel
      (try clear pkb0 pkb1 pkb2 pkb3 pkb4 pkb5 pkb6 pkb7)
      obtain ⟨pkb0, pkb1, pkb2, pkb3, pkb4, pkb5, pkb6, pkb7⟩ := kb.eight
      (try clear pkc0 pkc1 pkc2 pkc3 pkc4)
      obtain ⟨⟨pkc0, pkc1, pkc2, pkc3, pkc4⟩, -⟩ := kc.five
      (try clear pkx0 pkx1 pkx2 pkx3 pkx4)
      obtain ⟨⟨pkx0, pkx1, pkx2, pkx3, pkx4⟩, -⟩ := kx.five
      by_cases hlt : k < pn
      · have hlt2 : (k : Int) < (pn : Int) := by omega
        go_wp2_with (first
          | (go_at_call 19; with_reducible refine (HN.out _ bc).mono ?_; rintro e w1 ⟨gf, lb, rfl, hent, htells, hC⟩; have HE := Lib.hid hent; have HT := Lib.hid htells; clear hent htells; dsimp only; replace kb := kb.on hC; replace kc := kc.on hC; replace kx := kx.on hC; replace bc := bc.trans (hC.mono bc.size); clear hC; (try clear pkb0 pkb1 pkb2 pkb3 pkb4 pkb5 pkb6 pkb7); obtain ⟨pkb0, pkb1, pkb2, pkb3, pkb4, pkb5, pkb6, pkb7⟩ := kb.eight; (try clear pkc0 pkc1 pkc2 pkc3 pkc4); obtain ⟨⟨pkc0, pkc1, pkc2, pkc3, pkc4⟩, -⟩ := kc.five; (try clear pkx0 pkx1 pkx2 pkx3 pkx4); obtain ⟨⟨pkx0, pkx1, pkx2, pkx3, pkx4⟩, -⟩ := kx.five)
          | (go_at_call 18; with_reducible refine (HTO.out gf lb _ HE.out HT.out).mono ?_; rintro e w1 ⟨A9, c9, rfl, hC⟩; clear HE HT; dsimp only; replace kb := kb.on hC; replace kc := kc.on hC; replace kx := kx.on hC; replace bc := bc.trans (hC.mono bc.size); clear hC; (try clear pkb0 pkb1 pkb2 pkb3 pkb4 pkb5 pkb6 pkb7); obtain ⟨pkb0, pkb1, pkb2, pkb3, pkb4, pkb5, pkb6, pkb7⟩ := kb.eight; (try clear pkc0 pkc1 pkc2 pkc3 pkc4); obtain ⟨⟨pkc0, pkc1, pkc2, pkc3, pkc4⟩, -⟩ := kc.five; (try clear pkx0 pkx1 pkx2 pkx3 pkx4); obtain ⟨⟨pkx0, pkx1, pkx2, pkx3, pkx4⟩, -⟩ := kx.five))
        go_roundw
        case rel => exact ⟨k + 1, by omega, by go_num, kx, kb, kc, bc⟩
        case measure => simp [intOf]; omega
      · obtain rfl : k = pn := by omega
        go_wp2_with fail
        clear pkb0 pkb1 pkb2 pkb3 pkb4 pkb5 pkb6 pkb7 pkc0 pkc1 pkc2 pkc3 pkc4 pkx0 pkx1 pkx2 pkx3 pkx4
        obtain ⟨wo, hwo⟩ : ∃ x, x = wr := ⟨_, rfl⟩
        subst hwo
        go_loopw [12] (fun _ wr => ∃ x : CS, InRound T (k : Int) Mo R Me N x ∧ Blk wr gx 27 x.cells ∧ Blk wr w.heap.size 25 #[.int .i64 N, .int .i64 S, .int .i64 G, .int .i64 W, .int .i64 D, .int .i64 L, .slice Ac nc cc, .slice As ns cs] ∧ Blk wr (w.heap.size + 1) 27 #[.int .i64 T, .int .i64 (k : Int), .int .i64 Mo, .int .i64 0, .int .i64 Me] ∧ Below w.heap.size w wr)
          (fun _ wr => measX N T gx wr)
        case atStart => exact ⟨_, .inl ⟨(k : Int), Int.le_refl _, by omega, rfl⟩, kx, kb, kc, bc⟩
        case round =>
          clear kx kb kc bc
          obtain ⟨x, hx, kx, kb, kc, bc⟩ := hrel
          rcases hx with ⟨p, hp0, hp1, rfl⟩ | rfl
          · have hmo := measX_eq (N := N) (T := T) kx
            dsimp only [CS.cells] at kx hmo
            have hcx := hchk p (by omega) hp1
            have hgo : ∀ y, goneC ⟨T, p, Mo, R, Me⟩ N = y → stepC ⟨T, p, Mo, R, Me⟩ N = (0, y) := fun y h => by unfold stepC; rw [if_pos hcx, h]
            have hst1 := fun U => HS.out ⟨T, p, Mo, R, Me⟩ U
            dsimp only at hst1
            by_cases hp : p + 1 < N
            · skip
              by_cases hz : p = 0
              · subst hz
                rw [hgo ⟨T, 1, Mo, R, Me⟩ (by unfold goneC; dsimp only; rw [if_pos (by omega)]; try rfl)] at hst1
                dsimp only at hst1
                have HS1 := Lib.hid hst1; have HMO := Lib.hid hmo; have HCX := Lib.hid hcx; clear hst1 hmo hgo hcx
                (try clear pkb0 pkb1 pkb2 pkb3 pkb4 pkb5 pkb6 pkb7)
                obtain ⟨pkb0, pkb1, pkb2, pkb3, pkb4, pkb5, pkb6, pkb7⟩ := kb.eight
                (try clear pkc0 pkc1 pkc2 pkc3 pkc4)
                obtain ⟨⟨pkc0, pkc1, pkc2, pkc3, pkc4⟩, -⟩ := kc.five
                (try clear pkx0 pkx1 pkx2 pkx3 pkx4)
                obtain ⟨⟨pkx0, pkx1, pkx2, pkx3, pkx4⟩, -⟩ := kx.five
                go_wp2_with fail
                refine (HS1.out _).mono ?_
                rintro e w3 ⟨rfl, hC⟩
                dsimp only
                replace kb := kb.on hC
                replace kc := kc.on hC
                replace kx := kx.on hC
                replace bc := bc.trans (hC.mono bc.size)
                clear hC
                clear pkb0 pkb1 pkb2 pkb3 pkb4 pkb5 pkb6 pkb7 pkc0 pkc1 pkc2 pkc3 pkc4 pkx0 pkx1 pkx2 pkx3 pkx4
                have ky := Blk.new w3 27 #[.int .i64 T, .int .i64 1, .int .i64 Mo, .int .i64 R, .int .i64 Me]
                have al := Below.al w3 (.cells #[.int .i64 T, .int .i64 1, .int .i64 Mo, .int .i64 R, .int .i64 Me] 27)
                have zy := kx.lt
                replace kb := kb.on al; replace kc := kc.on al; replace kx := kx.on al; replace bc := bc.trans (al.mono bc.size); clear al
                go_upto_region 15 with fail
                generalize w3.alloc (.cells #[.int .i64 T, .int .i64 1, .int .i64 Mo, .int .i64 R, .int .i64 Me] 27) = u3 at *
                generalize w3.heap.size = gy at *
                clear w3
                obtain ⟨⟨pkx0, pkx1, pkx2, pkx3, pkx4⟩, f0, f1, f2, f3, f4⟩ := kx.five
                obtain ⟨⟨pky0, pky1, pky2, pky3, pky4⟩, -⟩ := ky.five
                have j0 := kx.put5 (.int .i64 T) (.int .i64 1) (.int .i64 Mo) (.int .i64 R) (.int .i64 Me); have j1 := kb.far5 (g' := gx) (by omega) (.int .i64 T) (.int .i64 1) (.int .i64 Mo) (.int .i64 R) (.int .i64 Me); have j2 := kc.far5 (g' := gx) (by omega) (.int .i64 T) (.int .i64 1) (.int .i64 Mo) (.int .i64 R) (.int .i64 Me); have j3 := Below.put5 bc (g := gx) (by omega) (.int .i64 T) (.int .i64 1) (.int .i64 Mo) (.int .i64 R) (.int .i64 Me)
                have J0 := Lib.hid j0; have J1 := Lib.hid j1; have J2 := Lib.hid j2; have J3 := Lib.hid j3; clear j0 j1 j2 j3 kx ky kb kc bc
                go_wp2
                go_roundw
                case rel => exact ⟨⟨T, 1, Mo, R, Me⟩, .inl ⟨_, by omega, by omega, rfl⟩, J0.out, J1.out, J2.out, J3.out⟩
                case measure => rw [HMO.out, measX_eq J0.out, if_neg (fun h => h.2 rfl), if_neg (fun h => h.2 rfl)]; omega
              · have hz2 : (p != 0) = true := neqz hz
                rw [hgo ⟨T, p + 1, Mo, R, Me⟩ (by unfold goneC; dsimp only; rw [if_pos (by omega)])] at hst1
                dsimp only at hst1
                have HS1 := Lib.hid hst1; have HMO := Lib.hid hmo; have HCX := Lib.hid hcx; clear hst1 hmo hgo hcx
                (try clear pkb0 pkb1 pkb2 pkb3 pkb4 pkb5 pkb6 pkb7)
                obtain ⟨pkb0, pkb1, pkb2, pkb3, pkb4, pkb5, pkb6, pkb7⟩ := kb.eight
                (try clear pkc0 pkc1 pkc2 pkc3 pkc4)
                obtain ⟨⟨pkc0, pkc1, pkc2, pkc3, pkc4⟩, -⟩ := kc.five
                (try clear pkx0 pkx1 pkx2 pkx3 pkx4)
                obtain ⟨⟨pkx0, pkx1, pkx2, pkx3, pkx4⟩, -⟩ := kx.five
                go_wp2_with fail
                refine (HS1.out _).mono ?_
                rintro e w3 ⟨rfl, hC⟩
                dsimp only
                replace kb := kb.on hC
                replace kc := kc.on hC
                replace kx := kx.on hC
                replace bc := bc.trans (hC.mono bc.size)
                clear hC
                clear pkb0 pkb1 pkb2 pkb3 pkb4 pkb5 pkb6 pkb7 pkc0 pkc1 pkc2 pkc3 pkc4 pkx0 pkx1 pkx2 pkx3 pkx4
                have ky := Blk.new w3 27 #[.int .i64 T, .int .i64 (p + 1), .int .i64 Mo, .int .i64 R, .int .i64 Me]
                have al := Below.al w3 (.cells #[.int .i64 T, .int .i64 (p + 1), .int .i64 Mo, .int .i64 R, .int .i64 Me] 27)
                have zy := kx.lt
                replace kb := kb.on al; replace kc := kc.on al; replace kx := kx.on al; replace bc := bc.trans (al.mono bc.size); clear al
                go_upto_region 15 with fail
                generalize w3.alloc (.cells #[.int .i64 T, .int .i64 (p + 1), .int .i64 Mo, .int .i64 R, .int .i64 Me] 27) = u3 at *
                generalize w3.heap.size = gy at *
                clear w3
                obtain ⟨⟨pkx0, pkx1, pkx2, pkx3, pkx4⟩, f0, f1, f2, f3, f4⟩ := kx.five
                obtain ⟨⟨pky0, pky1, pky2, pky3, pky4⟩, -⟩ := ky.five
                have j0 := kx.put5 (.int .i64 T) (.int .i64 (p + 1)) (.int .i64 Mo) (.int .i64 R) (.int .i64 Me); have j1 := kb.far5 (g' := gx) (by omega) (.int .i64 T) (.int .i64 (p + 1)) (.int .i64 Mo) (.int .i64 R) (.int .i64 Me); have j2 := kc.far5 (g' := gx) (by omega) (.int .i64 T) (.int .i64 (p + 1)) (.int .i64 Mo) (.int .i64 R) (.int .i64 Me); have j3 := Below.put5 bc (g := gx) (by omega) (.int .i64 T) (.int .i64 (p + 1)) (.int .i64 Mo) (.int .i64 R) (.int .i64 Me)
                have J0 := Lib.hid j0; have J1 := Lib.hid j1; have J2 := Lib.hid j2; have J3 := Lib.hid j3; clear j0 j1 j2 j3 kx ky kb kc bc
                go_wp2
                go_roundw
                case rel => exact ⟨⟨T, p + 1, Mo, R, Me⟩, .inl ⟨_, by omega, by omega, rfl⟩, J0.out, J1.out, J2.out, J3.out⟩
                case measure => rw [HMO.out, measX_eq J0.out, if_neg (fun h => h.2 rfl), if_neg (fun h => h.2 rfl)]; omega
            · skip
              by_cases hz : p = 0
              · subst hz
                exfalso; omega
              · have hz2 : (p != 0) = true := neqz hz
                rw [hgo ⟨(T + 1) % 256, 0, (R - 1), 0, Me⟩ (by unfold goneC; dsimp only; rw [if_neg (by omega)]; try rw [if_neg (by omega)])] at hst1
                dsimp only at hst1
                have HS1 := Lib.hid hst1; have HMO := Lib.hid hmo; have HCX := Lib.hid hcx; clear hst1 hmo hgo hcx
                (try clear pkb0 pkb1 pkb2 pkb3 pkb4 pkb5 pkb6 pkb7)
                obtain ⟨pkb0, pkb1, pkb2, pkb3, pkb4, pkb5, pkb6, pkb7⟩ := kb.eight
                (try clear pkc0 pkc1 pkc2 pkc3 pkc4)
                obtain ⟨⟨pkc0, pkc1, pkc2, pkc3, pkc4⟩, -⟩ := kc.five
                (try clear pkx0 pkx1 pkx2 pkx3 pkx4)
                obtain ⟨⟨pkx0, pkx1, pkx2, pkx3, pkx4⟩, -⟩ := kx.five
                go_wp2_with fail
                refine (HS1.out _).mono ?_
                rintro e w3 ⟨rfl, hC⟩
                dsimp only
                replace kb := kb.on hC
                replace kc := kc.on hC
                replace kx := kx.on hC
                replace bc := bc.trans (hC.mono bc.size)
                clear hC
                clear pkb0 pkb1 pkb2 pkb3 pkb4 pkb5 pkb6 pkb7 pkc0 pkc1 pkc2 pkc3 pkc4 pkx0 pkx1 pkx2 pkx3 pkx4
                have ky := Blk.new w3 27 #[.int .i64 ((T + 1) % 256), .int .i64 0, .int .i64 (R - 1), .int .i64 0, .int .i64 Me]
                have al := Below.al w3 (.cells #[.int .i64 ((T + 1) % 256), .int .i64 0, .int .i64 (R - 1), .int .i64 0, .int .i64 Me] 27)
                have zy := kx.lt
                replace kb := kb.on al; replace kc := kc.on al; replace kx := kx.on al; replace bc := bc.trans (al.mono bc.size); clear al
                go_upto_region 15 with fail
                generalize w3.alloc (.cells #[.int .i64 ((T + 1) % 256), .int .i64 0, .int .i64 (R - 1), .int .i64 0, .int .i64 Me] 27) = u3 at *
                generalize w3.heap.size = gy at *
                clear w3
                obtain ⟨⟨pkx0, pkx1, pkx2, pkx3, pkx4⟩, f0, f1, f2, f3, f4⟩ := kx.five
                obtain ⟨⟨pky0, pky1, pky2, pky3, pky4⟩, -⟩ := ky.five
                have j0 := kx.put5 (.int .i64 ((T + 1) % 256)) (.int .i64 0) (.int .i64 (R - 1)) (.int .i64 0) (.int .i64 Me); have j1 := kb.far5 (g' := gx) (by omega) (.int .i64 ((T + 1) % 256)) (.int .i64 0) (.int .i64 (R - 1)) (.int .i64 0) (.int .i64 Me); have j2 := kc.far5 (g' := gx) (by omega) (.int .i64 ((T + 1) % 256)) (.int .i64 0) (.int .i64 (R - 1)) (.int .i64 0) (.int .i64 Me); have j3 := Below.put5 bc (g := gx) (by omega) (.int .i64 ((T + 1) % 256)) (.int .i64 0) (.int .i64 (R - 1)) (.int .i64 0) (.int .i64 Me)
                have J0 := Lib.hid j0; have J1 := Lib.hid j1; have J2 := Lib.hid j2; have J3 := Lib.hid j3; clear j0 j1 j2 j3 kx ky kb kc bc
                go_wp2
                go_roundw
                case rel => exact ⟨⟨(T + 1) % 256, 0, (R - 1), 0, Me⟩, .inr (by rw [if_neg (by omega)]), J0.out, J1.out, J2.out, J3.out⟩
                case measure => rw [HMO.out, measX_eq J0.out, if_pos ⟨rfl, by omega⟩, if_neg (fun h => h.2 rfl)]; omega
          · dsimp only [CS.cells] at kx
            rw [if_neg (by omega)] at kx
            have hte : ((T + 1) % 256 == T) = false := by simp; omega
            (try clear pkb0 pkb1 pkb2 pkb3 pkb4 pkb5 pkb6 pkb7)
            obtain ⟨pkb0, pkb1, pkb2, pkb3, pkb4, pkb5, pkb6, pkb7⟩ := kb.eight
            (try clear pkc0 pkc1 pkc2 pkc3 pkc4)
            obtain ⟨⟨pkc0, pkc1, pkc2, pkc3, pkc4⟩, -⟩ := kc.five
            (try clear pkx0 pkx1 pkx2 pkx3 pkx4)
            obtain ⟨⟨pkx0, pkx1, pkx2, pkx3, pkx4⟩, -⟩ := kx.five
            go_wp2
            all_goals (go_ret; exact ⟨rfl, bc⟩)
end Go.Proofs.Ytaooonajfdbfhaa
