/-
  The statement of which modes may come next, of what is asked for and taken, and of how far modes reach. Condition: a list that can be read. (Printed by tools/gen10n.py.)
-/
import Derived.Test.YtaooonajfdbfhaaPK
import Derived.Test.YtaooonajfdbfhaaQD
namespace Go.Proofs.Ytaooonajfdbfhaa
open Go.RowKit

theorem neqC (X : Array Value) (a b c d e : Int) (hX : X = #[.int .i64 a, .int .i64 b, .int .i64 c, .int .i64 d, .int .i64 e]) (W : World) : (binOp .neq 27 (.agg X) (.agg X)).run Try.prog W = .ok (.bool false) W := by
  subst hX
  simp [go_sem]
/-- What is told, of the modes that may come next. -/
theorem toldK_any (gf : Nat) (lb : Array Value) (k : Nat) (m : ML) (st : CS) (w : World) (hk : k ≤ 9999)
    (hent : ∀ args w, (callFunc gf args).run Try.prog w = .ok (.enter gf args) w) (htells : ∀ w'', Below w.heap.size w w'' → ∀ n, 1 ≤ n → TellsB n gf lb (mayB m st) w'') :
    Calls Try.prog 18 #[.func (.func gf) #[] lb, .int .i64 (k : Int)] w fun e w' => ∃ A c, e = .returned (.slice A ((nextsS m st).take k).length c) ∧ Ints w'.heap.size w' A (intsN ((nextsS m st).take k)) ∧ Below w.heap.size w w' := by
  refine (told10_any gf lb k (mayB m st) w hk hent htells).mono ?_
  rintro e w' ⟨v, rfl, hrow, hC⟩
  obtain ⟨A, c, rfl, -, -, -, hI⟩ := ints_ownN hrow
  exact ⟨A, c, rfl, hI, hC⟩
theorem nexts_four (m : ML) (st : CS) : (nextsS m st).length ≤ 4 := mayTo_length m st 4
theorem near_intsN {w0 : World} {A : Option Addr} {l : List Int} (h : Ints w0.heap.size w0 A l) (n : NearW w0) : Ints n.W.heap.size n.W A l := (h.below n.h).mono n.h.size
theorem ints_cut {n : Nat} {W : World} {A : Option Addr} {l : List Int} (h : Ints n W A l) (k : Nat) : Ints n W A (l.take k) := by
  intro hne
  obtain ⟨b, off, e, hb, hc⟩ := h (fun e => hne (by rw [e]; simp))
  refine ⟨b, off, e, hb, fun j hj => ?_⟩
  have hj2 : j < k ∧ j < l.length := by rw [List.length_take] at hj; omega
  rw [hc j hj2.2]
  simp [hj2.1]
theorem near_five10 {w0 : World} {g : Nat} {t : TypeId} {a b c d e : Value} (h : Blk w0 g t #[a, b, c, d, e]) :
    (∀ n : NearW w0, n.W.cell? ⟨g, 0, none⟩ = some a) ∧ (∀ n : NearW w0, n.W.cell? ⟨g, 1, none⟩ = some b) ∧ (∀ n : NearW w0, n.W.cell? ⟨g, 2, none⟩ = some c) ∧ (∀ n : NearW w0, n.W.cell? ⟨g, 3, none⟩ = some d) ∧ (∀ n : NearW w0, n.W.cell? ⟨g, 4, none⟩ = some e) :=
  ⟨fun n => (h.below n.h h.lt).five.1.1, fun n => (h.below n.h h.lt).five.1.2.1, fun n => (h.below n.h h.lt).five.1.2.2.1, fun n => (h.below n.h h.lt).five.1.2.2.2.1, fun n => (h.below n.h h.lt).five.1.2.2.2.2⟩

set_option maxRecDepth 100000 in
set_option maxHeartbeats 4000000 in
theorem tells10_law (m : ML) (c s : Slc) (st : CS) (n t ch : Int) (mo : Nat) (w : World) (hmo : mo < 256) (hM : Med w m c s) : Calls Try.prog 3 #[vM m c s, .agg st.cells, .int .i64 n, .int .i64 t, .int .i64 ch, .int .u8 (mo : Int)] w fun e w' => e = .returned (.bool true) ∧ Below w.heap.size w w' := by
  have h1 := fun U (h : Below w.heap.size w U) => ask_any m c s st n U (hM.on h)
  have h2 := fun U (h : Below w.heap.size w U) => rask_any m c s st n U (hM.on h)
  have h3 := fun U (h : Below w.heap.size w U) => take_any m c s st n U (hM.on h)
  have h4 := fun U (h : Below w.heap.size w U) => rtake_any m c s st n U (hM.on h)
  have h5 := fun U (h : Below w.heap.size w U) => reach_any m c s n t ch U (hM.on h)
  have h6 := fun U (h : Below w.heap.size w U) => rreach_any m c s n t ch U (hM.on h)
  have h7 := fun U (h : Below w.heap.size w U) => may_any m c s st n U (hM.on h)
  have h8 := fun U (h : Below w.heap.size w U) => rmay_any m c s st n U (hM.on h)
  have h9 := fun U (h : Below w.heap.size w U) => rnexts_any m c s st U (hM.on h)
  have h10 := fun U (h : Below w.heap.size w U) => nexts_any m c s st U (hM.on h)
  have h11 := fun gf lb U h1 h2 => toldK_any gf lb 99 m st U (by omega) h1 h2
  have h12 := fun gf lb U h1 h2 => toldK_any gf lb mo m st U (by omega) h1 h2
  have hl4 := nexts_four m st
  unfold ResK at h1 h2
  unfold ResC at h3 h4
  unfold ResT at h5 h6
  unfold NextsGives at h10
  clear hM
  generalize askS m st n = ra at *
  generalize takeS m st n = rt at *
  generalize reachS m n t ch = rr at *
  generalize mayN m st n = q at *
  generalize nextsS m st = ln at *
  generalize mayB m st = bs at *
  obtain ⟨e1, r1⟩ := ra
  obtain ⟨e2, x0, x1, x2, x3, x4⟩ := rt
  obtain ⟨e3, b3⟩ := rr
  have htk : ln.take 99 = ln := List.take_of_length_le (by omega)
  rw [htk] at h11
  have wmo : IntKind.i64.wrap (mo : Int) = (mo : Int) := IntWalk.i64_in _ (by omega)
  obtain ⟨N, S, G, W, D, L, cold, ms⟩ := m
  obtain ⟨Ac, nc, cc⟩ := c
  obtain ⟨As, ns, cs⟩ := s
  obtain ⟨T, P, Mo, Nx, Me⟩ := st
  dsimp only [vM, CS.cells] at *
  simp only [Int.cast_ofNat_Int] at h11
  have H1 := Lib.hid h1; have H2 := Lib.hid h2; have H3 := Lib.hid h3; have H4 := Lib.hid h4; have H5 := Lib.hid h5; have H6 := Lib.hid h6; have H7 := Lib.hid h7; have H8 := Lib.hid h8; have H9 := Lib.hid h9; have H10 := Lib.hid h10; have H11 := Lib.hid h11; have H12 := Lib.hid h12
  clear h1 h2 h3 h4 h5 h6 h7 h8 h9 h10 h11 h12 htk
  obtain ⟨kb, kc, bc⟩ := bx2 w #[.int .i64 N, .int .i64 S, .int .i64 G, .int .i64 W, .int .i64 D, .int .i64 L, .slice Ac nc cc, .slice As ns cs] #[.int .i64 T, .int .i64 P, .int .i64 Mo, .int .i64 Nx, .int .i64 Me] 25 27
  go_enter Try.func3, Try.ntmps3
  (try clear pkb0 pkb1 pkb2 pkb3 pkb4 pkb5 pkb6 pkb7)
  obtain ⟨pkb0, pkb1, pkb2, pkb3, pkb4, pkb5, pkb6, pkb7⟩ := kb.eight
  (try clear pkc0 pkc1 pkc2 pkc3 pkc4)
  obtain ⟨⟨pkc0, pkc1, pkc2, pkc3, pkc4⟩, -⟩ := kc.five
  (try clear pkb0 pkb1 pkb2 pkb3 pkb4 pkb5 pkb6 pkb7)
  obtain ⟨pkb0, pkb1, pkb2, pkb3, pkb4, pkb5, pkb6, pkb7⟩ := kb.eight
  (try clear pkc0 pkc1 pkc2 pkc3 pkc4)
  obtain ⟨⟨pkc0, pkc1, pkc2, pkc3, pkc4⟩, -⟩ := kc.five
  go_wp2_with fail
  refine (H1.out _ bc).mono ?_
  rintro e w1 ⟨rfl, hC⟩
  dsimp only
  replace kb := kb.on hC
  replace kc := kc.on hC
  replace bc := bc.trans (hC.mono bc.size)
  clear hC
  (try clear pkb0 pkb1 pkb2 pkb3 pkb4 pkb5 pkb6 pkb7); (try clear pkc0 pkc1 pkc2 pkc3 pkc4)
  (try clear pkb0 pkb1 pkb2 pkb3 pkb4 pkb5 pkb6 pkb7)
  obtain ⟨pkb0, pkb1, pkb2, pkb3, pkb4, pkb5, pkb6, pkb7⟩ := kb.eight
  (try clear pkc0 pkc1 pkc2 pkc3 pkc4)
  obtain ⟨⟨pkc0, pkc1, pkc2, pkc3, pkc4⟩, -⟩ := kc.five
  go_wp2_with fail
  refine (H2.out _ bc).mono ?_
  rintro e w2 ⟨rfl, hC⟩
  dsimp only
  replace kb := kb.on hC
  replace kc := kc.on hC
  replace bc := bc.trans (hC.mono bc.size)
  clear hC
  (try clear pkb0 pkb1 pkb2 pkb3 pkb4 pkb5 pkb6 pkb7); (try clear pkc0 pkc1 pkc2 pkc3 pkc4)
  (try clear pkb0 pkb1 pkb2 pkb3 pkb4 pkb5 pkb6 pkb7)
  obtain ⟨pkb0, pkb1, pkb2, pkb3, pkb4, pkb5, pkb6, pkb7⟩ := kb.eight
  (try clear pkc0 pkc1 pkc2 pkc3 pkc4)
  obtain ⟨⟨pkc0, pkc1, pkc2, pkc3, pkc4⟩, -⟩ := kc.five
  go_wp2_with fail
  refine (H3.out _ bc).mono ?_
  rintro e w3 ⟨rfl, hC⟩
  dsimp only
  replace kb := kb.on hC
  replace kc := kc.on hC
  replace bc := bc.trans (hC.mono bc.size)
  clear hC
  (try clear pkb0 pkb1 pkb2 pkb3 pkb4 pkb5 pkb6 pkb7); (try clear pkc0 pkc1 pkc2 pkc3 pkc4)
  have kx := Blk.new w3 27 #[.int .i64 x0, .int .i64 x1, .int .i64 x2, .int .i64 x3, .int .i64 x4]
  have al := Below.al w3 (.cells #[.int .i64 x0, .int .i64 x1, .int .i64 x2, .int .i64 x3, .int .i64 x4] 27)
  have z_kx_kb := kb.lt
  have z_kx_kc := kc.lt
  replace kb := kb.on al
  replace kc := kc.on al
  replace bc := bc.trans (al.mono bc.size)
  clear al
  go_upto_region 4 with fail
  generalize w3.alloc (.cells #[.int .i64 x0, .int .i64 x1, .int .i64 x2, .int .i64 x3, .int .i64 x4] 27) = u3 at *
  generalize w3.heap.size = gx at *
  clear w3
  (try clear pkb0 pkb1 pkb2 pkb3 pkb4 pkb5 pkb6 pkb7)
  obtain ⟨pkb0, pkb1, pkb2, pkb3, pkb4, pkb5, pkb6, pkb7⟩ := kb.eight
  (try clear pkc0 pkc1 pkc2 pkc3 pkc4)
  obtain ⟨⟨pkc0, pkc1, pkc2, pkc3, pkc4⟩, -⟩ := kc.five
  (try clear pkx0 pkx1 pkx2 pkx3 pkx4)
  obtain ⟨⟨pkx0, pkx1, pkx2, pkx3, pkx4⟩, -⟩ := kx.five
  go_wp2_with fail
  refine (H4.out _ bc).mono ?_
  rintro e w4 ⟨rfl, hC⟩
  dsimp only
  replace kb := kb.on hC
  replace kc := kc.on hC
  replace kx := kx.on hC
  replace bc := bc.trans (hC.mono bc.size)
  clear hC
  (try clear pkb0 pkb1 pkb2 pkb3 pkb4 pkb5 pkb6 pkb7); (try clear pkc0 pkc1 pkc2 pkc3 pkc4); (try clear pkx0 pkx1 pkx2 pkx3 pkx4)
  have ky := Blk.new w4 27 #[.int .i64 x0, .int .i64 x1, .int .i64 x2, .int .i64 x3, .int .i64 x4]
  have al := Below.al w4 (.cells #[.int .i64 x0, .int .i64 x1, .int .i64 x2, .int .i64 x3, .int .i64 x4] 27)
  have z_ky_kb := kb.lt
  have z_ky_kc := kc.lt
  have z_ky_kx := kx.lt
  replace kb := kb.on al
  replace kc := kc.on al
  replace kx := kx.on al
  replace bc := bc.trans (al.mono bc.size)
  clear al
  go_upto_region 5 with fail
  generalize w4.alloc (.cells #[.int .i64 x0, .int .i64 x1, .int .i64 x2, .int .i64 x3, .int .i64 x4] 27) = u4 at *
  generalize w4.heap.size = gy at *
  clear w4
  (try clear pkb0 pkb1 pkb2 pkb3 pkb4 pkb5 pkb6 pkb7)
  obtain ⟨pkb0, pkb1, pkb2, pkb3, pkb4, pkb5, pkb6, pkb7⟩ := kb.eight
  (try clear pkc0 pkc1 pkc2 pkc3 pkc4)
  obtain ⟨⟨pkc0, pkc1, pkc2, pkc3, pkc4⟩, -⟩ := kc.five
  (try clear pkx0 pkx1 pkx2 pkx3 pkx4)
  obtain ⟨⟨pkx0, pkx1, pkx2, pkx3, pkx4⟩, -⟩ := kx.five
  (try clear pky0 pky1 pky2 pky3 pky4)
  obtain ⟨⟨pky0, pky1, pky2, pky3, pky4⟩, -⟩ := ky.five
  go_wp2_with fail
  refine (H5.out _ bc).mono ?_
  rintro e w5 ⟨rfl, hC⟩
  dsimp only
  replace kb := kb.on hC
  replace kc := kc.on hC
  replace kx := kx.on hC
  replace ky := ky.on hC
  replace bc := bc.trans (hC.mono bc.size)
  clear hC
  (try clear pkb0 pkb1 pkb2 pkb3 pkb4 pkb5 pkb6 pkb7); (try clear pkc0 pkc1 pkc2 pkc3 pkc4); (try clear pkx0 pkx1 pkx2 pkx3 pkx4); (try clear pky0 pky1 pky2 pky3 pky4)
  (try clear pkb0 pkb1 pkb2 pkb3 pkb4 pkb5 pkb6 pkb7)
  obtain ⟨pkb0, pkb1, pkb2, pkb3, pkb4, pkb5, pkb6, pkb7⟩ := kb.eight
  (try clear pkc0 pkc1 pkc2 pkc3 pkc4)
  obtain ⟨⟨pkc0, pkc1, pkc2, pkc3, pkc4⟩, -⟩ := kc.five
  (try clear pkx0 pkx1 pkx2 pkx3 pkx4)
  obtain ⟨⟨pkx0, pkx1, pkx2, pkx3, pkx4⟩, -⟩ := kx.five
  (try clear pky0 pky1 pky2 pky3 pky4)
  obtain ⟨⟨pky0, pky1, pky2, pky3, pky4⟩, -⟩ := ky.five
  go_wp2_with fail
  refine (H6.out _ bc).mono ?_
  rintro e w6 ⟨rfl, hC⟩
  dsimp only
  replace kb := kb.on hC
  replace kc := kc.on hC
  replace kx := kx.on hC
  replace ky := ky.on hC
  replace bc := bc.trans (hC.mono bc.size)
  clear hC
  (try clear pkb0 pkb1 pkb2 pkb3 pkb4 pkb5 pkb6 pkb7); (try clear pkc0 pkc1 pkc2 pkc3 pkc4); (try clear pkx0 pkx1 pkx2 pkx3 pkx4); (try clear pky0 pky1 pky2 pky3 pky4)
  (try clear pkb0 pkb1 pkb2 pkb3 pkb4 pkb5 pkb6 pkb7)
  obtain ⟨pkb0, pkb1, pkb2, pkb3, pkb4, pkb5, pkb6, pkb7⟩ := kb.eight
  (try clear pkc0 pkc1 pkc2 pkc3 pkc4)
  obtain ⟨⟨pkc0, pkc1, pkc2, pkc3, pkc4⟩, -⟩ := kc.five
  (try clear pkx0 pkx1 pkx2 pkx3 pkx4)
  obtain ⟨⟨pkx0, pkx1, pkx2, pkx3, pkx4⟩, -⟩ := kx.five
  (try clear pky0 pky1 pky2 pky3 pky4)
  obtain ⟨⟨pky0, pky1, pky2, pky3, pky4⟩, -⟩ := ky.five
  go_upto_region 7 with fail
  (try clear pkb0 pkb1 pkb2 pkb3 pkb4 pkb5 pkb6 pkb7); (try clear pkc0 pkc1 pkc2 pkc3 pkc4); (try clear pkx0 pkx1 pkx2 pkx3 pkx4); (try clear pky0 pky1 pky2 pky3 pky4)
  have hneq := fun U => neqC #[.int .i64 x0, .int .i64 x1, .int .i64 x2, .int .i64 x3, .int .i64 x4] x0 x1 x2 x3 x4 rfl U
  have BCn := Lib.hid bc
  have h7 := fun n : NearW w6 => H7.out n.W (bc.trans (n.h.mono bc.size))
  have h8 := fun n : NearW w6 => H8.out n.W (bc.trans (n.h.mono bc.size))
  have H7n := Lib.hid h7; have H8n := Lib.hid h8; clear h7 h8
  obtain ⟨n0, n1, n2, n3, n4, n5, n6, n7⟩ := near_eight kb
  obtain ⟨c0, c1, c2, c3, c4⟩ := near_five10 kc
  obtain ⟨d0, d1, d2, d3, d4⟩ := near_five10 kx
  obtain ⟨f0, f1, f2, f3, f4⟩ := near_five10 ky
  have KB := Lib.hid kb; have KC := Lib.hid kc; clear kb kc kx ky bc
  refine wp_region_near (by kernel_rfl) (by kernel_rfl) ?_
  repeat (go_big_quiet_step (first
    | (go_at_call 13; with_reducible exact near_call (begun10_any _))
    | (go_at_call 14; with_reducible exact near_call (H7n.out _))
    | (go_at_call 15; with_reducible exact near_call (H8n.out _))))
  refine wpQuiet_nil ?_
  rintro _ ⟨nw, rfl⟩
  clear n0 n1 n2 n3 n4 n5 n6 n7 c0 c1 c2 c3 c4 d0 d1 d2 d3 d4 f0 f1 f2 f3 f4 hneq H7n H8n
  have kb := KB.out.on nw.h; have kc := KC.out.on nw.h; have bc := BCn.out.trans (nw.h.mono BCn.out.size)
  clear KB KC BCn
  generalize nw.W = w7 at *
  obtain ⟨pkb0, pkb1, pkb2, pkb3, pkb4, pkb5, pkb6, pkb7⟩ := kb.eight
  by_cases c20 : 20 < ns
  · have d20 : decide (20 < (ns : Int)) = true := by simp; omega
    go_wp2
    go_ret
    exact ⟨rfl, bc⟩
  have d20 : decide (20 < (ns : Int)) = false := by simp; omega
  obtain ⟨⟨pkc0, pkc1, pkc2, pkc3, pkc4⟩, -⟩ := kc.five
  go_wp2_with fail
  refine (H9.out _ bc).mono ?_
  rintro e w8 ⟨v, rfl, hrow, hC⟩
  obtain ⟨A2, cp2, rfl, hc2, hcm, hcn, hI2⟩ := ints_ownN hrow
  dsimp only
  replace kb := kb.on hC; replace kc := kc.on hC; replace bc := bc.trans (hC.mono bc.size); clear hC hrow
  clear pkb0 pkb1 pkb2 pkb3 pkb4 pkb5 pkb6 pkb7 pkc0 pkc1 pkc2 pkc3 pkc4
  go_upto_region 12 with fail
  have hcut := ints_cut hI2 mo
  rw [show (intsN ln).take mo = intsN (ln.take mo) by unfold intsN; rw [List.map_take]] at hcut
  have hnl : ln.length = (intsN ln).length := by unfold intsN; rw [List.length_map]
  have hql : (ln.take mo).length = (intsN (ln.take mo)).length := by unfold intsN; rw [List.length_map]
  have hqm : (ln.take mo).length = if mo < ln.length then mo else ln.length := by rw [List.length_take]; split <;> omega
  generalize intsN ln = L1 at *
  generalize intsN (ln.take mo) = L2 at *
  generalize (ln.take mo).length = qn at *
  generalize ln.length = nl at *
  have HNL := Lib.hid hnl; have HQL := Lib.hid hql; clear hnl hql
  have hm1 : nl ≤ maxLen := by unfold maxLen; omega
  have hm2 : qn ≤ maxLen := by rw [hqm]; unfold maxLen; split <;> omega
  have HM1 := Lib.hid hm1; have HM2 := Lib.hid hm2; clear hm1 hm2
  have hdr : Below w8.heap.size w8 w8.drew := (Below.refl _ _).drew
  replace kb := kb.on hdr; replace kc := kc.on hdr; replace hI2 := (hI2.below hdr).mono hdr.size; replace hcut := (hcut.below hdr).mono hdr.size; replace bc := bc.trans (hdr.mono bc.size); clear hdr
  by_cases hlt : mo < nl
  · obtain rfl : qn = mo := by rw [hqm, if_pos hlt]
    clear hqm
    have hs0 : (0 : Int) ≤ (qn : Int) := by omega
    have hs1 : (qn : Int) ≤ (cp2 : Int) := by omega
    have hs2 : (qn : Int) < (nl : Int) := by omega
    obtain ⟨pkb0, pkb1, pkb2, pkb3, pkb4, pkb5, pkb6, pkb7⟩ := kb.eight
    obtain ⟨⟨pkc0, pkc1, pkc2, pkc3, pkc4⟩, -⟩ := kc.five
    go_region_held3 (fun w' => w'.cell? ⟨w.heap.size, 0, none⟩ = some (.int .i64 N) ∧ w'.cell? ⟨w.heap.size, 1, none⟩ = some (.int .i64 S) ∧ w'.cell? ⟨w.heap.size, 2, none⟩ = some (.int .i64 G) ∧ w'.cell? ⟨w.heap.size, 3, none⟩ = some (.int .i64 W) ∧ w'.cell? ⟨w.heap.size, 4, none⟩ = some (.int .i64 D) ∧ w'.cell? ⟨w.heap.size, 5, none⟩ = some (.int .i64 L) ∧ w'.cell? ⟨w.heap.size, 6, none⟩ = some (.slice Ac nc cc) ∧ w'.cell? ⟨w.heap.size, 7, none⟩ = some (.slice As ns cs) ∧ w'.cell? ⟨w.heap.size + 1, 0, none⟩ = some (.int .i64 T) ∧ w'.cell? ⟨w.heap.size + 1, 1, none⟩ = some (.int .i64 P) ∧ w'.cell? ⟨w.heap.size + 1, 2, none⟩ = some (.int .i64 Mo) ∧ w'.cell? ⟨w.heap.size + 1, 3, none⟩ = some (.int .i64 Nx) ∧ w'.cell? ⟨w.heap.size + 1, 4, none⟩ = some (.int .i64 Me)) (first | exact ⟨pkb0, pkb1, pkb2, pkb3, pkb4, pkb5, pkb6, pkb7, pkc0, pkc1, pkc2, pkc3, pkc4⟩) (first
      | (have _ := hB2; go_at_call 17; with_reducible refine (isame_yes _ _ _ _ _ L2 _ HQL.out HM2.out hB2 hcut).mono ?_; rintro e w9 ⟨rfl, hC⟩; clear hB2; dsimp only; replace kb := kb.on hC; replace kc := kc.on hC; replace hI2 := (hI2.below hC).mono hC.size; replace hcut := (hcut.below hC).mono hC.size; replace bc := bc.trans (hC.mono bc.size); clear hC; (try clear pkb0 pkb1 pkb2 pkb3 pkb4 pkb5 pkb6 pkb7); obtain ⟨pkb0, pkb1, pkb2, pkb3, pkb4, pkb5, pkb6, pkb7⟩ := kb.eight; (try clear pkc0 pkc1 pkc2 pkc3 pkc4); obtain ⟨⟨pkc0, pkc1, pkc2, pkc3, pkc4⟩, -⟩ := kc.five)
      | (have _ := HE2; go_at_call 18; with_reducible refine (H12.out _ _ _ HE2.out HT2.out).mono ?_; rintro e w9 ⟨B2, d2, rfl, hB2, hC⟩; clear HE2 HT2; dsimp only; replace kb := kb.on hC; replace kc := kc.on hC; replace hI2 := (hI2.below hC).mono hC.size; replace hcut := (hcut.below hC).mono hC.size; replace bc := bc.trans (hC.mono bc.size); clear hC; (try clear pkb0 pkb1 pkb2 pkb3 pkb4 pkb5 pkb6 pkb7); obtain ⟨pkb0, pkb1, pkb2, pkb3, pkb4, pkb5, pkb6, pkb7⟩ := kb.eight; (try clear pkc0 pkc1 pkc2 pkc3 pkc4); obtain ⟨⟨pkc0, pkc1, pkc2, pkc3, pkc4⟩, -⟩ := kc.five)
      | (have _ := hmark; go_at_call 19; with_reducible refine (H10.out _ bc).mono ?_; rintro e w9 ⟨gf2, lb2, rfl, hent, htells, hC⟩; have HE2 := Lib.hid hent; have HT2 := Lib.hid htells; clear hent htells; dsimp only; replace kb := kb.on hC; replace kc := kc.on hC; replace hI2 := (hI2.below hC).mono hC.size; replace hcut := (hcut.below hC).mono hC.size; replace bc := bc.trans (hC.mono bc.size); clear hC; (try clear pkb0 pkb1 pkb2 pkb3 pkb4 pkb5 pkb6 pkb7); obtain ⟨pkb0, pkb1, pkb2, pkb3, pkb4, pkb5, pkb6, pkb7⟩ := kb.eight; (try clear pkc0 pkc1 pkc2 pkc3 pkc4); obtain ⟨⟨pkc0, pkc1, pkc2, pkc3, pkc4⟩, -⟩ := kc.five)
      | (have _ := hB1; go_at_call 17; with_reducible refine (isame_yes _ _ _ _ _ L1 _ HNL.out HM1.out hB1 hI2).mono ?_; rintro e w9 ⟨rfl, hC⟩; clear hB1; have hmark : True := trivial; dsimp only; replace kb := kb.on hC; replace kc := kc.on hC; replace hI2 := (hI2.below hC).mono hC.size; replace hcut := (hcut.below hC).mono hC.size; replace bc := bc.trans (hC.mono bc.size); clear hC; (try clear pkb0 pkb1 pkb2 pkb3 pkb4 pkb5 pkb6 pkb7); obtain ⟨pkb0, pkb1, pkb2, pkb3, pkb4, pkb5, pkb6, pkb7⟩ := kb.eight; (try clear pkc0 pkc1 pkc2 pkc3 pkc4); obtain ⟨⟨pkc0, pkc1, pkc2, pkc3, pkc4⟩, -⟩ := kc.five)
      | (have _ := HE1; go_at_call 18; with_reducible refine (H11.out _ _ _ HE1.out HT1.out).mono ?_; rintro e w9 ⟨B1, d1, rfl, hB1, hC⟩; clear HE1 HT1; dsimp only; replace kb := kb.on hC; replace kc := kc.on hC; replace hI2 := (hI2.below hC).mono hC.size; replace hcut := (hcut.below hC).mono hC.size; replace bc := bc.trans (hC.mono bc.size); clear hC; (try clear pkb0 pkb1 pkb2 pkb3 pkb4 pkb5 pkb6 pkb7); obtain ⟨pkb0, pkb1, pkb2, pkb3, pkb4, pkb5, pkb6, pkb7⟩ := kb.eight; (try clear pkc0 pkc1 pkc2 pkc3 pkc4); obtain ⟨⟨pkc0, pkc1, pkc2, pkc3, pkc4⟩, -⟩ := kc.five)
      | (go_at_call 19; with_reducible refine (H10.out _ bc).mono ?_; rintro e w9 ⟨gf1, lb1, rfl, hent, htells, hC⟩; have HE1 := Lib.hid hent; have HT1 := Lib.hid htells; clear hent htells; dsimp only; replace kb := kb.on hC; replace kc := kc.on hC; replace hI2 := (hI2.below hC).mono hC.size; replace hcut := (hcut.below hC).mono hC.size; replace bc := bc.trans (hC.mono bc.size); clear hC; (try clear pkb0 pkb1 pkb2 pkb3 pkb4 pkb5 pkb6 pkb7); obtain ⟨pkb0, pkb1, pkb2, pkb3, pkb4, pkb5, pkb6, pkb7⟩ := kb.eight; (try clear pkc0 pkc1 pkc2 pkc3 pkc4); obtain ⟨⟨pkc0, pkc1, pkc2, pkc3, pkc4⟩, -⟩ := kc.five))
    all_goals
      go_wp2
      go_ret
      exact ⟨rfl, bc⟩
  · obtain rfl : qn = nl := by rw [hqm, if_neg hlt]
    clear hqm
    have hs0 : (0 : Int) ≤ (qn : Int) := by omega
    have hs1 : (qn : Int) ≤ (cp2 : Int) := by omega
    have hs2 : ¬ ((mo : Int) < (qn : Int)) := by omega
    obtain ⟨pkb0, pkb1, pkb2, pkb3, pkb4, pkb5, pkb6, pkb7⟩ := kb.eight
    obtain ⟨⟨pkc0, pkc1, pkc2, pkc3, pkc4⟩, -⟩ := kc.five
    go_region_held3 (fun w' => w'.cell? ⟨w.heap.size, 0, none⟩ = some (.int .i64 N) ∧ w'.cell? ⟨w.heap.size, 1, none⟩ = some (.int .i64 S) ∧ w'.cell? ⟨w.heap.size, 2, none⟩ = some (.int .i64 G) ∧ w'.cell? ⟨w.heap.size, 3, none⟩ = some (.int .i64 W) ∧ w'.cell? ⟨w.heap.size, 4, none⟩ = some (.int .i64 D) ∧ w'.cell? ⟨w.heap.size, 5, none⟩ = some (.int .i64 L) ∧ w'.cell? ⟨w.heap.size, 6, none⟩ = some (.slice Ac nc cc) ∧ w'.cell? ⟨w.heap.size, 7, none⟩ = some (.slice As ns cs) ∧ w'.cell? ⟨w.heap.size + 1, 0, none⟩ = some (.int .i64 T) ∧ w'.cell? ⟨w.heap.size + 1, 1, none⟩ = some (.int .i64 P) ∧ w'.cell? ⟨w.heap.size + 1, 2, none⟩ = some (.int .i64 Mo) ∧ w'.cell? ⟨w.heap.size + 1, 3, none⟩ = some (.int .i64 Nx) ∧ w'.cell? ⟨w.heap.size + 1, 4, none⟩ = some (.int .i64 Me)) (first | exact ⟨pkb0, pkb1, pkb2, pkb3, pkb4, pkb5, pkb6, pkb7, pkc0, pkc1, pkc2, pkc3, pkc4⟩) (first
      | (have _ := hB2; go_at_call 17; with_reducible refine (isame_yes _ _ _ _ _ L2 _ HQL.out HM2.out hB2 hcut).mono ?_; rintro e w9 ⟨rfl, hC⟩; clear hB2; dsimp only; replace kb := kb.on hC; replace kc := kc.on hC; replace hI2 := (hI2.below hC).mono hC.size; replace hcut := (hcut.below hC).mono hC.size; replace bc := bc.trans (hC.mono bc.size); clear hC; (try clear pkb0 pkb1 pkb2 pkb3 pkb4 pkb5 pkb6 pkb7); obtain ⟨pkb0, pkb1, pkb2, pkb3, pkb4, pkb5, pkb6, pkb7⟩ := kb.eight; (try clear pkc0 pkc1 pkc2 pkc3 pkc4); obtain ⟨⟨pkc0, pkc1, pkc2, pkc3, pkc4⟩, -⟩ := kc.five)
      | (have _ := HE2; go_at_call 18; with_reducible refine (H12.out _ _ _ HE2.out HT2.out).mono ?_; rintro e w9 ⟨B2, d2, rfl, hB2, hC⟩; clear HE2 HT2; dsimp only; replace kb := kb.on hC; replace kc := kc.on hC; replace hI2 := (hI2.below hC).mono hC.size; replace hcut := (hcut.below hC).mono hC.size; replace bc := bc.trans (hC.mono bc.size); clear hC; (try clear pkb0 pkb1 pkb2 pkb3 pkb4 pkb5 pkb6 pkb7); obtain ⟨pkb0, pkb1, pkb2, pkb3, pkb4, pkb5, pkb6, pkb7⟩ := kb.eight; (try clear pkc0 pkc1 pkc2 pkc3 pkc4); obtain ⟨⟨pkc0, pkc1, pkc2, pkc3, pkc4⟩, -⟩ := kc.five)
      | (have _ := hmark; go_at_call 19; with_reducible refine (H10.out _ bc).mono ?_; rintro e w9 ⟨gf2, lb2, rfl, hent, htells, hC⟩; have HE2 := Lib.hid hent; have HT2 := Lib.hid htells; clear hent htells; dsimp only; replace kb := kb.on hC; replace kc := kc.on hC; replace hI2 := (hI2.below hC).mono hC.size; replace hcut := (hcut.below hC).mono hC.size; replace bc := bc.trans (hC.mono bc.size); clear hC; (try clear pkb0 pkb1 pkb2 pkb3 pkb4 pkb5 pkb6 pkb7); obtain ⟨pkb0, pkb1, pkb2, pkb3, pkb4, pkb5, pkb6, pkb7⟩ := kb.eight; (try clear pkc0 pkc1 pkc2 pkc3 pkc4); obtain ⟨⟨pkc0, pkc1, pkc2, pkc3, pkc4⟩, -⟩ := kc.five)
      | (have _ := hB1; go_at_call 17; with_reducible refine (isame_yes _ _ _ _ _ L1 _ HNL.out HM1.out hB1 hI2).mono ?_; rintro e w9 ⟨rfl, hC⟩; clear hB1; have hmark : True := trivial; dsimp only; replace kb := kb.on hC; replace kc := kc.on hC; replace hI2 := (hI2.below hC).mono hC.size; replace hcut := (hcut.below hC).mono hC.size; replace bc := bc.trans (hC.mono bc.size); clear hC; (try clear pkb0 pkb1 pkb2 pkb3 pkb4 pkb5 pkb6 pkb7); obtain ⟨pkb0, pkb1, pkb2, pkb3, pkb4, pkb5, pkb6, pkb7⟩ := kb.eight; (try clear pkc0 pkc1 pkc2 pkc3 pkc4); obtain ⟨⟨pkc0, pkc1, pkc2, pkc3, pkc4⟩, -⟩ := kc.five)
      | (have _ := HE1; go_at_call 18; with_reducible refine (H11.out _ _ _ HE1.out HT1.out).mono ?_; rintro e w9 ⟨B1, d1, rfl, hB1, hC⟩; clear HE1 HT1; dsimp only; replace kb := kb.on hC; replace kc := kc.on hC; replace hI2 := (hI2.below hC).mono hC.size; replace hcut := (hcut.below hC).mono hC.size; replace bc := bc.trans (hC.mono bc.size); clear hC; (try clear pkb0 pkb1 pkb2 pkb3 pkb4 pkb5 pkb6 pkb7); obtain ⟨pkb0, pkb1, pkb2, pkb3, pkb4, pkb5, pkb6, pkb7⟩ := kb.eight; (try clear pkc0 pkc1 pkc2 pkc3 pkc4); obtain ⟨⟨pkc0, pkc1, pkc2, pkc3, pkc4⟩, -⟩ := kc.five)
      | (go_at_call 19; with_reducible refine (H10.out _ bc).mono ?_; rintro e w9 ⟨gf1, lb1, rfl, hent, htells, hC⟩; have HE1 := Lib.hid hent; have HT1 := Lib.hid htells; clear hent htells; dsimp only; replace kb := kb.on hC; replace kc := kc.on hC; replace hI2 := (hI2.below hC).mono hC.size; replace hcut := (hcut.below hC).mono hC.size; replace bc := bc.trans (hC.mono bc.size); clear hC; (try clear pkb0 pkb1 pkb2 pkb3 pkb4 pkb5 pkb6 pkb7); obtain ⟨pkb0, pkb1, pkb2, pkb3, pkb4, pkb5, pkb6, pkb7⟩ := kb.eight; (try clear pkc0 pkc1 pkc2 pkc3 pkc4); obtain ⟨⟨pkc0, pkc1, pkc2, pkc3, pkc4⟩, -⟩ := kc.five))
    all_goals
      go_wp2
      go_ret
      exact ⟨rfl, bc⟩
end Go.Proofs.Ytaooonajfdbfhaa
