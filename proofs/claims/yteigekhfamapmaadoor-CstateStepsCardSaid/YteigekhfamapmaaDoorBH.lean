/-
  The statement of steps of package cstate. Condition: the array of widths holds what the program's text lays.
-/
import Derived.Test.YteigekhfamapmaaDoorBC
import Derived.Test.YteigekhfamapmaaDoorBJ
namespace Go.Proofs.YteigekhfamapmaaDoor
open Go.RowKit

theorem Ints.on {w w' : World} {A : Option Addr} {zs : List Int} (h : Ints w.heap.size w A zs) (hb : Below w.heap.size w w') : Ints w'.heap.size w' A zs := (h.below hb).mono hb.size
theorem Ints.take {n₀ : Nat} {W : World} {A : Option Addr} {zs : List Int} (h : Ints n₀ W A zs) (k : Nat) : Ints n₀ W A (zs.take k) := fun hne => by
  obtain ⟨b, off, e, hlt, hc⟩ := h (by rintro rfl; simp at hne)
  refine ⟨b, off, e, hlt, fun j hj => ?_⟩
  rw [List.length_take] at hj
  rw [hc j (by omega), List.getElem?_take_of_lt (by omega)]
theorem add_zero4 (a : Addr) : a.add 0 = a := by unfold Addr.add; simp
theorem sliced_zero (A : Option Addr) (m c s : Nat) : sliced A 0 m c s = .slice A m c := by
  unfold sliced
  cases A with
  | none => simp
  | some a => simp [add_zero4]
theorem slice_op (VA : Option Addr) (L M vc : Nat) (h : (M : Int) ≤ (vc : Int)) (W : World) : (Instr.slice 39 (.slice VA L vc) none (some (.int .i64 (M : Int))) none).run Tryd.prog W = .ok (.slice VA M vc) W := by
  have h0 : (0 : Int) ≤ (M : Int) := by omega
  have h39 : Tryd.prog.underlying 39 = some (.slice (Tryd.prog.elem 39)) := by kernel_rfl
  rw [run_slice_h (P := Tryd.prog) W 39 VA L vc h39 .i64 (M : Int) h0 h]
  simp [go_sem, add_zero4]
theorem told99 (gf : Nat) (lb : Array Value) (ob : Nat) (c : CS) (w : World) (hent : ∀ args w, (callFunc gf args).run Tryd.prog w = .ok (.enter gf args) w) (htells : ∀ n, 1 ≤ n → TellsM n gf lb ob c w) (ho : ob < w.heap.size) :
    Calls Tryd.prog 28 #[.func (.func gf) #[] lb, .int .i64 99] w fun e w' => ∃ v, e = .returned v ∧ w'.ownsRow w.heap.size 3 1 v ((memC c).take 99).length (((memC c).take 99).map fun (x : Nat) => Value.int .i64 (x : Int)) ∧ Below w.heap.size w w' := told4_any gf lb ob 99 c w (by decide) hent htells ho
theorem keepM {W : World} {g3 g7 g9 : Nat} {s0 s1 s2 s3 s4 r0 r1 r2 r3 r4 q0 q1 q2 q3 q4 : Value}
    (k3 : Blk W g3 23 #[s0, s1, s2, s3, s4]) (k7 : Blk W g7 23 #[r0, r1, r2, r3, r4]) (k9 : Blk W g9 23 #[q0, q1, q2, q3, q4]) :
    W.cell? ⟨g3, 0, none⟩ = some s0 ∧ W.cell? ⟨g3, 1, none⟩ = some s1 ∧ W.cell? ⟨g3, 2, none⟩ = some s2 ∧ W.cell? ⟨g3, 3, none⟩ = some s3 ∧ W.cell? ⟨g3, 4, none⟩ = some s4 ∧ W.cell? ⟨g7, 0, none⟩ = some r0 ∧ W.cell? ⟨g7, 1, none⟩ = some r1 ∧ W.cell? ⟨g7, 2, none⟩ = some r2 ∧ W.cell? ⟨g7, 3, none⟩ = some r3 ∧ W.cell? ⟨g7, 4, none⟩ = some r4 ∧ W.cell? ⟨g9, 0, none⟩ = some q0 ∧ W.cell? ⟨g9, 1, none⟩ = some q1 ∧ W.cell? ⟨g9, 2, none⟩ = some q2 ∧ W.cell? ⟨g9, 3, none⟩ = some q3 ∧ W.cell? ⟨g9, 4, none⟩ = some q4 := by
  obtain ⟨⟨a0, a1, a2, a3, a4⟩, -⟩ := k3.five
  obtain ⟨⟨b0, b1, b2, b3, b4⟩, -⟩ := k7.five
  obtain ⟨⟨c0, c1, c2, c3, c4⟩, -⟩ := k9.five
  exact ⟨a0, a1, a2, a3, a4, b0, b1, b2, b3, b4, c0, c1, c2, c3, c4⟩

set_option maxRecDepth 8000 in
set_option maxHeartbeats 16000000 in
theorem steps_law (s t : CS) (n node : Int) (mo : Nat) (w : World) (hmo : mo ≤ 255) (hT : WTab w) :
    Calls Tryd.prog 4 #[.agg s.cells, .agg t.cells, .int .i64 n, .int .i64 node, .int .u8 mo] w fun e w' => e = .returned (.bool true) ∧ Below w.heap.size w w' := by
  have h1 := fun (W : World) => stepC_any s n W
  have h2 := fun (W : World) => rstepC_any s n W
  have h3 := fun (W : World) => slotsC_any s t n W
  have h4 := fun (W : World) => rslotsC_any s t n W
  have h5 := fun (W : World) => rmembers_any s W
  have h6 := fun (W : World) (h : Below w.heap.size w W) => begun_any W (hT.on h)
  have h7 := fun (W : World) => withC_any s node W
  have h8 := fun (W : World) => rwithC_any s node W
  have h9 := fun (W : World) => withoutC_any s node W
  have h10 := fun (W : World) => rwithoutC_any s node W
  have h11 := fun (W : World) => hasC_any s node W
  have h12 := fun (W : World) => rhasC_any s node W
  have h13 := fun (W : World) => count_any s W
  have h14 := fun (W : World) => members_any s W
  have h15 := fun (gf : Nat) (lb : Array Value) (ob : Nat) (W : World) (he : ∀ args w, (callFunc gf args).run Tryd.prog w = .ok (.enter gf args) w) (ht : ∀ n, 1 ≤ n → TellsM n gf lb ob s W) (ho : ob < W.heap.size) => told99 gf lb ob s W he ht ho
  have h16 := fun (gf : Nat) (lb : Array Value) (ob : Nat) (W : World) (he : ∀ args w, (callFunc gf args).run Tryd.prog w = .ok (.enter gf args) w) (ht : ∀ n, 1 ≤ n → TellsM n gf lb ob s W) (ho : ob < W.heap.size) => told4_any gf lb ob mo s W (by omega) he ht ho
  have hlen : (memC s).length ≤ 8 := memTo_length s 8
  have h99 : (memC s).take 99 = memC s := List.take_of_length_le (by omega)
  rw [h99] at h15
  generalize stepC s n = R at *
  generalize slotsC s t n = S at *
  generalize withC s node = cw at *
  generalize withoutC s node = co at *
  generalize hasC s node = ch at *
  have hMG : ∀ (W : World) (e : Ending) (W' : World), MemGives W s e W' → ∃ (gf : Nat) (lb : Array Value) (ob : Nat), e = .returned (.func (.func gf) #[] lb) ∧ (∀ args w, (callFunc gf args).run Tryd.prog w = .ok (.enter gf args) w) ∧ (∀ n, 1 ≤ n → TellsM n gf lb ob s W') ∧ W.heap.size ≤ ob ∧ ob < W'.heap.size ∧ Below W.heap.size W W' := fun _ _ _ h => h
  have h14' := fun (W : World) => (h14 W).mono (hMG W)
  clear h14 hMG
  generalize memC s = ms at *
  obtain ⟨er, r⟩ := R
  obtain ⟨es, sl⟩ := S
  obtain ⟨s0, s1, s2, s3, s4⟩ := s
  obtain ⟨t0, t1, t2, t3, t4⟩ := t
  obtain ⟨r0, r1, r2, r3, r4⟩ := r
  obtain ⟨cw0, cw1, cw2, cw3, cw4⟩ := cw
  obtain ⟨co0, co1, co2, co3, co4⟩ := co
  unfold ResC at h1 h2
  unfold CS.cells at *
  dsimp only at *
  generalize CS.mk s0 s1 s2 s3 s4 = s at *
  have H1 := Lib.hid h1; have H2 := Lib.hid h2; have H3 := Lib.hid h3; have H4 := Lib.hid h4; have H5 := Lib.hid h5; have H6 := Lib.hid h6; have H7 := Lib.hid h7; have H8 := Lib.hid h8; have H9 := Lib.hid h9; have H10 := Lib.hid h10; have H11 := Lib.hid h11; have H12 := Lib.hid h12; have H13 := Lib.hid h13; have H14 := Lib.hid h14'; have H15 := Lib.hid h15; have H16 := Lib.hid h16; have HL := Lib.hid hlen
  clear h1 h2 h3 h4 h5 h6 h7 h8 h9 h10 h11 h12 h13 h14' h15 h16 h99 hlen hT
  have k5 : Blk ((w.alloc (.cells #[.int .i64 s0, .int .i64 s1, .int .i64 s2, .int .i64 s3, .int .i64 s4] 23)).alloc (.cells #[.int .i64 t0, .int .i64 t1, .int .i64 t2, .int .i64 t3, .int .i64 t4] 23)) w.heap.size 23 #[.int .i64 s0, .int .i64 s1, .int .i64 s2, .int .i64 s3, .int .i64 s4] := (Blk.new w _ _).alloc _
  have k6 : Blk ((w.alloc (.cells #[.int .i64 s0, .int .i64 s1, .int .i64 s2, .int .i64 s3, .int .i64 s4] 23)).alloc (.cells #[.int .i64 t0, .int .i64 t1, .int .i64 t2, .int .i64 t3, .int .i64 t4] 23)) (w.heap.size + 1) 23 #[.int .i64 t0, .int .i64 t1, .int .i64 t2, .int .i64 t3, .int .i64 t4] := by simpa using Blk.new (w.alloc (.cells #[.int .i64 s0, .int .i64 s1, .int .i64 s2, .int .i64 s3, .int .i64 s4] 23)) 23 #[.int .i64 t0, .int .i64 t1, .int .i64 t2, .int .i64 t3, .int .i64 t4]
  have bc : Below w.heap.size w ((w.alloc (.cells #[.int .i64 s0, .int .i64 s1, .int .i64 s2, .int .i64 s3, .int .i64 s4] 23)).alloc (.cells #[.int .i64 t0, .int .i64 t1, .int .i64 t2, .int .i64 t3, .int .i64 t4] 23)) := ((Below.refl _ _).alloc (Nat.le_refl _) _).alloc (by simp) _
  go_enter Tryd.func4, Tryd.ntmps4
  go_wp2_with fail
  generalize (w.alloc (.cells #[.int .i64 s0, .int .i64 s1, .int .i64 s2, .int .i64 s3, .int .i64 s4] 23)).alloc (.cells #[.int .i64 t0, .int .i64 t1, .int .i64 t2, .int .i64 t3, .int .i64 t4] 23) = w0 at *
  refine (H1.out _).mono ?_
  rintro e w1 ⟨rfl, hC⟩
  dsimp only
  replace k5 := k5.on hC; replace k6 := k6.on hC; replace bc := bc.trans (hC.mono bc.size)
  clear hC
  have k11 := Blk.new w1 23 #[.int .i64 r0, .int .i64 r1, .int .i64 r2, .int .i64 r3, .int .i64 r4]
  have al := Below.al w1 (.cells #[.int .i64 r0, .int .i64 r1, .int .i64 r2, .int .i64 r3, .int .i64 r4] 23)
  replace k5 := k5.on al; replace k6 := k6.on al; replace bc := bc.trans (al.mono bc.size)
  clear al
  obtain ⟨⟨p0, p1, p2, p3, p4⟩, -⟩ := k5.five
  obtain ⟨⟨z0, z1, z2, z3, z4⟩, -⟩ := k6.five
  go_wp2_with fail
  clear p0 p1 p2 p3 p4 z0 z1 z2 z3 z4
  generalize w1.alloc (.cells #[.int .i64 r0, .int .i64 r1, .int .i64 r2, .int .i64 r3, .int .i64 r4] 23) = vw1 at *
  generalize w1.heap.size = g11 at *
  refine (H2.out _).mono ?_
  rintro e w2 ⟨rfl, hC⟩
  dsimp only
  replace k5 := k5.on hC; replace k6 := k6.on hC; replace k11 := k11.on hC; replace bc := bc.trans (hC.mono bc.size)
  clear hC
  have k13 := Blk.new w2 23 #[.int .i64 r0, .int .i64 r1, .int .i64 r2, .int .i64 r3, .int .i64 r4]
  have al := Below.al w2 (.cells #[.int .i64 r0, .int .i64 r1, .int .i64 r2, .int .i64 r3, .int .i64 r4] 23)
  replace k5 := k5.on al; replace k6 := k6.on al; replace k11 := k11.on al; replace bc := bc.trans (al.mono bc.size)
  clear al
  obtain ⟨⟨p0, p1, p2, p3, p4⟩, -⟩ := k5.five
  obtain ⟨⟨z0, z1, z2, z3, z4⟩, -⟩ := k6.five
  go_wp2_with fail
  clear p0 p1 p2 p3 p4 z0 z1 z2 z3 z4
  generalize w2.alloc (.cells #[.int .i64 r0, .int .i64 r1, .int .i64 r2, .int .i64 r3, .int .i64 r4] 23) = vw2 at *
  generalize w2.heap.size = g13 at *
  refine (H3.out _).mono ?_
  rintro e w3 ⟨rfl, hC⟩
  dsimp only
  replace k5 := k5.on hC; replace k6 := k6.on hC; replace k11 := k11.on hC; replace k13 := k13.on hC; replace bc := bc.trans (hC.mono bc.size)
  clear hC
  obtain ⟨⟨p0, p1, p2, p3, p4⟩, -⟩ := k5.five
  obtain ⟨⟨z0, z1, z2, z3, z4⟩, -⟩ := k6.five
  go_wp2_with fail
  clear p0 p1 p2 p3 p4 z0 z1 z2 z3 z4
  refine (H4.out _).mono ?_
  rintro e w4 ⟨rfl, hC⟩
  dsimp only
  replace k5 := k5.on hC; replace k6 := k6.on hC; replace k11 := k11.on hC; replace k13 := k13.on hC; replace bc := bc.trans (hC.mono bc.size)
  clear hC
  obtain ⟨⟨p0, p1, p2, p3, p4⟩, -⟩ := k5.five
  obtain ⟨⟨z0, z1, z2, z3, z4⟩, -⟩ := k6.five
  go_wp2_with fail
  clear p0 p1 p2 p3 p4 z0 z1 z2 z3 z4
  refine (H5.out _).mono ?_
  rintro e w5 ⟨vl, rfl, hown, hC⟩
  dsimp only
  replace k5 := k5.on hC; replace k6 := k6.on hC; replace k11 := k11.on hC; replace k13 := k13.on hC; replace bc := bc.trans (hC.mono bc.size)
  clear hC k6
  obtain ⟨VA, vc, rfl, hcap, yl⟩ := ints_own4 hown
  clear hown
  go_wp2_with fail
  have hdr : Below w5.heap.size w5 w5.drew := (Below.refl _ _).drew
  replace k5 := k5.on hdr; replace k11 := k11.on hdr; replace k13 := k13.on hdr; replace yl := yl.on hdr; replace bc := bc.trans (hdr.mono bc.size)
  clear hdr
  obtain ⟨L, hL⟩ : ∃ L : Nat, L = ms.length := ⟨_, rfl⟩
  obtain ⟨M, hM⟩ : ∃ M : Nat, M = (ms.take mo).length := ⟨_, rfl⟩
  have hM2 : M = min mo L := by rw [hM, hL, List.length_take]
  have e1 := fun (TA : Option Addr) (tc : Nat) (W : World) (y : Ints W.heap.size W TA (places4 ms)) (y' : Ints W.heap.size W VA (places4 ms)) => isame_yes TA VA tc vc ms.length (places4 ms) W (by simp [places4]) (by have := HL.out; unfold maxLen; omega) y y'
  have e2 := fun (TA : Option Addr) (tc : Nat) (W : World) (y : Ints W.heap.size W TA (places4 (ms.take mo))) (y' : Ints W.heap.size W VA (places4 ms)) => isame_yes TA VA tc vc (ms.take mo).length (places4 (ms.take mo)) W (by simp [places4]) (by have := HL.out; rw [List.length_take]; unfold maxLen; omega) y (by rw [show places4 (ms.take mo) = (places4 ms).take mo from List.map_take]; exact y'.take mo)
  have hz := HL.out
  rw [← hL] at e1 hcap hz ⊢
  rw [← hM] at e2
  have h15 := H15.out
  have h16 := H16.out
  have h13 := H13.out
  rw [← hL] at h13 h15
  rw [← hM] at h16
  have E1 := Lib.hid e1; have E2 := Lib.hid e2
  clear e1 e2 H15 H16 H13
  have H13 := Lib.hid h13; have H15 := Lib.hid h15; have H16 := Lib.hid h16
  clear h13 h15 h16
  have hmn : (if (mo : Int) < (L : Int) then (mo : Int) else (L : Int)) = (M : Int) := by split <;> omega
  have hmw : IntKind.i64.wrap (mo : Int) = (mo : Int) := IntWalk.i64_in _ (by omega)
  have hM3 : (M : Int) ≤ (vc : Int) := by omega
  have hmn2 : (if mo < L then (mo : Int) else (L : Int)) = (M : Int) := by split <;> omega
  have hsl := slice_op VA L M vc hM3
  have hmap : Option.map (fun (x : Addr) => x.add 0) VA = VA := by simp [add_zero4]
  have HM := Lib.hid hM; have HL2 := Lib.hid hL
  clear hM hL hM2 hcap hz HL
  simp only [List.append]
  go_region_held3 (fun w' => w'.cell? ⟨w.heap.size, 0, none⟩ = some (.int .i64 s0) ∧ w'.cell? ⟨w.heap.size, 1, none⟩ = some (.int .i64 s1) ∧ w'.cell? ⟨w.heap.size, 2, none⟩ = some (.int .i64 s2) ∧ w'.cell? ⟨w.heap.size, 3, none⟩ = some (.int .i64 s3) ∧ w'.cell? ⟨w.heap.size, 4, none⟩ = some (.int .i64 s4) ∧ w'.cell? ⟨g11, 0, none⟩ = some (.int .i64 r0) ∧ w'.cell? ⟨g11, 1, none⟩ = some (.int .i64 r1) ∧ w'.cell? ⟨g11, 2, none⟩ = some (.int .i64 r2) ∧ w'.cell? ⟨g11, 3, none⟩ = some (.int .i64 r3) ∧ w'.cell? ⟨g11, 4, none⟩ = some (.int .i64 r4) ∧ w'.cell? ⟨g13, 0, none⟩ = some (.int .i64 r0) ∧ w'.cell? ⟨g13, 1, none⟩ = some (.int .i64 r1) ∧ w'.cell? ⟨g13, 2, none⟩ = some (.int .i64 r2) ∧ w'.cell? ⟨g13, 3, none⟩ = some (.int .i64 r3) ∧ w'.cell? ⟨g13, 4, none⟩ = some (.int .i64 r4))
    (with_reducible exact keepM k5 k11 k13)
    (first
      | (go_at_call 11; with_reducible refine (H6.out _ bc).mono ?_; rintro e u1 ⟨rfl, hC⟩; replace k5 := k5.on hC; replace k11 := k11.on hC; replace k13 := k13.on hC; replace yl := yl.on hC; replace bc := bc.trans (hC.mono bc.size); clear hC)
      | (go_at_call 20; with_reducible refine (H7.out _).mono ?_; rintro e u2 ⟨rfl, hC⟩; replace k5 := k5.on hC; replace k11 := k11.on hC; replace k13 := k13.on hC; replace yl := yl.on hC; replace bc := bc.trans (hC.mono bc.size); clear hC)
      | (go_at_call 21; with_reducible refine (H8.out _).mono ?_; rintro e u3 ⟨rfl, hC⟩; replace k5 := k5.on hC; replace k11 := k11.on hC; replace k13 := k13.on hC; replace yl := yl.on hC; replace bc := bc.trans (hC.mono bc.size); clear hC)
      | (go_at_call 22; with_reducible refine (H9.out _).mono ?_; rintro e u4 ⟨rfl, hC⟩; replace k5 := k5.on hC; replace k11 := k11.on hC; replace k13 := k13.on hC; replace yl := yl.on hC; replace bc := bc.trans (hC.mono bc.size); clear hC)
      | (go_at_call 23; with_reducible refine (H10.out _).mono ?_; rintro e u5 ⟨rfl, hC⟩; replace k5 := k5.on hC; replace k11 := k11.on hC; replace k13 := k13.on hC; replace yl := yl.on hC; replace bc := bc.trans (hC.mono bc.size); clear hC)
      | (go_at_call 24; with_reducible refine (H11.out _).mono ?_; rintro e u6 ⟨rfl, hC⟩; replace k5 := k5.on hC; replace k11 := k11.on hC; replace k13 := k13.on hC; replace yl := yl.on hC; replace bc := bc.trans (hC.mono bc.size); clear hC)
      | (go_at_call 25; with_reducible refine (H12.out _).mono ?_; rintro e u7 ⟨rfl, hC⟩; replace k5 := k5.on hC; replace k11 := k11.on hC; replace k13 := k13.on hC; replace yl := yl.on hC; replace bc := bc.trans (hC.mono bc.size); clear hC)
      | (go_at_call 26; with_reducible refine (H13.out _).mono ?_; rintro e u8 ⟨rfl, hC⟩; replace k5 := k5.on hC; replace k11 := k11.on hC; replace k13 := k13.on hC; replace yl := yl.on hC; replace bc := bc.trans (hC.mono bc.size); clear hC)
      | (have _ := yt; go_at_call 29; with_reducible refine (H14.out _).mono ?_; rintro e u12 ⟨gf2, lb2, ob2, rfl, he2, ht2, -, ho2, hC⟩; replace k5 := k5.on hC; replace k11 := k11.on hC; replace k13 := k13.on hC; replace yl := yl.on hC; replace yt := yt.on hC; replace bc := bc.trans (hC.mono bc.size); clear hC; have HE2 := Lib.hid he2; have HT2 := Lib.hid ht2; clear he2 ht2)
      | (have _ := HE2; go_at_call 28; with_reducible refine (H16.out gf2 lb2 ob2 _ HE2.out HT2.out ho2).mono ?_; rintro e u13 ⟨v2, rfl, hown, hC⟩; replace k5 := k5.on hC; replace k11 := k11.on hC; replace k13 := k13.on hC; replace yl := yl.on hC; replace yt := yt.on hC; replace bc := bc.trans (hC.mono bc.size); clear hC; obtain ⟨TB, tc2, rfl, -, yt2⟩ := ints_own4 hown; rw [← HM.out]; clear hown)
      | (have _ := yt2; go_at_call 27; with_reducible refine (E2.out TB tc2 _ yt2 yl).mono ?_; rintro e u14 ⟨rfl, hC⟩; replace k5 := k5.on hC; replace k11 := k11.on hC; replace k13 := k13.on hC; replace yl := yl.on hC; replace yt := yt.on hC; replace yt2 := yt2.on hC; replace bc := bc.trans (hC.mono bc.size); clear hC)
      | (go_at_call 29; with_reducible refine (H14.out _).mono ?_; rintro e u9 ⟨gf1, lb1, ob1, rfl, he1, ht1, -, ho1, hC⟩; replace k5 := k5.on hC; replace k11 := k11.on hC; replace k13 := k13.on hC; replace yl := yl.on hC; replace bc := bc.trans (hC.mono bc.size); clear hC; have HE1 := Lib.hid he1; have HT1 := Lib.hid ht1; clear he1 ht1)
      | (go_at_call 28; with_reducible refine (H15.out gf1 lb1 ob1 _ HE1.out HT1.out ho1).mono ?_; rintro e u10 ⟨v1, rfl, hown, hC⟩; replace k5 := k5.on hC; replace k11 := k11.on hC; replace k13 := k13.on hC; replace yl := yl.on hC; replace bc := bc.trans (hC.mono bc.size); clear hC; obtain ⟨TA, tc1, rfl, -, yt⟩ := ints_own4 hown; rw [← HL2.out]; clear hown)
      | (have _ := yt; go_at_call 27; with_reducible refine (E1.out TA tc1 _ yt yl).mono ?_; rintro e u11 ⟨rfl, hC⟩; replace k5 := k5.on hC; replace k11 := k11.on hC; replace k13 := k13.on hC; replace yl := yl.on hC; replace yt := yt.on hC; replace bc := bc.trans (hC.mono bc.size); clear hC))
  go_wp2
  all_goals (go_ret; exact ⟨rfl, bc⟩)
end Go.Proofs.YteigekhfamapmaaDoor
