/-
  The law of what a node does in its own slot: Own and Join answer as the document says. No condition.
-/
import Derived.Test.YtffbhdllepjdeaaVN
namespace Go.Proofs.Ytffbhdllepjdeaa
open Go.RowKit

set_option maxRecDepth 8000 in
set_option maxHeartbeats 4000000 in
theorem own_law (m : MV) (w : World) : Calls Try.prog 5 #[.agg m.cells] w fun e w' => e = .returned (.bool true) ∧ Below w.heap.size w w' := by
  have h1 := fun W => vown_any m W
  have h2 := fun W => rvown_any m W
  have h3 := fun W => vjoin_any m W
  have h4 := fun W => rvjoin_any m W
  have h5 := fun W => begunV_any W
  unfold ResO at h1 h2 h3 h4
  generalize ownV m = o at *
  generalize joinV m = j at *
  obtain ⟨oe, od, o0, o1, o2, o3, o4, o5, o6⟩ := o
  obtain ⟨je, jd, j0, j1, j2, j3, j4, j5, j6⟩ := j
  obtain ⟨I, N, S, A, F, G, R⟩ := m
  unfold MV.cells at *
  dsimp only at *
  have H1 := Lib.hid h1; have H2 := Lib.hid h2; have H3 := Lib.hid h3; have H4 := Lib.hid h4; have H5 := Lib.hid h5; clear h1 h2 h3 h4 h5
  obtain ⟨km, bc⟩ := bx1 w #[.int .i64 I, .int .i64 N, .int .i64 S, .int .i64 A, .int .i64 F, .int .i64 G, .int .i64 R] 23
  go_enter Try.func5, Try.ntmps5
  go_wp2_with fail
  generalize w.alloc (.cells #[.int .i64 I, .int .i64 N, .int .i64 S, .int .i64 A, .int .i64 F, .int .i64 G, .int .i64 R] 23) = u1 at *
  refine (H1.out _).mono ?_
  rintro e w1 ⟨rfl, hC⟩
  dsimp only
  replace km := km.on hC; replace bc := bc.trans (hC.mono bc.size); clear hC
  have z_ka_km := km.lt
  have zb_ka := bc.size
  have ka := Blk.new w1 23 #[.int .i64 o0, .int .i64 o1, .int .i64 o2, .int .i64 o3, .int .i64 o4, .int .i64 o5, .int .i64 o6]
  have al := Below.al w1 (.cells #[.int .i64 o0, .int .i64 o1, .int .i64 o2, .int .i64 o3, .int .i64 o4, .int .i64 o5, .int .i64 o6] 23)
  replace km := km.on al; replace bc := bc.trans (al.mono bc.size); clear al
  obtain ⟨⟨pkm_0, pkm_1, pkm_2, pkm_3, pkm_4, pkm_5, pkm_6⟩, pkm_0f, pkm_1f, pkm_2f, pkm_3f, pkm_4f, pkm_5f, pkm_6f⟩ := km.seven
  go_wp2_with fail
  clear pkm_0 pkm_1 pkm_2 pkm_3 pkm_4 pkm_5 pkm_6 pkm_0f pkm_1f pkm_2f pkm_3f pkm_4f pkm_5f pkm_6f
  generalize w1.alloc (.cells #[.int .i64 o0, .int .i64 o1, .int .i64 o2, .int .i64 o3, .int .i64 o4, .int .i64 o5, .int .i64 o6] 23) = u2 at *
  generalize w1.heap.size = g2 at *
  refine (H2.out _).mono ?_
  rintro e w2 ⟨rfl, hC⟩
  dsimp only
  replace km := km.on hC; replace ka := ka.on hC; replace bc := bc.trans (hC.mono bc.size); clear hC
  have z_kb_km := km.lt
  have z_kb_ka := ka.lt
  have zb_kb := bc.size
  have kb := Blk.new w2 23 #[.int .i64 o0, .int .i64 o1, .int .i64 o2, .int .i64 o3, .int .i64 o4, .int .i64 o5, .int .i64 o6]
  have al := Below.al w2 (.cells #[.int .i64 o0, .int .i64 o1, .int .i64 o2, .int .i64 o3, .int .i64 o4, .int .i64 o5, .int .i64 o6] 23)
  replace km := km.on al; replace ka := ka.on al; replace bc := bc.trans (al.mono bc.size); clear al
  obtain ⟨⟨pkm_0, pkm_1, pkm_2, pkm_3, pkm_4, pkm_5, pkm_6⟩, pkm_0f, pkm_1f, pkm_2f, pkm_3f, pkm_4f, pkm_5f, pkm_6f⟩ := km.seven
  go_wp2_with fail
  clear pkm_0 pkm_1 pkm_2 pkm_3 pkm_4 pkm_5 pkm_6 pkm_0f pkm_1f pkm_2f pkm_3f pkm_4f pkm_5f pkm_6f
  generalize w2.alloc (.cells #[.int .i64 o0, .int .i64 o1, .int .i64 o2, .int .i64 o3, .int .i64 o4, .int .i64 o5, .int .i64 o6] 23) = u3 at *
  generalize w2.heap.size = g3 at *
  refine (H3.out _).mono ?_
  rintro e w3 ⟨rfl, hC⟩
  dsimp only
  replace km := km.on hC; replace ka := ka.on hC; replace kb := kb.on hC; replace bc := bc.trans (hC.mono bc.size); clear hC
  have z_kc_km := km.lt
  have z_kc_ka := ka.lt
  have z_kc_kb := kb.lt
  have zb_kc := bc.size
  have kc := Blk.new w3 23 #[.int .i64 j0, .int .i64 j1, .int .i64 j2, .int .i64 j3, .int .i64 j4, .int .i64 j5, .int .i64 j6]
  have al := Below.al w3 (.cells #[.int .i64 j0, .int .i64 j1, .int .i64 j2, .int .i64 j3, .int .i64 j4, .int .i64 j5, .int .i64 j6] 23)
  replace km := km.on al; replace ka := ka.on al; replace kb := kb.on al; replace bc := bc.trans (al.mono bc.size); clear al
  obtain ⟨⟨pkm_0, pkm_1, pkm_2, pkm_3, pkm_4, pkm_5, pkm_6⟩, pkm_0f, pkm_1f, pkm_2f, pkm_3f, pkm_4f, pkm_5f, pkm_6f⟩ := km.seven
  go_wp2_with fail
  clear pkm_0 pkm_1 pkm_2 pkm_3 pkm_4 pkm_5 pkm_6 pkm_0f pkm_1f pkm_2f pkm_3f pkm_4f pkm_5f pkm_6f
  generalize w3.alloc (.cells #[.int .i64 j0, .int .i64 j1, .int .i64 j2, .int .i64 j3, .int .i64 j4, .int .i64 j5, .int .i64 j6] 23) = u4 at *
  generalize w3.heap.size = g4 at *
  refine (H4.out _).mono ?_
  rintro e w4 ⟨rfl, hC⟩
  dsimp only
  replace km := km.on hC; replace ka := ka.on hC; replace kb := kb.on hC; replace kc := kc.on hC; replace bc := bc.trans (hC.mono bc.size); clear hC
  have z_kd_km := km.lt
  have z_kd_ka := ka.lt
  have z_kd_kb := kb.lt
  have z_kd_kc := kc.lt
  have zb_kd := bc.size
  have kd := Blk.new w4 23 #[.int .i64 j0, .int .i64 j1, .int .i64 j2, .int .i64 j3, .int .i64 j4, .int .i64 j5, .int .i64 j6]
  have al := Below.al w4 (.cells #[.int .i64 j0, .int .i64 j1, .int .i64 j2, .int .i64 j3, .int .i64 j4, .int .i64 j5, .int .i64 j6] 23)
  replace km := km.on al; replace ka := ka.on al; replace kb := kb.on al; replace kc := kc.on al; replace bc := bc.trans (al.mono bc.size); clear al
  go_wp2_with fail
  generalize w4.alloc (.cells #[.int .i64 j0, .int .i64 j1, .int .i64 j2, .int .i64 j3, .int .i64 j4, .int .i64 j5, .int .i64 j6] 23) = u5 at *
  generalize w4.heap.size = g5 at *
  refine (H5.out _).mono ?_
  rintro e w5 ⟨rfl, hC⟩
  dsimp only
  replace km := km.on hC; replace ka := ka.on hC; replace kb := kb.on hC; replace kc := kc.on hC; replace kd := kd.on hC; replace bc := bc.trans (hC.mono bc.size); clear hC
  obtain ⟨⟨pka_0, pka_1, pka_2, pka_3, pka_4, pka_5, pka_6⟩, pka_0f, pka_1f, pka_2f, pka_3f, pka_4f, pka_5f, pka_6f⟩ := ka.seven
  obtain ⟨⟨pkb_0, pkb_1, pkb_2, pkb_3, pkb_4, pkb_5, pkb_6⟩, pkb_0f, pkb_1f, pkb_2f, pkb_3f, pkb_4f, pkb_5f, pkb_6f⟩ := kb.seven
  obtain ⟨⟨pkc_0, pkc_1, pkc_2, pkc_3, pkc_4, pkc_5, pkc_6⟩, pkc_0f, pkc_1f, pkc_2f, pkc_3f, pkc_4f, pkc_5f, pkc_6f⟩ := kc.seven
  obtain ⟨⟨pkd_0, pkd_1, pkd_2, pkd_3, pkd_4, pkd_5, pkd_6⟩, pkd_0f, pkd_1f, pkd_2f, pkd_3f, pkd_4f, pkd_5f, pkd_6f⟩ := kd.seven
  go_wp2
  go_ret
  exact ⟨rfl, bc⟩
end Go.Proofs.Ytffbhdllepjdeaa
