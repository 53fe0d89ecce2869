/-
  The law of what may be: what comes of a view that may be may be, and a node that heard no more right than wrong does not send. Condition: the numbers are an int's.
-/
import Derived.Test.YtffbhdllepjdeaaVN
import Derived.Test.YtffbhdllepjdeaaVQ
namespace Go.Proofs.Ytffbhdllepjdeaa
open Go.RowKit

theorem good_range {m x : MV} {s k : Int} (h : goodV m s k = (0, x)) : 0 ≤ s ∧ s ≤ 8 := by
  unfold goodV at h
  split at h
  · rename_i hask
    obtain ⟨hok, hoth⟩ := ask_zero hask
    have h1 := hoth.1.1; have h2 := hoth.1.2; have h3 := ok_node hok
    omega
  · rename_i hask
    exact absurd (congrArg Prod.fst h) hask
theorem cell_pair {w : World} {g : Nat} {t : TypeId} (h : Blk w g t #[.int .i64 0, .int .i64 1]) {k : Nat} (hk : k < 2) : w.cell? ⟨g, k, none⟩ = some (.int .i64 (k : Int)) := by
  obtain rfl | rfl : k = 0 ∨ k = 1 := by omega
  · exact h.two.1
  · exact h.two.2.1
theorem bad_split (m : MV) (s : Int) : ∃ (e : Int) (x : MV), badV m s = (e, x) ∧ (e = 0 → okV x) ∧ e = askV m s :=
  ⟨(badV m s).1, (badV m s).2, rfl, fun h => bad_may (m := m) (s := s) (by rw [← h]), by unfold badV; split <;> simp_all⟩
theorem null_split (m : MV) (s : Int) : ∃ (e : Int) (x : MV), nullV m s = (e, x) ∧ (e = 0 → okV x) ∧ e = askV m s :=
  ⟨(nullV m s).1, (nullV m s).2, rfl, fun h => null_may (m := m) (s := s) (by rw [← h]), by unfold nullV; split <;> simp_all⟩
/-- What Good answers is an error, or may be, with the sender in its set. -/
theorem good_two (m : MV) (s k : Int) (w : World) : ∃ (e : Int) (y : MV), Calls Try.prog 22 #[.agg m.cells, .int .i64 s, .int .i64 k] w (ResV w (e, y)) ∧ (e = 0 → (0 ≤ s ∧ s ≤ 8) ∧ chkV y = 0 ∧ (bits .and .i64 y.S (pw s) == 0) = false) := by
  refine ⟨(goodV m s k).1, (goodV m s k).2, vgood_any m s k w, fun he => ?_⟩
  have h : goodV m s k = (0, (goodV m s k).2) := by rw [← he]
  obtain ⟨h1, h2⟩ := good_may h
  refine ⟨good_range h, chkV_ok h1, ?_⟩
  unfold hasI at h2
  simpa using h2

set_option maxRecDepth 8000 in
set_option maxHeartbeats 16000000 in
theorem may_law (m : MV) (s which : Int) (w : World) : Calls Try.prog 6 #[.agg m.cells, .int .i64 s, .int .i64 which] w fun e w' => e = .returned (.bool true) ∧ Below w.heap.size w w' := by
  have hb := fun W => begunV_any W
  have hck := fun W => vcheck_any m W
  by_cases hok : okV m
  · rw [chkV_ok hok] at hck
    have hg := fun k W => good_two m s k W
    have hbad := fun W => vbad_any m s W
    have hnul := fun W => vnull_any m s W
    have how := fun W => vown_any m W
    have hjo := fun W => vjoin_any m W
    have hchk := fun x W => vcheck_any x W
    obtain ⟨ov, ox, eo, hox, hob, hoi⟩ := own_may hok
    obtain ⟨jv, jx, ej, hjx, hjb⟩ := join_may hok
    have hin := fun W => vin_any ox W
    have hco := fun W => vcheck_any ox W
    have hcj := fun W => vcheck_any jx W
    rw [chkV_ok hox] at hco
    rw [chkV_ok hjx] at hcj
    rw [eo] at how
    rw [ej] at hjo
    unfold ResO at how hjo
    obtain ⟨be, bx, hbe, hbx, hcb⟩ := bad_split m s
    obtain ⟨ne, nx, hne, hnx, hcn⟩ := null_split m s
    rw [hbe] at hbad
    rw [hne] at hnul
    unfold ResV at hbad hnul
    obtain rfl : ne = be := hcn.trans hcb.symm
    have hcb2 := fun (h : ne = 0) W => by have := vcheck_any bx W; rw [chkV_ok (hbx h)] at this; exact this
    have hcn2 := fun (h : ne = 0) W => by have := vcheck_any nx W; rw [chkV_ok (hnx h)] at this; exact this
    clear hok eo ej hbe hne hox hjx hbx hnx hcb hcn hchk
    obtain ⟨I, N, S, A, F, G, R⟩ := m
    obtain ⟨b0, b1, b2, b3, b4, b5, b6⟩ := bx
    obtain ⟨n0, n1, n2, n3, n4, n5, n6⟩ := nx
    obtain ⟨o0, o1, o2, o3, o4, o5, o6⟩ := ox
    obtain ⟨j0, j1, j2, j3, j4, j5, j6⟩ := jx
    generalize inV ⟨o0, o1, o2, o3, o4, o5, o6⟩ = inn at *
    unfold ResV MV.cells at *
    dsimp only at *
    have HB := Lib.hid hb; have HC := Lib.hid hck; have HG := Lib.hid hg; have HBA := Lib.hid hbad; have HN := Lib.hid hnul; have HO := Lib.hid how; have HJ := Lib.hid hjo; have HIN := Lib.hid hin; have HCO := Lib.hid hco; have HCJ := Lib.hid hcj; have HCB := Lib.hid hcb2; have HCN := Lib.hid hcn2
    clear hb hck hg hbad hnul how hjo hin hco hcj hcb2 hcn2
    have HOB := Lib.hid hob; have HOI := Lib.hid hoi; have HJB := Lib.hid hjb; clear hob hoi hjb
    obtain ⟨km, bc⟩ := bx1 w #[.int .i64 I, .int .i64 N, .int .i64 S, .int .i64 A, .int .i64 F, .int .i64 G, .int .i64 R] 23
    go_enter Try.func6, Try.ntmps6
    go_wp2_with fail
    generalize w.alloc (.cells #[.int .i64 I, .int .i64 N, .int .i64 S, .int .i64 A, .int .i64 F, .int .i64 G, .int .i64 R] 23) = u1 at *
    refine (HB.out _).mono ?_
    rintro e w1 ⟨rfl, hC⟩
    dsimp only
    replace km := km.on hC; replace bc := bc.trans (hC.mono bc.size); clear hC
    obtain ⟨⟨pkm_0, pkm_1, pkm_2, pkm_3, pkm_4, pkm_5, pkm_6⟩, pkm_0f, pkm_1f, pkm_2f, pkm_3f, pkm_4f, pkm_5f, pkm_6f⟩ := km.seven
    go_wp2_with fail
    clear pkm_0 pkm_1 pkm_2 pkm_3 pkm_4 pkm_5 pkm_6 pkm_0f pkm_1f pkm_2f pkm_3f pkm_4f pkm_5f pkm_6f
    refine (HC.out _).mono ?_
    rintro e w2 ⟨rfl, hC⟩
    dsimp only
    replace km := km.on hC; replace bc := bc.trans (hC.mono bc.size); clear hC
    have z_kl_km := km.lt
    have zb_kl := bc.size
    have kl := Blk.new w2 3 #[.int .i64 0, .int .i64 1]
    have al := Below.al w2 (.cells #[.int .i64 0, .int .i64 1] 3)
    replace km := km.on al; replace bc := bc.trans (al.mono bc.size); clear al
    go_wp2_with fail
    generalize w2.alloc (.cells #[.int .i64 0, .int .i64 1] 3) = u2 at *
    generalize w2.heap.size = g2 at *
    go_loopw [32] (fun i wr => ∃ k : Nat, k ≤ 2 ∧ i = .int .i64 k ∧ Blk wr w.heap.size 23 #[.int .i64 I, .int .i64 N, .int .i64 S, .int .i64 A, .int .i64 F, .int .i64 G, .int .i64 R] ∧ Blk wr g2 3 #[.int .i64 0, .int .i64 1] ∧ Below w.heap.size w wr)
      (fun i _ => 2 - (intOf i).toNat)
    case atStart => exact ⟨0, by omega, rfl, km, kl, bc⟩
    case round =>
      clear km kl bc
      obtain ⟨k, hk, rfl, km, kl, bc⟩ := hrel
      by_cases hlt : k < 2
      · obtain ⟨e, y, hgd, hgf⟩ := HG.out (k : Int) wr
        have hcell := cell_pair kl hlt
        have hki : (k : Int) < 2 := by omega
        have hcy := fun W => vcheck_any y W
        obtain ⟨y0, y1, y2, y3, y4, y5, y6⟩ := y
        unfold ResV MV.cells at *
        dsimp only at *
        have HGD := Lib.hid hgd; have HGF := Lib.hid hgf; clear hgd hgf
        by_cases he : e = 0
        · subst he
          obtain ⟨⟨hs0, hs8⟩, hc0, hbit⟩ := HGF.out rfl
          rw [hc0] at hcy
          have HCY := Lib.hid hcy; clear hcy hc0 HGF
          have hp := pw_wrap ⟨hs0, hs8⟩
          by_cases hw : which = (k : Int)
          · have dw : (which == (k : Int)) = true := by simpa using hw
            obtain ⟨⟨pkm_0, pkm_1, pkm_2, pkm_3, pkm_4, pkm_5, pkm_6⟩, pkm_0f, pkm_1f, pkm_2f, pkm_3f, pkm_4f, pkm_5f, pkm_6f⟩ := km.seven
            go_wp2_with fail
            clear pkm_0 pkm_1 pkm_2 pkm_3 pkm_4 pkm_5 pkm_6 pkm_0f pkm_1f pkm_2f pkm_3f pkm_4f pkm_5f pkm_6f
            refine (HGD.out).mono ?_
            rintro e v1 ⟨rfl, hC⟩
            dsimp only
            replace km := km.on hC; replace kl := kl.on hC; replace bc := bc.trans (hC.mono bc.size); clear hC
            try clear hcell
            have z_ky_km := km.lt
            have z_ky_kl := kl.lt
            have zb_ky := bc.size
            have ky := Blk.new v1 23 #[.int .i64 y0, .int .i64 y1, .int .i64 y2, .int .i64 y3, .int .i64 y4, .int .i64 y5, .int .i64 y6]
            have al := Below.al v1 (.cells #[.int .i64 y0, .int .i64 y1, .int .i64 y2, .int .i64 y3, .int .i64 y4, .int .i64 y5, .int .i64 y6] 23)
            replace km := km.on al; replace kl := kl.on al; replace bc := bc.trans (al.mono bc.size); clear al
            obtain ⟨⟨pky_0, pky_1, pky_2, pky_3, pky_4, pky_5, pky_6⟩, pky_0f, pky_1f, pky_2f, pky_3f, pky_4f, pky_5f, pky_6f⟩ := ky.seven
            go_wp2_with fail
            clear pky_0 pky_1 pky_2 pky_3 pky_4 pky_5 pky_6 pky_0f pky_1f pky_2f pky_3f pky_4f pky_5f pky_6f
            generalize v1.alloc (.cells #[.int .i64 y0, .int .i64 y1, .int .i64 y2, .int .i64 y3, .int .i64 y4, .int .i64 y5, .int .i64 y6] 23) = u1 at *
            generalize v1.heap.size = g1 at *
            refine (HCY.out _).mono ?_
            rintro e v2 ⟨rfl, hC⟩
            dsimp only
            replace km := km.on hC; replace kl := kl.on hC; replace ky := ky.on hC; replace bc := bc.trans (hC.mono bc.size); clear hC
            obtain ⟨⟨pky_0, pky_1, pky_2, pky_3, pky_4, pky_5, pky_6⟩, pky_0f, pky_1f, pky_2f, pky_3f, pky_4f, pky_5f, pky_6f⟩ := ky.seven
            go_wp2
            go_roundw
            case rel => exact ⟨k + 1, by omega, by go_num, km, kl, bc⟩
            case measure => simp [intOf]; omega
          · have dw : (which == (k : Int)) = false := by simpa using hw
            obtain ⟨⟨pkm_0, pkm_1, pkm_2, pkm_3, pkm_4, pkm_5, pkm_6⟩, pkm_0f, pkm_1f, pkm_2f, pkm_3f, pkm_4f, pkm_5f, pkm_6f⟩ := km.seven
            go_wp2_with fail
            clear pkm_0 pkm_1 pkm_2 pkm_3 pkm_4 pkm_5 pkm_6 pkm_0f pkm_1f pkm_2f pkm_3f pkm_4f pkm_5f pkm_6f
            refine (HGD.out).mono ?_
            rintro e v1 ⟨rfl, hC⟩
            dsimp only
            replace km := km.on hC; replace kl := kl.on hC; replace bc := bc.trans (hC.mono bc.size); clear hC
            try clear hcell
            have z_ky_km := km.lt
            have z_ky_kl := kl.lt
            have zb_ky := bc.size
            have ky := Blk.new v1 23 #[.int .i64 y0, .int .i64 y1, .int .i64 y2, .int .i64 y3, .int .i64 y4, .int .i64 y5, .int .i64 y6]
            have al := Below.al v1 (.cells #[.int .i64 y0, .int .i64 y1, .int .i64 y2, .int .i64 y3, .int .i64 y4, .int .i64 y5, .int .i64 y6] 23)
            replace km := km.on al; replace kl := kl.on al; replace bc := bc.trans (al.mono bc.size); clear al
            obtain ⟨⟨pky_0, pky_1, pky_2, pky_3, pky_4, pky_5, pky_6⟩, pky_0f, pky_1f, pky_2f, pky_3f, pky_4f, pky_5f, pky_6f⟩ := ky.seven
            go_wp2_with fail
            clear pky_0 pky_1 pky_2 pky_3 pky_4 pky_5 pky_6 pky_0f pky_1f pky_2f pky_3f pky_4f pky_5f pky_6f
            generalize v1.alloc (.cells #[.int .i64 y0, .int .i64 y1, .int .i64 y2, .int .i64 y3, .int .i64 y4, .int .i64 y5, .int .i64 y6] 23) = u1 at *
            generalize v1.heap.size = g1 at *
            refine (HCY.out _).mono ?_
            rintro e v2 ⟨rfl, hC⟩
            dsimp only
            replace km := km.on hC; replace kl := kl.on hC; replace ky := ky.on hC; replace bc := bc.trans (hC.mono bc.size); clear hC
            go_wp2
            go_roundw
            case rel => exact ⟨k + 1, by omega, by go_num, km, kl, bc⟩
            case measure => simp [intOf]; omega
        · have de : (e == 0) = false := by simpa using he
          clear HGF hcy
          obtain ⟨⟨pkm_0, pkm_1, pkm_2, pkm_3, pkm_4, pkm_5, pkm_6⟩, pkm_0f, pkm_1f, pkm_2f, pkm_3f, pkm_4f, pkm_5f, pkm_6f⟩ := km.seven
          go_wp2_with fail
          clear pkm_0 pkm_1 pkm_2 pkm_3 pkm_4 pkm_5 pkm_6 pkm_0f pkm_1f pkm_2f pkm_3f pkm_4f pkm_5f pkm_6f
          refine (HGD.out).mono ?_
          rintro e v1 ⟨rfl, hC⟩
          dsimp only
          replace km := km.on hC; replace kl := kl.on hC; replace bc := bc.trans (hC.mono bc.size); clear hC
          try clear hcell
          have z_ky_km := km.lt
          have z_ky_kl := kl.lt
          have zb_ky := bc.size
          have ky := Blk.new v1 23 #[.int .i64 y0, .int .i64 y1, .int .i64 y2, .int .i64 y3, .int .i64 y4, .int .i64 y5, .int .i64 y6]
          have al := Below.al v1 (.cells #[.int .i64 y0, .int .i64 y1, .int .i64 y2, .int .i64 y3, .int .i64 y4, .int .i64 y5, .int .i64 y6] 23)
          replace km := km.on al; replace kl := kl.on al; replace bc := bc.trans (al.mono bc.size); clear al
          go_wp2
          go_roundw
          case rel => exact ⟨k + 1, by omega, by go_num, km, kl, bc⟩
          case measure => simp [intOf]; omega
      · obtain rfl : k = 2 := by omega
        clear kl HG HB HC
        have hob := HOB.out; have hoi := HOI.out; have hjb := HJB.out
        clear HOB HOI HJB
        by_cases hs : F < A
        · rw [decide_eq_true hs] at hob hjb
          have ds : decide (F < A) = true := decide_eq_true hs
          obtain rfl : ov = 1 := by simpa using hob
          obtain rfl : jv = 1 := by simpa using hjb
          obtain rfl : inn = true := by simpa using hoi
          clear hob hjb hoi
          by_cases ha : ne = 0
          · subst ha
            have hcb2 := HCB.out rfl; have hcn2 := HCN.out rfl; clear HCB HCN; have HCB := Lib.hid hcb2; have HCN := Lib.hid hcn2; clear hcb2 hcn2
            obtain ⟨⟨pkm_0, pkm_1, pkm_2, pkm_3, pkm_4, pkm_5, pkm_6⟩, pkm_0f, pkm_1f, pkm_2f, pkm_3f, pkm_4f, pkm_5f, pkm_6f⟩ := km.seven
            go_wp2_with fail
            clear pkm_0 pkm_1 pkm_2 pkm_3 pkm_4 pkm_5 pkm_6 pkm_0f pkm_1f pkm_2f pkm_3f pkm_4f pkm_5f pkm_6f
            refine (HBA.out _).mono ?_
            rintro e v1 ⟨rfl, hC⟩
            dsimp only
            replace km := km.on hC; replace bc := bc.trans (hC.mono bc.size); clear hC
            have z_kb_km := km.lt
            have zb_kb := bc.size
            have kb := Blk.new v1 23 #[.int .i64 b0, .int .i64 b1, .int .i64 b2, .int .i64 b3, .int .i64 b4, .int .i64 b5, .int .i64 b6]
            have al := Below.al v1 (.cells #[.int .i64 b0, .int .i64 b1, .int .i64 b2, .int .i64 b3, .int .i64 b4, .int .i64 b5, .int .i64 b6] 23)
            replace km := km.on al; replace bc := bc.trans (al.mono bc.size); clear al
            obtain ⟨⟨pkb_0, pkb_1, pkb_2, pkb_3, pkb_4, pkb_5, pkb_6⟩, pkb_0f, pkb_1f, pkb_2f, pkb_3f, pkb_4f, pkb_5f, pkb_6f⟩ := kb.seven
            go_wp2_with fail
            clear pkb_0 pkb_1 pkb_2 pkb_3 pkb_4 pkb_5 pkb_6 pkb_0f pkb_1f pkb_2f pkb_3f pkb_4f pkb_5f pkb_6f
            generalize v1.alloc (.cells #[.int .i64 b0, .int .i64 b1, .int .i64 b2, .int .i64 b3, .int .i64 b4, .int .i64 b5, .int .i64 b6] 23) = u1 at *
            generalize v1.heap.size = g1 at *
            refine (HCB.out _).mono ?_
            rintro e v2 ⟨rfl, hC⟩
            dsimp only
            replace km := km.on hC; replace kb := kb.on hC; replace bc := bc.trans (hC.mono bc.size); clear hC
            obtain ⟨⟨pkm_0, pkm_1, pkm_2, pkm_3, pkm_4, pkm_5, pkm_6⟩, pkm_0f, pkm_1f, pkm_2f, pkm_3f, pkm_4f, pkm_5f, pkm_6f⟩ := km.seven
            go_wp2_with fail
            clear pkm_0 pkm_1 pkm_2 pkm_3 pkm_4 pkm_5 pkm_6 pkm_0f pkm_1f pkm_2f pkm_3f pkm_4f pkm_5f pkm_6f
            refine (HN.out _).mono ?_
            rintro e v3 ⟨rfl, hC⟩
            dsimp only
            replace km := km.on hC; replace kb := kb.on hC; replace bc := bc.trans (hC.mono bc.size); clear hC
            have z_kn_km := km.lt
            have z_kn_kb := kb.lt
            have zb_kn := bc.size
            have kn := Blk.new v3 23 #[.int .i64 n0, .int .i64 n1, .int .i64 n2, .int .i64 n3, .int .i64 n4, .int .i64 n5, .int .i64 n6]
            have al := Below.al v3 (.cells #[.int .i64 n0, .int .i64 n1, .int .i64 n2, .int .i64 n3, .int .i64 n4, .int .i64 n5, .int .i64 n6] 23)
            replace km := km.on al; replace kb := kb.on al; replace bc := bc.trans (al.mono bc.size); clear al
            obtain ⟨⟨pkn_0, pkn_1, pkn_2, pkn_3, pkn_4, pkn_5, pkn_6⟩, pkn_0f, pkn_1f, pkn_2f, pkn_3f, pkn_4f, pkn_5f, pkn_6f⟩ := kn.seven
            go_wp2_with fail
            clear pkn_0 pkn_1 pkn_2 pkn_3 pkn_4 pkn_5 pkn_6 pkn_0f pkn_1f pkn_2f pkn_3f pkn_4f pkn_5f pkn_6f
            generalize v3.alloc (.cells #[.int .i64 n0, .int .i64 n1, .int .i64 n2, .int .i64 n3, .int .i64 n4, .int .i64 n5, .int .i64 n6] 23) = u2 at *
            generalize v3.heap.size = g2 at *
            refine (HCN.out _).mono ?_
            rintro e v4 ⟨rfl, hC⟩
            dsimp only
            replace km := km.on hC; replace kb := kb.on hC; replace kn := kn.on hC; replace bc := bc.trans (hC.mono bc.size); clear hC
            obtain ⟨⟨pkm_0, pkm_1, pkm_2, pkm_3, pkm_4, pkm_5, pkm_6⟩, pkm_0f, pkm_1f, pkm_2f, pkm_3f, pkm_4f, pkm_5f, pkm_6f⟩ := km.seven
            go_wp2_with fail
            clear pkm_0 pkm_1 pkm_2 pkm_3 pkm_4 pkm_5 pkm_6 pkm_0f pkm_1f pkm_2f pkm_3f pkm_4f pkm_5f pkm_6f
            refine (HO.out _).mono ?_
            rintro e v5 ⟨rfl, hC⟩
            dsimp only
            replace km := km.on hC; replace kb := kb.on hC; replace kn := kn.on hC; replace bc := bc.trans (hC.mono bc.size); clear hC
            have z_ko_km := km.lt
            have z_ko_kb := kb.lt
            have z_ko_kn := kn.lt
            have zb_ko := bc.size
            have ko := Blk.new v5 23 #[.int .i64 o0, .int .i64 o1, .int .i64 o2, .int .i64 o3, .int .i64 o4, .int .i64 o5, .int .i64 o6]
            have al := Below.al v5 (.cells #[.int .i64 o0, .int .i64 o1, .int .i64 o2, .int .i64 o3, .int .i64 o4, .int .i64 o5, .int .i64 o6] 23)
            replace km := km.on al; replace kb := kb.on al; replace kn := kn.on al; replace bc := bc.trans (al.mono bc.size); clear al
            obtain ⟨⟨pkm_0, pkm_1, pkm_2, pkm_3, pkm_4, pkm_5, pkm_6⟩, pkm_0f, pkm_1f, pkm_2f, pkm_3f, pkm_4f, pkm_5f, pkm_6f⟩ := km.seven
            go_wp2_with fail
            clear pkm_0 pkm_1 pkm_2 pkm_3 pkm_4 pkm_5 pkm_6 pkm_0f pkm_1f pkm_2f pkm_3f pkm_4f pkm_5f pkm_6f
            generalize v5.alloc (.cells #[.int .i64 o0, .int .i64 o1, .int .i64 o2, .int .i64 o3, .int .i64 o4, .int .i64 o5, .int .i64 o6] 23) = u3 at *
            generalize v5.heap.size = g3 at *
            refine (HJ.out _).mono ?_
            rintro e v6 ⟨rfl, hC⟩
            dsimp only
            replace km := km.on hC; replace kb := kb.on hC; replace kn := kn.on hC; replace ko := ko.on hC; replace bc := bc.trans (hC.mono bc.size); clear hC
            have z_kj_km := km.lt
            have z_kj_kb := kb.lt
            have z_kj_kn := kn.lt
            have z_kj_ko := ko.lt
            have zb_kj := bc.size
            have kj := Blk.new v6 23 #[.int .i64 j0, .int .i64 j1, .int .i64 j2, .int .i64 j3, .int .i64 j4, .int .i64 j5, .int .i64 j6]
            have al := Below.al v6 (.cells #[.int .i64 j0, .int .i64 j1, .int .i64 j2, .int .i64 j3, .int .i64 j4, .int .i64 j5, .int .i64 j6] 23)
            replace km := km.on al; replace kb := kb.on al; replace kn := kn.on al; replace ko := ko.on al; replace bc := bc.trans (al.mono bc.size); clear al
            obtain ⟨⟨pkm_0, pkm_1, pkm_2, pkm_3, pkm_4, pkm_5, pkm_6⟩, pkm_0f, pkm_1f, pkm_2f, pkm_3f, pkm_4f, pkm_5f, pkm_6f⟩ := km.seven
            obtain ⟨⟨pko_0, pko_1, pko_2, pko_3, pko_4, pko_5, pko_6⟩, pko_0f, pko_1f, pko_2f, pko_3f, pko_4f, pko_5f, pko_6f⟩ := ko.seven
            go_wp2_with fail
            clear pkm_0 pkm_1 pkm_2 pkm_3 pkm_4 pkm_5 pkm_6 pkm_0f pkm_1f pkm_2f pkm_3f pkm_4f pkm_5f pkm_6f pko_0 pko_1 pko_2 pko_3 pko_4 pko_5 pko_6 pko_0f pko_1f pko_2f pko_3f pko_4f pko_5f pko_6f
            generalize v6.alloc (.cells #[.int .i64 j0, .int .i64 j1, .int .i64 j2, .int .i64 j3, .int .i64 j4, .int .i64 j5, .int .i64 j6] 23) = u4 at *
            generalize v6.heap.size = g4 at *
            refine (HCO.out _).mono ?_
            rintro e v7 ⟨rfl, hC⟩
            dsimp only
            replace km := km.on hC; replace kb := kb.on hC; replace kn := kn.on hC; replace ko := ko.on hC; replace kj := kj.on hC; replace bc := bc.trans (hC.mono bc.size); clear hC
            obtain ⟨⟨pkj_0, pkj_1, pkj_2, pkj_3, pkj_4, pkj_5, pkj_6⟩, pkj_0f, pkj_1f, pkj_2f, pkj_3f, pkj_4f, pkj_5f, pkj_6f⟩ := kj.seven
            go_wp2_with fail
            clear pkj_0 pkj_1 pkj_2 pkj_3 pkj_4 pkj_5 pkj_6 pkj_0f pkj_1f pkj_2f pkj_3f pkj_4f pkj_5f pkj_6f
            refine (HCJ.out _).mono ?_
            rintro e v8 ⟨rfl, hC⟩
            dsimp only
            replace km := km.on hC; replace kb := kb.on hC; replace kn := kn.on hC; replace ko := ko.on hC; replace kj := kj.on hC; replace bc := bc.trans (hC.mono bc.size); clear hC
            obtain ⟨⟨pko_0, pko_1, pko_2, pko_3, pko_4, pko_5, pko_6⟩, pko_0f, pko_1f, pko_2f, pko_3f, pko_4f, pko_5f, pko_6f⟩ := ko.seven
            go_wp2_with fail
            clear pko_0 pko_1 pko_2 pko_3 pko_4 pko_5 pko_6 pko_0f pko_1f pko_2f pko_3f pko_4f pko_5f pko_6f
            refine (HIN.out _).mono ?_
            rintro e v9 ⟨rfl, hC⟩
            dsimp only
            replace km := km.on hC; replace kb := kb.on hC; replace kn := kn.on hC; replace ko := ko.on hC; replace kj := kj.on hC; replace bc := bc.trans (hC.mono bc.size); clear hC
            go_wp2
            go_ret
            exact ⟨rfl, bc⟩
          · have da : (ne == 0) = false := by simpa using ha
            clear HCB HCN
            obtain ⟨⟨pkm_0, pkm_1, pkm_2, pkm_3, pkm_4, pkm_5, pkm_6⟩, pkm_0f, pkm_1f, pkm_2f, pkm_3f, pkm_4f, pkm_5f, pkm_6f⟩ := km.seven
            go_wp2_with fail
            clear pkm_0 pkm_1 pkm_2 pkm_3 pkm_4 pkm_5 pkm_6 pkm_0f pkm_1f pkm_2f pkm_3f pkm_4f pkm_5f pkm_6f
            refine (HBA.out _).mono ?_
            rintro e v1 ⟨rfl, hC⟩
            dsimp only
            replace km := km.on hC; replace bc := bc.trans (hC.mono bc.size); clear hC
            have z_kb_km := km.lt
            have zb_kb := bc.size
            have kb := Blk.new v1 23 #[.int .i64 b0, .int .i64 b1, .int .i64 b2, .int .i64 b3, .int .i64 b4, .int .i64 b5, .int .i64 b6]
            have al := Below.al v1 (.cells #[.int .i64 b0, .int .i64 b1, .int .i64 b2, .int .i64 b3, .int .i64 b4, .int .i64 b5, .int .i64 b6] 23)
            replace km := km.on al; replace bc := bc.trans (al.mono bc.size); clear al
            obtain ⟨⟨pkm_0, pkm_1, pkm_2, pkm_3, pkm_4, pkm_5, pkm_6⟩, pkm_0f, pkm_1f, pkm_2f, pkm_3f, pkm_4f, pkm_5f, pkm_6f⟩ := km.seven
            go_wp2_with fail
            clear pkm_0 pkm_1 pkm_2 pkm_3 pkm_4 pkm_5 pkm_6 pkm_0f pkm_1f pkm_2f pkm_3f pkm_4f pkm_5f pkm_6f
            generalize v1.alloc (.cells #[.int .i64 b0, .int .i64 b1, .int .i64 b2, .int .i64 b3, .int .i64 b4, .int .i64 b5, .int .i64 b6] 23) = u1 at *
            generalize v1.heap.size = g1 at *
            refine (HN.out _).mono ?_
            rintro e v3 ⟨rfl, hC⟩
            dsimp only
            replace km := km.on hC; replace kb := kb.on hC; replace bc := bc.trans (hC.mono bc.size); clear hC
            have z_kn_km := km.lt
            have z_kn_kb := kb.lt
            have zb_kn := bc.size
            have kn := Blk.new v3 23 #[.int .i64 n0, .int .i64 n1, .int .i64 n2, .int .i64 n3, .int .i64 n4, .int .i64 n5, .int .i64 n6]
            have al := Below.al v3 (.cells #[.int .i64 n0, .int .i64 n1, .int .i64 n2, .int .i64 n3, .int .i64 n4, .int .i64 n5, .int .i64 n6] 23)
            replace km := km.on al; replace kb := kb.on al; replace bc := bc.trans (al.mono bc.size); clear al
            obtain ⟨⟨pkm_0, pkm_1, pkm_2, pkm_3, pkm_4, pkm_5, pkm_6⟩, pkm_0f, pkm_1f, pkm_2f, pkm_3f, pkm_4f, pkm_5f, pkm_6f⟩ := km.seven
            go_wp2_with fail
            clear pkm_0 pkm_1 pkm_2 pkm_3 pkm_4 pkm_5 pkm_6 pkm_0f pkm_1f pkm_2f pkm_3f pkm_4f pkm_5f pkm_6f
            generalize v3.alloc (.cells #[.int .i64 n0, .int .i64 n1, .int .i64 n2, .int .i64 n3, .int .i64 n4, .int .i64 n5, .int .i64 n6] 23) = u2 at *
            generalize v3.heap.size = g2 at *
            refine (HO.out _).mono ?_
            rintro e v5 ⟨rfl, hC⟩
            dsimp only
            replace km := km.on hC; replace kb := kb.on hC; replace kn := kn.on hC; replace bc := bc.trans (hC.mono bc.size); clear hC
            have z_ko_km := km.lt
            have z_ko_kb := kb.lt
            have z_ko_kn := kn.lt
            have zb_ko := bc.size
            have ko := Blk.new v5 23 #[.int .i64 o0, .int .i64 o1, .int .i64 o2, .int .i64 o3, .int .i64 o4, .int .i64 o5, .int .i64 o6]
            have al := Below.al v5 (.cells #[.int .i64 o0, .int .i64 o1, .int .i64 o2, .int .i64 o3, .int .i64 o4, .int .i64 o5, .int .i64 o6] 23)
            replace km := km.on al; replace kb := kb.on al; replace kn := kn.on al; replace bc := bc.trans (al.mono bc.size); clear al
            obtain ⟨⟨pkm_0, pkm_1, pkm_2, pkm_3, pkm_4, pkm_5, pkm_6⟩, pkm_0f, pkm_1f, pkm_2f, pkm_3f, pkm_4f, pkm_5f, pkm_6f⟩ := km.seven
            go_wp2_with fail
            clear pkm_0 pkm_1 pkm_2 pkm_3 pkm_4 pkm_5 pkm_6 pkm_0f pkm_1f pkm_2f pkm_3f pkm_4f pkm_5f pkm_6f
            generalize v5.alloc (.cells #[.int .i64 o0, .int .i64 o1, .int .i64 o2, .int .i64 o3, .int .i64 o4, .int .i64 o5, .int .i64 o6] 23) = u3 at *
            generalize v5.heap.size = g3 at *
            refine (HJ.out _).mono ?_
            rintro e v6 ⟨rfl, hC⟩
            dsimp only
            replace km := km.on hC; replace kb := kb.on hC; replace kn := kn.on hC; replace ko := ko.on hC; replace bc := bc.trans (hC.mono bc.size); clear hC
            have z_kj_km := km.lt
            have z_kj_kb := kb.lt
            have z_kj_kn := kn.lt
            have z_kj_ko := ko.lt
            have zb_kj := bc.size
            have kj := Blk.new v6 23 #[.int .i64 j0, .int .i64 j1, .int .i64 j2, .int .i64 j3, .int .i64 j4, .int .i64 j5, .int .i64 j6]
            have al := Below.al v6 (.cells #[.int .i64 j0, .int .i64 j1, .int .i64 j2, .int .i64 j3, .int .i64 j4, .int .i64 j5, .int .i64 j6] 23)
            replace km := km.on al; replace kb := kb.on al; replace kn := kn.on al; replace ko := ko.on al; replace bc := bc.trans (al.mono bc.size); clear al
            obtain ⟨⟨pkm_0, pkm_1, pkm_2, pkm_3, pkm_4, pkm_5, pkm_6⟩, pkm_0f, pkm_1f, pkm_2f, pkm_3f, pkm_4f, pkm_5f, pkm_6f⟩ := km.seven
            obtain ⟨⟨pko_0, pko_1, pko_2, pko_3, pko_4, pko_5, pko_6⟩, pko_0f, pko_1f, pko_2f, pko_3f, pko_4f, pko_5f, pko_6f⟩ := ko.seven
            go_wp2_with fail
            clear pkm_0 pkm_1 pkm_2 pkm_3 pkm_4 pkm_5 pkm_6 pkm_0f pkm_1f pkm_2f pkm_3f pkm_4f pkm_5f pkm_6f pko_0 pko_1 pko_2 pko_3 pko_4 pko_5 pko_6 pko_0f pko_1f pko_2f pko_3f pko_4f pko_5f pko_6f
            generalize v6.alloc (.cells #[.int .i64 j0, .int .i64 j1, .int .i64 j2, .int .i64 j3, .int .i64 j4, .int .i64 j5, .int .i64 j6] 23) = u4 at *
            generalize v6.heap.size = g4 at *
            refine (HCO.out _).mono ?_
            rintro e v7 ⟨rfl, hC⟩
            dsimp only
            replace km := km.on hC; replace kb := kb.on hC; replace kn := kn.on hC; replace ko := ko.on hC; replace kj := kj.on hC; replace bc := bc.trans (hC.mono bc.size); clear hC
            obtain ⟨⟨pkj_0, pkj_1, pkj_2, pkj_3, pkj_4, pkj_5, pkj_6⟩, pkj_0f, pkj_1f, pkj_2f, pkj_3f, pkj_4f, pkj_5f, pkj_6f⟩ := kj.seven
            go_wp2_with fail
            clear pkj_0 pkj_1 pkj_2 pkj_3 pkj_4 pkj_5 pkj_6 pkj_0f pkj_1f pkj_2f pkj_3f pkj_4f pkj_5f pkj_6f
            refine (HCJ.out _).mono ?_
            rintro e v8 ⟨rfl, hC⟩
            dsimp only
            replace km := km.on hC; replace kb := kb.on hC; replace kn := kn.on hC; replace ko := ko.on hC; replace kj := kj.on hC; replace bc := bc.trans (hC.mono bc.size); clear hC
            obtain ⟨⟨pko_0, pko_1, pko_2, pko_3, pko_4, pko_5, pko_6⟩, pko_0f, pko_1f, pko_2f, pko_3f, pko_4f, pko_5f, pko_6f⟩ := ko.seven
            go_wp2_with fail
            clear pko_0 pko_1 pko_2 pko_3 pko_4 pko_5 pko_6 pko_0f pko_1f pko_2f pko_3f pko_4f pko_5f pko_6f
            refine (HIN.out _).mono ?_
            rintro e v9 ⟨rfl, hC⟩
            dsimp only
            replace km := km.on hC; replace kb := kb.on hC; replace kn := kn.on hC; replace ko := ko.on hC; replace kj := kj.on hC; replace bc := bc.trans (hC.mono bc.size); clear hC
            go_wp2
            go_ret
            exact ⟨rfl, bc⟩
        · rw [decide_eq_false hs] at hob hjb
          have ds : decide (F < A) = false := decide_eq_false hs
          have hov : (ov != 1) = true := by simp at hob ⊢; exact hob
          clear hoi
          by_cases ha : ne = 0
          · subst ha
            have hcb2 := HCB.out rfl; have hcn2 := HCN.out rfl; clear HCB HCN; have HCB := Lib.hid hcb2; have HCN := Lib.hid hcn2; clear hcb2 hcn2
            obtain ⟨⟨pkm_0, pkm_1, pkm_2, pkm_3, pkm_4, pkm_5, pkm_6⟩, pkm_0f, pkm_1f, pkm_2f, pkm_3f, pkm_4f, pkm_5f, pkm_6f⟩ := km.seven
            go_wp2_with fail
            clear pkm_0 pkm_1 pkm_2 pkm_3 pkm_4 pkm_5 pkm_6 pkm_0f pkm_1f pkm_2f pkm_3f pkm_4f pkm_5f pkm_6f
            refine (HBA.out _).mono ?_
            rintro e v1 ⟨rfl, hC⟩
            dsimp only
            replace km := km.on hC; replace bc := bc.trans (hC.mono bc.size); clear hC
            have z_kb_km := km.lt
            have zb_kb := bc.size
            have kb := Blk.new v1 23 #[.int .i64 b0, .int .i64 b1, .int .i64 b2, .int .i64 b3, .int .i64 b4, .int .i64 b5, .int .i64 b6]
            have al := Below.al v1 (.cells #[.int .i64 b0, .int .i64 b1, .int .i64 b2, .int .i64 b3, .int .i64 b4, .int .i64 b5, .int .i64 b6] 23)
            replace km := km.on al; replace bc := bc.trans (al.mono bc.size); clear al
            obtain ⟨⟨pkb_0, pkb_1, pkb_2, pkb_3, pkb_4, pkb_5, pkb_6⟩, pkb_0f, pkb_1f, pkb_2f, pkb_3f, pkb_4f, pkb_5f, pkb_6f⟩ := kb.seven
            go_wp2_with fail
            clear pkb_0 pkb_1 pkb_2 pkb_3 pkb_4 pkb_5 pkb_6 pkb_0f pkb_1f pkb_2f pkb_3f pkb_4f pkb_5f pkb_6f
            generalize v1.alloc (.cells #[.int .i64 b0, .int .i64 b1, .int .i64 b2, .int .i64 b3, .int .i64 b4, .int .i64 b5, .int .i64 b6] 23) = u1 at *
            generalize v1.heap.size = g1 at *
            refine (HCB.out _).mono ?_
            rintro e v2 ⟨rfl, hC⟩
            dsimp only
            replace km := km.on hC; replace kb := kb.on hC; replace bc := bc.trans (hC.mono bc.size); clear hC
            obtain ⟨⟨pkm_0, pkm_1, pkm_2, pkm_3, pkm_4, pkm_5, pkm_6⟩, pkm_0f, pkm_1f, pkm_2f, pkm_3f, pkm_4f, pkm_5f, pkm_6f⟩ := km.seven
            go_wp2_with fail
            clear pkm_0 pkm_1 pkm_2 pkm_3 pkm_4 pkm_5 pkm_6 pkm_0f pkm_1f pkm_2f pkm_3f pkm_4f pkm_5f pkm_6f
            refine (HN.out _).mono ?_
            rintro e v3 ⟨rfl, hC⟩
            dsimp only
            replace km := km.on hC; replace kb := kb.on hC; replace bc := bc.trans (hC.mono bc.size); clear hC
            have z_kn_km := km.lt
            have z_kn_kb := kb.lt
            have zb_kn := bc.size
            have kn := Blk.new v3 23 #[.int .i64 n0, .int .i64 n1, .int .i64 n2, .int .i64 n3, .int .i64 n4, .int .i64 n5, .int .i64 n6]
            have al := Below.al v3 (.cells #[.int .i64 n0, .int .i64 n1, .int .i64 n2, .int .i64 n3, .int .i64 n4, .int .i64 n5, .int .i64 n6] 23)
            replace km := km.on al; replace kb := kb.on al; replace bc := bc.trans (al.mono bc.size); clear al
            obtain ⟨⟨pkn_0, pkn_1, pkn_2, pkn_3, pkn_4, pkn_5, pkn_6⟩, pkn_0f, pkn_1f, pkn_2f, pkn_3f, pkn_4f, pkn_5f, pkn_6f⟩ := kn.seven
            go_wp2_with fail
            clear pkn_0 pkn_1 pkn_2 pkn_3 pkn_4 pkn_5 pkn_6 pkn_0f pkn_1f pkn_2f pkn_3f pkn_4f pkn_5f pkn_6f
            generalize v3.alloc (.cells #[.int .i64 n0, .int .i64 n1, .int .i64 n2, .int .i64 n3, .int .i64 n4, .int .i64 n5, .int .i64 n6] 23) = u2 at *
            generalize v3.heap.size = g2 at *
            refine (HCN.out _).mono ?_
            rintro e v4 ⟨rfl, hC⟩
            dsimp only
            replace km := km.on hC; replace kb := kb.on hC; replace kn := kn.on hC; replace bc := bc.trans (hC.mono bc.size); clear hC
            obtain ⟨⟨pkm_0, pkm_1, pkm_2, pkm_3, pkm_4, pkm_5, pkm_6⟩, pkm_0f, pkm_1f, pkm_2f, pkm_3f, pkm_4f, pkm_5f, pkm_6f⟩ := km.seven
            go_wp2_with fail
            clear pkm_0 pkm_1 pkm_2 pkm_3 pkm_4 pkm_5 pkm_6 pkm_0f pkm_1f pkm_2f pkm_3f pkm_4f pkm_5f pkm_6f
            refine (HO.out _).mono ?_
            rintro e v5 ⟨rfl, hC⟩
            dsimp only
            replace km := km.on hC; replace kb := kb.on hC; replace kn := kn.on hC; replace bc := bc.trans (hC.mono bc.size); clear hC
            have z_ko_km := km.lt
            have z_ko_kb := kb.lt
            have z_ko_kn := kn.lt
            have zb_ko := bc.size
            have ko := Blk.new v5 23 #[.int .i64 o0, .int .i64 o1, .int .i64 o2, .int .i64 o3, .int .i64 o4, .int .i64 o5, .int .i64 o6]
            have al := Below.al v5 (.cells #[.int .i64 o0, .int .i64 o1, .int .i64 o2, .int .i64 o3, .int .i64 o4, .int .i64 o5, .int .i64 o6] 23)
            replace km := km.on al; replace kb := kb.on al; replace kn := kn.on al; replace bc := bc.trans (al.mono bc.size); clear al
            obtain ⟨⟨pkm_0, pkm_1, pkm_2, pkm_3, pkm_4, pkm_5, pkm_6⟩, pkm_0f, pkm_1f, pkm_2f, pkm_3f, pkm_4f, pkm_5f, pkm_6f⟩ := km.seven
            go_wp2_with fail
            clear pkm_0 pkm_1 pkm_2 pkm_3 pkm_4 pkm_5 pkm_6 pkm_0f pkm_1f pkm_2f pkm_3f pkm_4f pkm_5f pkm_6f
            generalize v5.alloc (.cells #[.int .i64 o0, .int .i64 o1, .int .i64 o2, .int .i64 o3, .int .i64 o4, .int .i64 o5, .int .i64 o6] 23) = u3 at *
            generalize v5.heap.size = g3 at *
            refine (HJ.out _).mono ?_
            rintro e v6 ⟨rfl, hC⟩
            dsimp only
            replace km := km.on hC; replace kb := kb.on hC; replace kn := kn.on hC; replace ko := ko.on hC; replace bc := bc.trans (hC.mono bc.size); clear hC
            have z_kj_km := km.lt
            have z_kj_kb := kb.lt
            have z_kj_kn := kn.lt
            have z_kj_ko := ko.lt
            have zb_kj := bc.size
            have kj := Blk.new v6 23 #[.int .i64 j0, .int .i64 j1, .int .i64 j2, .int .i64 j3, .int .i64 j4, .int .i64 j5, .int .i64 j6]
            have al := Below.al v6 (.cells #[.int .i64 j0, .int .i64 j1, .int .i64 j2, .int .i64 j3, .int .i64 j4, .int .i64 j5, .int .i64 j6] 23)
            replace km := km.on al; replace kb := kb.on al; replace kn := kn.on al; replace ko := ko.on al; replace bc := bc.trans (al.mono bc.size); clear al
            obtain ⟨⟨pkm_0, pkm_1, pkm_2, pkm_3, pkm_4, pkm_5, pkm_6⟩, pkm_0f, pkm_1f, pkm_2f, pkm_3f, pkm_4f, pkm_5f, pkm_6f⟩ := km.seven
            obtain ⟨⟨pko_0, pko_1, pko_2, pko_3, pko_4, pko_5, pko_6⟩, pko_0f, pko_1f, pko_2f, pko_3f, pko_4f, pko_5f, pko_6f⟩ := ko.seven
            go_wp2_with fail
            clear pkm_0 pkm_1 pkm_2 pkm_3 pkm_4 pkm_5 pkm_6 pkm_0f pkm_1f pkm_2f pkm_3f pkm_4f pkm_5f pkm_6f pko_0 pko_1 pko_2 pko_3 pko_4 pko_5 pko_6 pko_0f pko_1f pko_2f pko_3f pko_4f pko_5f pko_6f
            generalize v6.alloc (.cells #[.int .i64 j0, .int .i64 j1, .int .i64 j2, .int .i64 j3, .int .i64 j4, .int .i64 j5, .int .i64 j6] 23) = u4 at *
            generalize v6.heap.size = g4 at *
            refine (HCO.out _).mono ?_
            rintro e v7 ⟨rfl, hC⟩
            dsimp only
            replace km := km.on hC; replace kb := kb.on hC; replace kn := kn.on hC; replace ko := ko.on hC; replace kj := kj.on hC; replace bc := bc.trans (hC.mono bc.size); clear hC
            obtain ⟨⟨pkj_0, pkj_1, pkj_2, pkj_3, pkj_4, pkj_5, pkj_6⟩, pkj_0f, pkj_1f, pkj_2f, pkj_3f, pkj_4f, pkj_5f, pkj_6f⟩ := kj.seven
            go_wp2_with fail
            clear pkj_0 pkj_1 pkj_2 pkj_3 pkj_4 pkj_5 pkj_6 pkj_0f pkj_1f pkj_2f pkj_3f pkj_4f pkj_5f pkj_6f
            refine (HCJ.out _).mono ?_
            rintro e v8 ⟨rfl, hC⟩
            dsimp only
            replace km := km.on hC; replace kb := kb.on hC; replace kn := kn.on hC; replace ko := ko.on hC; replace kj := kj.on hC; replace bc := bc.trans (hC.mono bc.size); clear hC
            go_wp2
            go_ret
            exact ⟨rfl, bc⟩
          · have da : (ne == 0) = false := by simpa using ha
            clear HCB HCN
            obtain ⟨⟨pkm_0, pkm_1, pkm_2, pkm_3, pkm_4, pkm_5, pkm_6⟩, pkm_0f, pkm_1f, pkm_2f, pkm_3f, pkm_4f, pkm_5f, pkm_6f⟩ := km.seven
            go_wp2_with fail
            clear pkm_0 pkm_1 pkm_2 pkm_3 pkm_4 pkm_5 pkm_6 pkm_0f pkm_1f pkm_2f pkm_3f pkm_4f pkm_5f pkm_6f
            refine (HBA.out _).mono ?_
            rintro e v1 ⟨rfl, hC⟩
            dsimp only
            replace km := km.on hC; replace bc := bc.trans (hC.mono bc.size); clear hC
            have z_kb_km := km.lt
            have zb_kb := bc.size
            have kb := Blk.new v1 23 #[.int .i64 b0, .int .i64 b1, .int .i64 b2, .int .i64 b3, .int .i64 b4, .int .i64 b5, .int .i64 b6]
            have al := Below.al v1 (.cells #[.int .i64 b0, .int .i64 b1, .int .i64 b2, .int .i64 b3, .int .i64 b4, .int .i64 b5, .int .i64 b6] 23)
            replace km := km.on al; replace bc := bc.trans (al.mono bc.size); clear al
            obtain ⟨⟨pkm_0, pkm_1, pkm_2, pkm_3, pkm_4, pkm_5, pkm_6⟩, pkm_0f, pkm_1f, pkm_2f, pkm_3f, pkm_4f, pkm_5f, pkm_6f⟩ := km.seven
            go_wp2_with fail
            clear pkm_0 pkm_1 pkm_2 pkm_3 pkm_4 pkm_5 pkm_6 pkm_0f pkm_1f pkm_2f pkm_3f pkm_4f pkm_5f pkm_6f
            generalize v1.alloc (.cells #[.int .i64 b0, .int .i64 b1, .int .i64 b2, .int .i64 b3, .int .i64 b4, .int .i64 b5, .int .i64 b6] 23) = u1 at *
            generalize v1.heap.size = g1 at *
            refine (HN.out _).mono ?_
            rintro e v3 ⟨rfl, hC⟩
            dsimp only
            replace km := km.on hC; replace kb := kb.on hC; replace bc := bc.trans (hC.mono bc.size); clear hC
            have z_kn_km := km.lt
            have z_kn_kb := kb.lt
            have zb_kn := bc.size
            have kn := Blk.new v3 23 #[.int .i64 n0, .int .i64 n1, .int .i64 n2, .int .i64 n3, .int .i64 n4, .int .i64 n5, .int .i64 n6]
            have al := Below.al v3 (.cells #[.int .i64 n0, .int .i64 n1, .int .i64 n2, .int .i64 n3, .int .i64 n4, .int .i64 n5, .int .i64 n6] 23)
            replace km := km.on al; replace kb := kb.on al; replace bc := bc.trans (al.mono bc.size); clear al
            obtain ⟨⟨pkm_0, pkm_1, pkm_2, pkm_3, pkm_4, pkm_5, pkm_6⟩, pkm_0f, pkm_1f, pkm_2f, pkm_3f, pkm_4f, pkm_5f, pkm_6f⟩ := km.seven
            go_wp2_with fail
            clear pkm_0 pkm_1 pkm_2 pkm_3 pkm_4 pkm_5 pkm_6 pkm_0f pkm_1f pkm_2f pkm_3f pkm_4f pkm_5f pkm_6f
            generalize v3.alloc (.cells #[.int .i64 n0, .int .i64 n1, .int .i64 n2, .int .i64 n3, .int .i64 n4, .int .i64 n5, .int .i64 n6] 23) = u2 at *
            generalize v3.heap.size = g2 at *
            refine (HO.out _).mono ?_
            rintro e v5 ⟨rfl, hC⟩
            dsimp only
            replace km := km.on hC; replace kb := kb.on hC; replace kn := kn.on hC; replace bc := bc.trans (hC.mono bc.size); clear hC
            have z_ko_km := km.lt
            have z_ko_kb := kb.lt
            have z_ko_kn := kn.lt
            have zb_ko := bc.size
            have ko := Blk.new v5 23 #[.int .i64 o0, .int .i64 o1, .int .i64 o2, .int .i64 o3, .int .i64 o4, .int .i64 o5, .int .i64 o6]
            have al := Below.al v5 (.cells #[.int .i64 o0, .int .i64 o1, .int .i64 o2, .int .i64 o3, .int .i64 o4, .int .i64 o5, .int .i64 o6] 23)
            replace km := km.on al; replace kb := kb.on al; replace kn := kn.on al; replace bc := bc.trans (al.mono bc.size); clear al
            obtain ⟨⟨pkm_0, pkm_1, pkm_2, pkm_3, pkm_4, pkm_5, pkm_6⟩, pkm_0f, pkm_1f, pkm_2f, pkm_3f, pkm_4f, pkm_5f, pkm_6f⟩ := km.seven
            go_wp2_with fail
            clear pkm_0 pkm_1 pkm_2 pkm_3 pkm_4 pkm_5 pkm_6 pkm_0f pkm_1f pkm_2f pkm_3f pkm_4f pkm_5f pkm_6f
            generalize v5.alloc (.cells #[.int .i64 o0, .int .i64 o1, .int .i64 o2, .int .i64 o3, .int .i64 o4, .int .i64 o5, .int .i64 o6] 23) = u3 at *
            generalize v5.heap.size = g3 at *
            refine (HJ.out _).mono ?_
            rintro e v6 ⟨rfl, hC⟩
            dsimp only
            replace km := km.on hC; replace kb := kb.on hC; replace kn := kn.on hC; replace ko := ko.on hC; replace bc := bc.trans (hC.mono bc.size); clear hC
            have z_kj_km := km.lt
            have z_kj_kb := kb.lt
            have z_kj_kn := kn.lt
            have z_kj_ko := ko.lt
            have zb_kj := bc.size
            have kj := Blk.new v6 23 #[.int .i64 j0, .int .i64 j1, .int .i64 j2, .int .i64 j3, .int .i64 j4, .int .i64 j5, .int .i64 j6]
            have al := Below.al v6 (.cells #[.int .i64 j0, .int .i64 j1, .int .i64 j2, .int .i64 j3, .int .i64 j4, .int .i64 j5, .int .i64 j6] 23)
            replace km := km.on al; replace kb := kb.on al; replace kn := kn.on al; replace ko := ko.on al; replace bc := bc.trans (al.mono bc.size); clear al
            obtain ⟨⟨pkm_0, pkm_1, pkm_2, pkm_3, pkm_4, pkm_5, pkm_6⟩, pkm_0f, pkm_1f, pkm_2f, pkm_3f, pkm_4f, pkm_5f, pkm_6f⟩ := km.seven
            obtain ⟨⟨pko_0, pko_1, pko_2, pko_3, pko_4, pko_5, pko_6⟩, pko_0f, pko_1f, pko_2f, pko_3f, pko_4f, pko_5f, pko_6f⟩ := ko.seven
            go_wp2_with fail
            clear pkm_0 pkm_1 pkm_2 pkm_3 pkm_4 pkm_5 pkm_6 pkm_0f pkm_1f pkm_2f pkm_3f pkm_4f pkm_5f pkm_6f pko_0 pko_1 pko_2 pko_3 pko_4 pko_5 pko_6 pko_0f pko_1f pko_2f pko_3f pko_4f pko_5f pko_6f
            generalize v6.alloc (.cells #[.int .i64 j0, .int .i64 j1, .int .i64 j2, .int .i64 j3, .int .i64 j4, .int .i64 j5, .int .i64 j6] 23) = u4 at *
            generalize v6.heap.size = g4 at *
            refine (HCO.out _).mono ?_
            rintro e v7 ⟨rfl, hC⟩
            dsimp only
            replace km := km.on hC; replace kb := kb.on hC; replace kn := kn.on hC; replace ko := ko.on hC; replace kj := kj.on hC; replace bc := bc.trans (hC.mono bc.size); clear hC
            obtain ⟨⟨pkj_0, pkj_1, pkj_2, pkj_3, pkj_4, pkj_5, pkj_6⟩, pkj_0f, pkj_1f, pkj_2f, pkj_3f, pkj_4f, pkj_5f, pkj_6f⟩ := kj.seven
            go_wp2_with fail
            clear pkj_0 pkj_1 pkj_2 pkj_3 pkj_4 pkj_5 pkj_6 pkj_0f pkj_1f pkj_2f pkj_3f pkj_4f pkj_5f pkj_6f
            refine (HCJ.out _).mono ?_
            rintro e v8 ⟨rfl, hC⟩
            dsimp only
            replace km := km.on hC; replace kb := kb.on hC; replace kn := kn.on hC; replace ko := ko.on hC; replace kj := kj.on hC; replace bc := bc.trans (hC.mono bc.size); clear hC
            go_wp2
            go_ret
            exact ⟨rfl, bc⟩
  · rw [chkV_no hok] at hck
    clear hok
    obtain ⟨I, N, S, A, F, G, R⟩ := m
    unfold MV.cells at *
    dsimp only at *
    have HB := Lib.hid hb; have HC := Lib.hid hck; clear hb hck
    obtain ⟨km, bc⟩ := bx1 w #[.int .i64 I, .int .i64 N, .int .i64 S, .int .i64 A, .int .i64 F, .int .i64 G, .int .i64 R] 23
    go_enter Try.func6, Try.ntmps6
    go_wp2_with fail
    generalize w.alloc (.cells #[.int .i64 I, .int .i64 N, .int .i64 S, .int .i64 A, .int .i64 F, .int .i64 G, .int .i64 R] 23) = u1 at *
    refine (HB.out _).mono ?_
    rintro e w1 ⟨rfl, hC⟩
    dsimp only
    replace km := km.on hC; replace bc := bc.trans (hC.mono bc.size); clear hC
    obtain ⟨⟨pkm_0, pkm_1, pkm_2, pkm_3, pkm_4, pkm_5, pkm_6⟩, pkm_0f, pkm_1f, pkm_2f, pkm_3f, pkm_4f, pkm_5f, pkm_6f⟩ := km.seven
    go_wp2_with fail
    clear pkm_0 pkm_1 pkm_2 pkm_3 pkm_4 pkm_5 pkm_6 pkm_0f pkm_1f pkm_2f pkm_3f pkm_4f pkm_5f pkm_6f
    refine (HC.out _).mono ?_
    rintro e w2 ⟨rfl, hC⟩
    dsimp only
    replace km := km.on hC; replace bc := bc.trans (hC.mono bc.size); clear hC
    go_wp2_with fail
    refine (HB.out _).mono ?_
    rintro e w3 ⟨rfl, hC⟩
    dsimp only
    replace km := km.on hC; replace bc := bc.trans (hC.mono bc.size); clear hC
    go_wp2
    go_ret
    exact ⟨rfl, bc⟩
end Go.Proofs.Ytffbhdllepjdeaa
