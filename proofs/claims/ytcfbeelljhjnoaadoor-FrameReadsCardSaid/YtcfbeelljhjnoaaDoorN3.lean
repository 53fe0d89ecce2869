/-
  Check of package frame answers as the document says. No condition.
-/
import Derived.Test.YtcfbeelljhjnoaaDoorN1
namespace Go.Proofs.YtcfbeelljhjnoaaDoor
open Go.RowKit

theorem Blk.nine {w : World} {g : Nat} {t : TypeId} {a b c d e f i j k : Value} (h : Blk w g t #[a, b, c, d, e, f, i, j, k]) :
    w.cell? ⟨g, 0, none⟩ = some a ∧ w.cell? ⟨g, 1, none⟩ = some b ∧ w.cell? ⟨g, 2, none⟩ = some c ∧ w.cell? ⟨g, 3, none⟩ = some d ∧ w.cell? ⟨g, 4, none⟩ = some e ∧ w.cell? ⟨g, 5, none⟩ = some f ∧ w.cell? ⟨g, 6, none⟩ = some i ∧ w.cell? ⟨g, 7, none⟩ = some j ∧ w.cell? ⟨g, 8, none⟩ = some k :=
  ⟨by simpa using h.cell 0, by simpa using h.cell 1, by simpa using h.cell 2, by simpa using h.cell 3, by simpa using h.cell 4, by simpa using h.cell 5, by simpa using h.cell 6, by simpa using h.cell 7, by simpa using h.cell 8⟩
theorem checkC_yes {c : CS} (h : mayC c 8 = true) : checkC c 8 = 0 := by unfold checkC; rw [if_neg (by omega), if_pos h]
theorem checkC_no {c : CS} (h : ¬ mayC c 8 = true) : checkC c 8 = 40 := by unfold checkC; rw [if_neg (by omega), if_neg h]
theorem checkF_no {f : FR} (h : mayF f = true → False) : checkF f = 50 := if_neg h
theorem checkF_yes {f : FR} (h : mayF f = true) : checkF f = 0 := if_pos h
theorem mayF_iff (f : FR) : mayF f = true ↔ (1 ≤ f.K ∧ f.K ≤ 4 ∧ mayC f.C 8 = true ∧ 0 ≤ f.R ∧ f.R ≤ 4 ∧ f.ds.length ≤ 8 ∧ (f.ds.length = 0 ∨ f.K = 2 ∨ f.K = 4) ∧
    (f.K ≠ 1 ∨ (f.R = 0 ∧ 0 ≤ f.F ∧ f.F < 8 ∧ f.C.P = 0 ∧ f.C.Mo = 0 ∧ f.C.Nx = 0 ∧ f.C.Me = 0)) ∧ (f.K = 1 ∨ f.F = 0)) := by unfold mayF; rw [decide_eq_true_eq]

set_option maxRecDepth 8000 in
set_option maxHeartbeats 2000000 in
theorem check_1 (R T P Mo Nx Me F : Int) (ds : List UInt8) (A : Option Addr) (n c : Nat) (w : World) (hn : n = ds.length) : Calls Tryd.prog 11 #[.agg #[.int .i64 1, .int .i64 R, .int .i64 T, .int .i64 P, .int .i64 Mo, .int .i64 Nx, .int .i64 Me, .int .i64 F, .slice A n c]] w fun e w' => e = .returned (.int .i64 (checkF ⟨1, R, ⟨T, P, Mo, Nx, Me⟩, F, ds⟩)) ∧ Below w.heap.size w w' := by
  have hp := fun W => partsOf_1 W
  have hc := fun W => checkC_any ⟨T, P, Mo, Nx, Me⟩ 8 W
  have hi := fun W => isCold_any ⟨1, R, ⟨T, P, Mo, Nx, Me⟩, F, ds⟩ A n c W
  unfold CS.cells at hc
  unfold FR.cells at hi
  dsimp only at hc hi
  have HP := Lib.hid hp; clear hp
  have HI := Lib.hid hi; clear hi
  have kf := Blk.new w 26 #[.int .i64 1, .int .i64 R, .int .i64 T, .int .i64 P, .int .i64 Mo, .int .i64 Nx, .int .i64 Me, .int .i64 F, .slice A n c]
  have hB := Below.al w (.cells #[.int .i64 1, .int .i64 R, .int .i64 T, .int .i64 P, .int .i64 Mo, .int .i64 Nx, .int .i64 Me, .int .i64 F, .slice A n c] 26)
  obtain ⟨Z, hZ⟩ : ∃ Z, Z = checkF ⟨1, R, ⟨T, P, Mo, Nx, Me⟩, F, ds⟩ := ⟨_, rfl⟩
  rw [← hZ]
  have hiff := mayF_iff ⟨1, R, ⟨T, P, Mo, Nx, Me⟩, F, ds⟩
  dsimp only at hiff
  rw [← hn] at hiff
  have HF := Lib.hid hiff; have HN := Lib.hid hn; have HZ := Lib.hid hZ; clear hiff hn hZ
  by_cases hm : mayC ⟨T, P, Mo, Nx, Me⟩ 8 = true
  · rw [checkC_yes hm] at hc
    have HC := Lib.hid hc; clear hc
    by_cases c0 : R < 0
    · have d0 : decide (R < 0) = true := by simpa using c0
      have hz : Z = 50 := by rw [HZ.out]; exact checkF_no fun h => by have := HF.out.1 h; omega
      subst hz
      clear HZ HF HI hm
      go_enter Tryd.func11, Tryd.ntmps11
      go_wp2_with fail
      refine (HP.out _).mono ?_
      rintro e w1 ⟨rfl, hB1⟩
      dsimp only
      replace kf := kf.on hB1
      have k1 := Blk.new w1 51 #[.int .i64 11, .int .i64 3, .int .i64 0, .int .i64 24, .int .i64 0]
      have al := Below.al w1 (.cells #[.int .i64 11, .int .i64 3, .int .i64 0, .int .i64 24, .int .i64 0] 51)
      replace kf := kf.on al
      have b1 := (hB.trans (hB1.mono hB.size)).trans (al.mono (hB.trans (hB1.mono hB.size)).size)
      clear hB hB1 al HP
      obtain ⟨p0, p1, p2, p3, p4, p5, p6, p7, p8⟩ := kf.nine
      go_wp2_with fail
      generalize w1.alloc (.cells #[.int .i64 11, .int .i64 3, .int .i64 0, .int .i64 24, .int .i64 0] 51) = w2 at *
      generalize w1.heap.size = g at *
      clear p0 p1 p2 p3 p4 p5 p6 p7 p8
      refine (HC.out _).mono ?_
      rintro e w3 ⟨rfl, hB3⟩
      dsimp only
      replace kf := kf.on hB3; replace k1 := k1.on hB3
      replace b1 := b1.trans (hB3.mono b1.size)
      clear hB3 HC
      obtain ⟨p0, p1, p2, p3, p4, p5, p6, p7, p8⟩ := kf.nine
      obtain ⟨⟨q0, q1, q2, q3, q4⟩, -⟩ := k1.five
      go_wp2
      go_ret
      exact ⟨rfl, b1⟩
    · have d0 : decide (R < 0) = false := by simpa using c0
      by_cases c1 : 4 < R
      · have d1 : decide (4 < R) = true := by simpa using c1
        have hz : Z = 50 := by rw [HZ.out]; exact checkF_no fun h => by have := HF.out.1 h; omega
        subst hz
        clear HZ HF HI hm
        go_enter Tryd.func11, Tryd.ntmps11
        go_wp2_with fail
        refine (HP.out _).mono ?_
        rintro e w1 ⟨rfl, hB1⟩
        dsimp only
        replace kf := kf.on hB1
        have k1 := Blk.new w1 51 #[.int .i64 11, .int .i64 3, .int .i64 0, .int .i64 24, .int .i64 0]
        have al := Below.al w1 (.cells #[.int .i64 11, .int .i64 3, .int .i64 0, .int .i64 24, .int .i64 0] 51)
        replace kf := kf.on al
        have b1 := (hB.trans (hB1.mono hB.size)).trans (al.mono (hB.trans (hB1.mono hB.size)).size)
        clear hB hB1 al HP
        obtain ⟨p0, p1, p2, p3, p4, p5, p6, p7, p8⟩ := kf.nine
        go_wp2_with fail
        generalize w1.alloc (.cells #[.int .i64 11, .int .i64 3, .int .i64 0, .int .i64 24, .int .i64 0] 51) = w2 at *
        generalize w1.heap.size = g at *
        clear p0 p1 p2 p3 p4 p5 p6 p7 p8
        refine (HC.out _).mono ?_
        rintro e w3 ⟨rfl, hB3⟩
        dsimp only
        replace kf := kf.on hB3; replace k1 := k1.on hB3
        replace b1 := b1.trans (hB3.mono b1.size)
        clear hB3 HC
        obtain ⟨p0, p1, p2, p3, p4, p5, p6, p7, p8⟩ := kf.nine
        obtain ⟨⟨q0, q1, q2, q3, q4⟩, -⟩ := k1.five
        go_wp2
        go_ret
        exact ⟨rfl, b1⟩
      · have d1 : decide (4 < R) = false := by simpa using c1
        by_cases c2 : 0 < n
        · have d2 : decide ((0 : Int) < (n : Int)) = true := by simp; omega
          have d2' : decide (0 < n) = true := by simp; omega
          have hz : Z = 50 := by rw [HZ.out]; exact checkF_no fun h => by have := HF.out.1 h; omega
          subst hz
          clear HZ HF HI hm
          go_enter Tryd.func11, Tryd.ntmps11
          go_wp2_with fail
          refine (HP.out _).mono ?_
          rintro e w1 ⟨rfl, hB1⟩
          dsimp only
          replace kf := kf.on hB1
          have k1 := Blk.new w1 51 #[.int .i64 11, .int .i64 3, .int .i64 0, .int .i64 24, .int .i64 0]
          have al := Below.al w1 (.cells #[.int .i64 11, .int .i64 3, .int .i64 0, .int .i64 24, .int .i64 0] 51)
          replace kf := kf.on al
          have b1 := (hB.trans (hB1.mono hB.size)).trans (al.mono (hB.trans (hB1.mono hB.size)).size)
          clear hB hB1 al HP
          obtain ⟨p0, p1, p2, p3, p4, p5, p6, p7, p8⟩ := kf.nine
          go_wp2_with fail
          generalize w1.alloc (.cells #[.int .i64 11, .int .i64 3, .int .i64 0, .int .i64 24, .int .i64 0] 51) = w2 at *
          generalize w1.heap.size = g at *
          clear p0 p1 p2 p3 p4 p5 p6 p7 p8
          refine (HC.out _).mono ?_
          rintro e w3 ⟨rfl, hB3⟩
          dsimp only
          replace kf := kf.on hB3; replace k1 := k1.on hB3
          replace b1 := b1.trans (hB3.mono b1.size)
          clear hB3 HC
          obtain ⟨p0, p1, p2, p3, p4, p5, p6, p7, p8⟩ := kf.nine
          obtain ⟨⟨q0, q1, q2, q3, q4⟩, -⟩ := k1.five
          go_wp2
          go_ret
          exact ⟨rfl, b1⟩
        · have d2 : decide ((0 : Int) < (n : Int)) = false := by simp; omega
          have d2' : decide (0 < n) = false := by simp; omega
          by_cases c3 : coldF ⟨1, R, ⟨T, P, Mo, Nx, Me⟩, F, ds⟩ = true
          · have hz : Z = 0 := by rw [HZ.out]; exact checkF_yes (HF.out.2 (by unfold coldF at c3; rw [decide_eq_true_eq] at c3; dsimp only at c3; refine ⟨by omega, by omega, hm, ?_⟩; omega))
            rw [c3] at HI
            subst hz
            clear HZ HF hm c3
            go_enter Tryd.func11, Tryd.ntmps11
            go_wp2_with fail
            refine (HP.out _).mono ?_
            rintro e w1 ⟨rfl, hB1⟩
            dsimp only
            replace kf := kf.on hB1
            have k1 := Blk.new w1 51 #[.int .i64 11, .int .i64 3, .int .i64 0, .int .i64 24, .int .i64 0]
            have al := Below.al w1 (.cells #[.int .i64 11, .int .i64 3, .int .i64 0, .int .i64 24, .int .i64 0] 51)
            replace kf := kf.on al
            have b1 := (hB.trans (hB1.mono hB.size)).trans (al.mono (hB.trans (hB1.mono hB.size)).size)
            clear hB hB1 al HP
            obtain ⟨p0, p1, p2, p3, p4, p5, p6, p7, p8⟩ := kf.nine
            go_wp2_with fail
            generalize w1.alloc (.cells #[.int .i64 11, .int .i64 3, .int .i64 0, .int .i64 24, .int .i64 0] 51) = w2 at *
            generalize w1.heap.size = g at *
            clear p0 p1 p2 p3 p4 p5 p6 p7 p8
            refine (HC.out _).mono ?_
            rintro e w3 ⟨rfl, hB3⟩
            dsimp only
            replace kf := kf.on hB3; replace k1 := k1.on hB3
            replace b1 := b1.trans (hB3.mono b1.size)
            clear hB3 HC
            obtain ⟨p0, p1, p2, p3, p4, p5, p6, p7, p8⟩ := kf.nine
            obtain ⟨⟨q0, q1, q2, q3, q4⟩, -⟩ := k1.five
            go_wp2_with fail
            refine (HI.out _).mono ?_
            rintro e w4 ⟨rfl, hB4⟩
            dsimp only
            replace kf := kf.on hB4
            replace b1 := b1.trans (hB4.mono b1.size)
            clear hB4 HI p0 p1 p2 p3 p4 p5 p6 p7 p8
            obtain ⟨p0, p1, p2, p3, p4, p5, p6, p7, p8⟩ := kf.nine
            go_wp2
            go_ret
            exact ⟨rfl, b1⟩
          · have hz : Z = 50 := by rw [HZ.out]; exact checkF_no fun h => by have h := HF.out.1 h; apply c3; unfold coldF; rw [decide_eq_true_eq]; dsimp only; omega
            have c3' : coldF ⟨1, R, ⟨T, P, Mo, Nx, Me⟩, F, ds⟩ = false := by simpa using c3
            rw [c3'] at HI
            subst hz
            clear HZ HF hm c3 c3'
            go_enter Tryd.func11, Tryd.ntmps11
            go_wp2_with fail
            refine (HP.out _).mono ?_
            rintro e w1 ⟨rfl, hB1⟩
            dsimp only
            replace kf := kf.on hB1
            have k1 := Blk.new w1 51 #[.int .i64 11, .int .i64 3, .int .i64 0, .int .i64 24, .int .i64 0]
            have al := Below.al w1 (.cells #[.int .i64 11, .int .i64 3, .int .i64 0, .int .i64 24, .int .i64 0] 51)
            replace kf := kf.on al
            have b1 := (hB.trans (hB1.mono hB.size)).trans (al.mono (hB.trans (hB1.mono hB.size)).size)
            clear hB hB1 al HP
            obtain ⟨p0, p1, p2, p3, p4, p5, p6, p7, p8⟩ := kf.nine
            go_wp2_with fail
            generalize w1.alloc (.cells #[.int .i64 11, .int .i64 3, .int .i64 0, .int .i64 24, .int .i64 0] 51) = w2 at *
            generalize w1.heap.size = g at *
            clear p0 p1 p2 p3 p4 p5 p6 p7 p8
            refine (HC.out _).mono ?_
            rintro e w3 ⟨rfl, hB3⟩
            dsimp only
            replace kf := kf.on hB3; replace k1 := k1.on hB3
            replace b1 := b1.trans (hB3.mono b1.size)
            clear hB3 HC
            obtain ⟨p0, p1, p2, p3, p4, p5, p6, p7, p8⟩ := kf.nine
            obtain ⟨⟨q0, q1, q2, q3, q4⟩, -⟩ := k1.five
            go_wp2_with fail
            refine (HI.out _).mono ?_
            rintro e w4 ⟨rfl, hB4⟩
            dsimp only
            replace kf := kf.on hB4
            replace b1 := b1.trans (hB4.mono b1.size)
            clear hB4 HI p0 p1 p2 p3 p4 p5 p6 p7 p8
            obtain ⟨p0, p1, p2, p3, p4, p5, p6, p7, p8⟩ := kf.nine
            go_wp2
            go_ret
            exact ⟨rfl, b1⟩
  · rw [checkC_no hm] at hc
    have HC := Lib.hid hc; clear hc
    have hz : Z = 50 := by rw [HZ.out]; exact checkF_no fun h => hm (HF.out.1 h).2.2.1
    subst hz
    clear HZ HF HI hm
    go_enter Tryd.func11, Tryd.ntmps11
    go_wp2_with fail
    refine (HP.out _).mono ?_
    rintro e w1 ⟨rfl, hB1⟩
    dsimp only
    replace kf := kf.on hB1
    have k1 := Blk.new w1 51 #[.int .i64 11, .int .i64 3, .int .i64 0, .int .i64 24, .int .i64 0]
    have al := Below.al w1 (.cells #[.int .i64 11, .int .i64 3, .int .i64 0, .int .i64 24, .int .i64 0] 51)
    replace kf := kf.on al
    have b1 := (hB.trans (hB1.mono hB.size)).trans (al.mono (hB.trans (hB1.mono hB.size)).size)
    clear hB hB1 al HP
    obtain ⟨p0, p1, p2, p3, p4, p5, p6, p7, p8⟩ := kf.nine
    go_wp2_with fail
    generalize w1.alloc (.cells #[.int .i64 11, .int .i64 3, .int .i64 0, .int .i64 24, .int .i64 0] 51) = w2 at *
    generalize w1.heap.size = g at *
    clear p0 p1 p2 p3 p4 p5 p6 p7 p8
    refine (HC.out _).mono ?_
    rintro e w3 ⟨rfl, hB3⟩
    dsimp only
    replace kf := kf.on hB3; replace k1 := k1.on hB3
    replace b1 := b1.trans (hB3.mono b1.size)
    clear hB3 HC
    obtain ⟨p0, p1, p2, p3, p4, p5, p6, p7, p8⟩ := kf.nine
    obtain ⟨⟨q0, q1, q2, q3, q4⟩, -⟩ := k1.five
    go_wp2
    go_ret
    exact ⟨rfl, b1⟩
set_option maxRecDepth 8000 in
set_option maxHeartbeats 2000000 in
theorem check_2 (R T P Mo Nx Me F : Int) (ds : List UInt8) (A : Option Addr) (n c : Nat) (w : World) (hn : n = ds.length) : Calls Tryd.prog 11 #[.agg #[.int .i64 2, .int .i64 R, .int .i64 T, .int .i64 P, .int .i64 Mo, .int .i64 Nx, .int .i64 Me, .int .i64 F, .slice A n c]] w fun e w' => e = .returned (.int .i64 (checkF ⟨2, R, ⟨T, P, Mo, Nx, Me⟩, F, ds⟩)) ∧ Below w.heap.size w w' := by
  have hp := fun W => partsOf_2 W
  have hc := fun W => checkC_any ⟨T, P, Mo, Nx, Me⟩ 8 W
  have hi := fun W => isCold_any ⟨2, R, ⟨T, P, Mo, Nx, Me⟩, F, ds⟩ A n c W
  unfold CS.cells at hc
  unfold FR.cells at hi
  dsimp only at hc hi
  have HP := Lib.hid hp; clear hp
  have HI := Lib.hid hi; clear hi
  have kf := Blk.new w 26 #[.int .i64 2, .int .i64 R, .int .i64 T, .int .i64 P, .int .i64 Mo, .int .i64 Nx, .int .i64 Me, .int .i64 F, .slice A n c]
  have hB := Below.al w (.cells #[.int .i64 2, .int .i64 R, .int .i64 T, .int .i64 P, .int .i64 Mo, .int .i64 Nx, .int .i64 Me, .int .i64 F, .slice A n c] 26)
  obtain ⟨Z, hZ⟩ : ∃ Z, Z = checkF ⟨2, R, ⟨T, P, Mo, Nx, Me⟩, F, ds⟩ := ⟨_, rfl⟩
  rw [← hZ]
  have hiff := mayF_iff ⟨2, R, ⟨T, P, Mo, Nx, Me⟩, F, ds⟩
  dsimp only at hiff
  rw [← hn] at hiff
  have HF := Lib.hid hiff; have HN := Lib.hid hn; have HZ := Lib.hid hZ; clear hiff hn hZ
  by_cases hm : mayC ⟨T, P, Mo, Nx, Me⟩ 8 = true
  · rw [checkC_yes hm] at hc
    have HC := Lib.hid hc; clear hc
    by_cases c0 : R < 0
    · have d0 : decide (R < 0) = true := by simpa using c0
      have hz : Z = 50 := by rw [HZ.out]; exact checkF_no fun h => by have := HF.out.1 h; omega
      subst hz
      clear HZ HF HI hm
      go_enter Tryd.func11, Tryd.ntmps11
      go_wp2_with fail
      refine (HP.out _).mono ?_
      rintro e w1 ⟨rfl, hB1⟩
      dsimp only
      replace kf := kf.on hB1
      have k1 := Blk.new w1 51 #[.int .i64 3, .int .i64 0, .int .i64 0, .int .i64 0, .int .i64 8]
      have al := Below.al w1 (.cells #[.int .i64 3, .int .i64 0, .int .i64 0, .int .i64 0, .int .i64 8] 51)
      replace kf := kf.on al
      have b1 := (hB.trans (hB1.mono hB.size)).trans (al.mono (hB.trans (hB1.mono hB.size)).size)
      clear hB hB1 al HP
      obtain ⟨p0, p1, p2, p3, p4, p5, p6, p7, p8⟩ := kf.nine
      go_wp2_with fail
      generalize w1.alloc (.cells #[.int .i64 3, .int .i64 0, .int .i64 0, .int .i64 0, .int .i64 8] 51) = w2 at *
      generalize w1.heap.size = g at *
      clear p0 p1 p2 p3 p4 p5 p6 p7 p8
      refine (HC.out _).mono ?_
      rintro e w3 ⟨rfl, hB3⟩
      dsimp only
      replace kf := kf.on hB3; replace k1 := k1.on hB3
      replace b1 := b1.trans (hB3.mono b1.size)
      clear hB3 HC
      obtain ⟨p0, p1, p2, p3, p4, p5, p6, p7, p8⟩ := kf.nine
      obtain ⟨⟨q0, q1, q2, q3, q4⟩, -⟩ := k1.five
      go_wp2
      go_ret
      exact ⟨rfl, b1⟩
    · have d0 : decide (R < 0) = false := by simpa using c0
      by_cases c1 : 4 < R
      · have d1 : decide (4 < R) = true := by simpa using c1
        have hz : Z = 50 := by rw [HZ.out]; exact checkF_no fun h => by have := HF.out.1 h; omega
        subst hz
        clear HZ HF HI hm
        go_enter Tryd.func11, Tryd.ntmps11
        go_wp2_with fail
        refine (HP.out _).mono ?_
        rintro e w1 ⟨rfl, hB1⟩
        dsimp only
        replace kf := kf.on hB1
        have k1 := Blk.new w1 51 #[.int .i64 3, .int .i64 0, .int .i64 0, .int .i64 0, .int .i64 8]
        have al := Below.al w1 (.cells #[.int .i64 3, .int .i64 0, .int .i64 0, .int .i64 0, .int .i64 8] 51)
        replace kf := kf.on al
        have b1 := (hB.trans (hB1.mono hB.size)).trans (al.mono (hB.trans (hB1.mono hB.size)).size)
        clear hB hB1 al HP
        obtain ⟨p0, p1, p2, p3, p4, p5, p6, p7, p8⟩ := kf.nine
        go_wp2_with fail
        generalize w1.alloc (.cells #[.int .i64 3, .int .i64 0, .int .i64 0, .int .i64 0, .int .i64 8] 51) = w2 at *
        generalize w1.heap.size = g at *
        clear p0 p1 p2 p3 p4 p5 p6 p7 p8
        refine (HC.out _).mono ?_
        rintro e w3 ⟨rfl, hB3⟩
        dsimp only
        replace kf := kf.on hB3; replace k1 := k1.on hB3
        replace b1 := b1.trans (hB3.mono b1.size)
        clear hB3 HC
        obtain ⟨p0, p1, p2, p3, p4, p5, p6, p7, p8⟩ := kf.nine
        obtain ⟨⟨q0, q1, q2, q3, q4⟩, -⟩ := k1.five
        go_wp2
        go_ret
        exact ⟨rfl, b1⟩
      · have d1 : decide (4 < R) = false := by simpa using c1
        by_cases c2 : 8 < n
        · have d2 : decide ((8 : Int) < (n : Int)) = true := by simp; omega
          have d2' : decide (8 < n) = true := by simp; omega
          have hz : Z = 50 := by rw [HZ.out]; exact checkF_no fun h => by have := HF.out.1 h; omega
          subst hz
          clear HZ HF HI hm
          go_enter Tryd.func11, Tryd.ntmps11
          go_wp2_with fail
          refine (HP.out _).mono ?_
          rintro e w1 ⟨rfl, hB1⟩
          dsimp only
          replace kf := kf.on hB1
          have k1 := Blk.new w1 51 #[.int .i64 3, .int .i64 0, .int .i64 0, .int .i64 0, .int .i64 8]
          have al := Below.al w1 (.cells #[.int .i64 3, .int .i64 0, .int .i64 0, .int .i64 0, .int .i64 8] 51)
          replace kf := kf.on al
          have b1 := (hB.trans (hB1.mono hB.size)).trans (al.mono (hB.trans (hB1.mono hB.size)).size)
          clear hB hB1 al HP
          obtain ⟨p0, p1, p2, p3, p4, p5, p6, p7, p8⟩ := kf.nine
          go_wp2_with fail
          generalize w1.alloc (.cells #[.int .i64 3, .int .i64 0, .int .i64 0, .int .i64 0, .int .i64 8] 51) = w2 at *
          generalize w1.heap.size = g at *
          clear p0 p1 p2 p3 p4 p5 p6 p7 p8
          refine (HC.out _).mono ?_
          rintro e w3 ⟨rfl, hB3⟩
          dsimp only
          replace kf := kf.on hB3; replace k1 := k1.on hB3
          replace b1 := b1.trans (hB3.mono b1.size)
          clear hB3 HC
          obtain ⟨p0, p1, p2, p3, p4, p5, p6, p7, p8⟩ := kf.nine
          obtain ⟨⟨q0, q1, q2, q3, q4⟩, -⟩ := k1.five
          go_wp2
          go_ret
          exact ⟨rfl, b1⟩
        · have d2 : decide ((8 : Int) < (n : Int)) = false := by simp; omega
          have d2' : decide (8 < n) = false := by simp; omega
          by_cases c3 : F = 0
          · subst c3
            have hz : Z = 0 := by rw [HZ.out]; exact checkF_yes (HF.out.2 (by refine ⟨by omega, by omega, hm, ?_⟩; omega))
            subst hz
            clear HZ HF HI hm
            go_enter Tryd.func11, Tryd.ntmps11
            go_wp2_with fail
            refine (HP.out _).mono ?_
            rintro e w1 ⟨rfl, hB1⟩
            dsimp only
            replace kf := kf.on hB1
            have k1 := Blk.new w1 51 #[.int .i64 3, .int .i64 0, .int .i64 0, .int .i64 0, .int .i64 8]
            have al := Below.al w1 (.cells #[.int .i64 3, .int .i64 0, .int .i64 0, .int .i64 0, .int .i64 8] 51)
            replace kf := kf.on al
            have b1 := (hB.trans (hB1.mono hB.size)).trans (al.mono (hB.trans (hB1.mono hB.size)).size)
            clear hB hB1 al HP
            obtain ⟨p0, p1, p2, p3, p4, p5, p6, p7, p8⟩ := kf.nine
            go_wp2_with fail
            generalize w1.alloc (.cells #[.int .i64 3, .int .i64 0, .int .i64 0, .int .i64 0, .int .i64 8] 51) = w2 at *
            generalize w1.heap.size = g at *
            clear p0 p1 p2 p3 p4 p5 p6 p7 p8
            refine (HC.out _).mono ?_
            rintro e w3 ⟨rfl, hB3⟩
            dsimp only
            replace kf := kf.on hB3; replace k1 := k1.on hB3
            replace b1 := b1.trans (hB3.mono b1.size)
            clear hB3 HC
            obtain ⟨p0, p1, p2, p3, p4, p5, p6, p7, p8⟩ := kf.nine
            obtain ⟨⟨q0, q1, q2, q3, q4⟩, -⟩ := k1.five
            go_wp2
            go_ret
            exact ⟨rfl, b1⟩
          · have hz : Z = 50 := by rw [HZ.out]; exact checkF_no fun h => by have := HF.out.1 h; omega
            have d3 : (F == 0) = false := by simpa using c3
            subst hz
            clear HZ HF HI hm
            go_enter Tryd.func11, Tryd.ntmps11
            go_wp2_with fail
            refine (HP.out _).mono ?_
            rintro e w1 ⟨rfl, hB1⟩
            dsimp only
            replace kf := kf.on hB1
            have k1 := Blk.new w1 51 #[.int .i64 3, .int .i64 0, .int .i64 0, .int .i64 0, .int .i64 8]
            have al := Below.al w1 (.cells #[.int .i64 3, .int .i64 0, .int .i64 0, .int .i64 0, .int .i64 8] 51)
            replace kf := kf.on al
            have b1 := (hB.trans (hB1.mono hB.size)).trans (al.mono (hB.trans (hB1.mono hB.size)).size)
            clear hB hB1 al HP
            obtain ⟨p0, p1, p2, p3, p4, p5, p6, p7, p8⟩ := kf.nine
            go_wp2_with fail
            generalize w1.alloc (.cells #[.int .i64 3, .int .i64 0, .int .i64 0, .int .i64 0, .int .i64 8] 51) = w2 at *
            generalize w1.heap.size = g at *
            clear p0 p1 p2 p3 p4 p5 p6 p7 p8
            refine (HC.out _).mono ?_
            rintro e w3 ⟨rfl, hB3⟩
            dsimp only
            replace kf := kf.on hB3; replace k1 := k1.on hB3
            replace b1 := b1.trans (hB3.mono b1.size)
            clear hB3 HC
            obtain ⟨p0, p1, p2, p3, p4, p5, p6, p7, p8⟩ := kf.nine
            obtain ⟨⟨q0, q1, q2, q3, q4⟩, -⟩ := k1.five
            go_wp2
            go_ret
            exact ⟨rfl, b1⟩
  · rw [checkC_no hm] at hc
    have HC := Lib.hid hc; clear hc
    have hz : Z = 50 := by rw [HZ.out]; exact checkF_no fun h => hm (HF.out.1 h).2.2.1
    subst hz
    clear HZ HF HI hm
    go_enter Tryd.func11, Tryd.ntmps11
    go_wp2_with fail
    refine (HP.out _).mono ?_
    rintro e w1 ⟨rfl, hB1⟩
    dsimp only
    replace kf := kf.on hB1
    have k1 := Blk.new w1 51 #[.int .i64 3, .int .i64 0, .int .i64 0, .int .i64 0, .int .i64 8]
    have al := Below.al w1 (.cells #[.int .i64 3, .int .i64 0, .int .i64 0, .int .i64 0, .int .i64 8] 51)
    replace kf := kf.on al
    have b1 := (hB.trans (hB1.mono hB.size)).trans (al.mono (hB.trans (hB1.mono hB.size)).size)
    clear hB hB1 al HP
    obtain ⟨p0, p1, p2, p3, p4, p5, p6, p7, p8⟩ := kf.nine
    go_wp2_with fail
    generalize w1.alloc (.cells #[.int .i64 3, .int .i64 0, .int .i64 0, .int .i64 0, .int .i64 8] 51) = w2 at *
    generalize w1.heap.size = g at *
    clear p0 p1 p2 p3 p4 p5 p6 p7 p8
    refine (HC.out _).mono ?_
    rintro e w3 ⟨rfl, hB3⟩
    dsimp only
    replace kf := kf.on hB3; replace k1 := k1.on hB3
    replace b1 := b1.trans (hB3.mono b1.size)
    clear hB3 HC
    obtain ⟨p0, p1, p2, p3, p4, p5, p6, p7, p8⟩ := kf.nine
    obtain ⟨⟨q0, q1, q2, q3, q4⟩, -⟩ := k1.five
    go_wp2
    go_ret
    exact ⟨rfl, b1⟩
set_option maxRecDepth 8000 in
set_option maxHeartbeats 2000000 in
theorem check_3 (R T P Mo Nx Me F : Int) (ds : List UInt8) (A : Option Addr) (n c : Nat) (w : World) (hn : n = ds.length) : Calls Tryd.prog 11 #[.agg #[.int .i64 3, .int .i64 R, .int .i64 T, .int .i64 P, .int .i64 Mo, .int .i64 Nx, .int .i64 Me, .int .i64 F, .slice A n c]] w fun e w' => e = .returned (.int .i64 (checkF ⟨3, R, ⟨T, P, Mo, Nx, Me⟩, F, ds⟩)) ∧ Below w.heap.size w w' := by
  have hp := fun W => partsOf_3 W
  have hc := fun W => checkC_any ⟨T, P, Mo, Nx, Me⟩ 8 W
  have hi := fun W => isCold_any ⟨3, R, ⟨T, P, Mo, Nx, Me⟩, F, ds⟩ A n c W
  unfold CS.cells at hc
  unfold FR.cells at hi
  dsimp only at hc hi
  have HP := Lib.hid hp; clear hp
  have HI := Lib.hid hi; clear hi
  have kf := Blk.new w 26 #[.int .i64 3, .int .i64 R, .int .i64 T, .int .i64 P, .int .i64 Mo, .int .i64 Nx, .int .i64 Me, .int .i64 F, .slice A n c]
  have hB := Below.al w (.cells #[.int .i64 3, .int .i64 R, .int .i64 T, .int .i64 P, .int .i64 Mo, .int .i64 Nx, .int .i64 Me, .int .i64 F, .slice A n c] 26)
  obtain ⟨Z, hZ⟩ : ∃ Z, Z = checkF ⟨3, R, ⟨T, P, Mo, Nx, Me⟩, F, ds⟩ := ⟨_, rfl⟩
  rw [← hZ]
  have hiff := mayF_iff ⟨3, R, ⟨T, P, Mo, Nx, Me⟩, F, ds⟩
  dsimp only at hiff
  rw [← hn] at hiff
  have HF := Lib.hid hiff; have HN := Lib.hid hn; have HZ := Lib.hid hZ; clear hiff hn hZ
  by_cases hm : mayC ⟨T, P, Mo, Nx, Me⟩ 8 = true
  · rw [checkC_yes hm] at hc
    have HC := Lib.hid hc; clear hc
    by_cases c0 : R < 0
    · have d0 : decide (R < 0) = true := by simpa using c0
      have hz : Z = 50 := by rw [HZ.out]; exact checkF_no fun h => by have := HF.out.1 h; omega
      subst hz
      clear HZ HF HI hm
      go_enter Tryd.func11, Tryd.ntmps11
      go_wp2_with fail
      refine (HP.out _).mono ?_
      rintro e w1 ⟨rfl, hB1⟩
      dsimp only
      replace kf := kf.on hB1
      have k1 := Blk.new w1 51 #[.int .i64 3, .int .i64 1, .int .i64 24, .int .i64 24, .int .i64 0]
      have al := Below.al w1 (.cells #[.int .i64 3, .int .i64 1, .int .i64 24, .int .i64 24, .int .i64 0] 51)
      replace kf := kf.on al
      have b1 := (hB.trans (hB1.mono hB.size)).trans (al.mono (hB.trans (hB1.mono hB.size)).size)
      clear hB hB1 al HP
      obtain ⟨p0, p1, p2, p3, p4, p5, p6, p7, p8⟩ := kf.nine
      go_wp2_with fail
      generalize w1.alloc (.cells #[.int .i64 3, .int .i64 1, .int .i64 24, .int .i64 24, .int .i64 0] 51) = w2 at *
      generalize w1.heap.size = g at *
      clear p0 p1 p2 p3 p4 p5 p6 p7 p8
      refine (HC.out _).mono ?_
      rintro e w3 ⟨rfl, hB3⟩
      dsimp only
      replace kf := kf.on hB3; replace k1 := k1.on hB3
      replace b1 := b1.trans (hB3.mono b1.size)
      clear hB3 HC
      obtain ⟨p0, p1, p2, p3, p4, p5, p6, p7, p8⟩ := kf.nine
      obtain ⟨⟨q0, q1, q2, q3, q4⟩, -⟩ := k1.five
      go_wp2
      go_ret
      exact ⟨rfl, b1⟩
    · have d0 : decide (R < 0) = false := by simpa using c0
      by_cases c1 : 4 < R
      · have d1 : decide (4 < R) = true := by simpa using c1
        have hz : Z = 50 := by rw [HZ.out]; exact checkF_no fun h => by have := HF.out.1 h; omega
        subst hz
        clear HZ HF HI hm
        go_enter Tryd.func11, Tryd.ntmps11
        go_wp2_with fail
        refine (HP.out _).mono ?_
        rintro e w1 ⟨rfl, hB1⟩
        dsimp only
        replace kf := kf.on hB1
        have k1 := Blk.new w1 51 #[.int .i64 3, .int .i64 1, .int .i64 24, .int .i64 24, .int .i64 0]
        have al := Below.al w1 (.cells #[.int .i64 3, .int .i64 1, .int .i64 24, .int .i64 24, .int .i64 0] 51)
        replace kf := kf.on al
        have b1 := (hB.trans (hB1.mono hB.size)).trans (al.mono (hB.trans (hB1.mono hB.size)).size)
        clear hB hB1 al HP
        obtain ⟨p0, p1, p2, p3, p4, p5, p6, p7, p8⟩ := kf.nine
        go_wp2_with fail
        generalize w1.alloc (.cells #[.int .i64 3, .int .i64 1, .int .i64 24, .int .i64 24, .int .i64 0] 51) = w2 at *
        generalize w1.heap.size = g at *
        clear p0 p1 p2 p3 p4 p5 p6 p7 p8
        refine (HC.out _).mono ?_
        rintro e w3 ⟨rfl, hB3⟩
        dsimp only
        replace kf := kf.on hB3; replace k1 := k1.on hB3
        replace b1 := b1.trans (hB3.mono b1.size)
        clear hB3 HC
        obtain ⟨p0, p1, p2, p3, p4, p5, p6, p7, p8⟩ := kf.nine
        obtain ⟨⟨q0, q1, q2, q3, q4⟩, -⟩ := k1.five
        go_wp2
        go_ret
        exact ⟨rfl, b1⟩
      · have d1 : decide (4 < R) = false := by simpa using c1
        by_cases c2 : 0 < n
        · have d2 : decide ((0 : Int) < (n : Int)) = true := by simp; omega
          have d2' : decide (0 < n) = true := by simp; omega
          have hz : Z = 50 := by rw [HZ.out]; exact checkF_no fun h => by have := HF.out.1 h; omega
          subst hz
          clear HZ HF HI hm
          go_enter Tryd.func11, Tryd.ntmps11
          go_wp2_with fail
          refine (HP.out _).mono ?_
          rintro e w1 ⟨rfl, hB1⟩
          dsimp only
          replace kf := kf.on hB1
          have k1 := Blk.new w1 51 #[.int .i64 3, .int .i64 1, .int .i64 24, .int .i64 24, .int .i64 0]
          have al := Below.al w1 (.cells #[.int .i64 3, .int .i64 1, .int .i64 24, .int .i64 24, .int .i64 0] 51)
          replace kf := kf.on al
          have b1 := (hB.trans (hB1.mono hB.size)).trans (al.mono (hB.trans (hB1.mono hB.size)).size)
          clear hB hB1 al HP
          obtain ⟨p0, p1, p2, p3, p4, p5, p6, p7, p8⟩ := kf.nine
          go_wp2_with fail
          generalize w1.alloc (.cells #[.int .i64 3, .int .i64 1, .int .i64 24, .int .i64 24, .int .i64 0] 51) = w2 at *
          generalize w1.heap.size = g at *
          clear p0 p1 p2 p3 p4 p5 p6 p7 p8
          refine (HC.out _).mono ?_
          rintro e w3 ⟨rfl, hB3⟩
          dsimp only
          replace kf := kf.on hB3; replace k1 := k1.on hB3
          replace b1 := b1.trans (hB3.mono b1.size)
          clear hB3 HC
          obtain ⟨p0, p1, p2, p3, p4, p5, p6, p7, p8⟩ := kf.nine
          obtain ⟨⟨q0, q1, q2, q3, q4⟩, -⟩ := k1.five
          go_wp2
          go_ret
          exact ⟨rfl, b1⟩
        · have d2 : decide ((0 : Int) < (n : Int)) = false := by simp; omega
          have d2' : decide (0 < n) = false := by simp; omega
          by_cases c3 : F = 0
          · subst c3
            have hz : Z = 0 := by rw [HZ.out]; exact checkF_yes (HF.out.2 (by refine ⟨by omega, by omega, hm, ?_⟩; omega))
            subst hz
            clear HZ HF HI hm
            go_enter Tryd.func11, Tryd.ntmps11
            go_wp2_with fail
            refine (HP.out _).mono ?_
            rintro e w1 ⟨rfl, hB1⟩
            dsimp only
            replace kf := kf.on hB1
            have k1 := Blk.new w1 51 #[.int .i64 3, .int .i64 1, .int .i64 24, .int .i64 24, .int .i64 0]
            have al := Below.al w1 (.cells #[.int .i64 3, .int .i64 1, .int .i64 24, .int .i64 24, .int .i64 0] 51)
            replace kf := kf.on al
            have b1 := (hB.trans (hB1.mono hB.size)).trans (al.mono (hB.trans (hB1.mono hB.size)).size)
            clear hB hB1 al HP
            obtain ⟨p0, p1, p2, p3, p4, p5, p6, p7, p8⟩ := kf.nine
            go_wp2_with fail
            generalize w1.alloc (.cells #[.int .i64 3, .int .i64 1, .int .i64 24, .int .i64 24, .int .i64 0] 51) = w2 at *
            generalize w1.heap.size = g at *
            clear p0 p1 p2 p3 p4 p5 p6 p7 p8
            refine (HC.out _).mono ?_
            rintro e w3 ⟨rfl, hB3⟩
            dsimp only
            replace kf := kf.on hB3; replace k1 := k1.on hB3
            replace b1 := b1.trans (hB3.mono b1.size)
            clear hB3 HC
            obtain ⟨p0, p1, p2, p3, p4, p5, p6, p7, p8⟩ := kf.nine
            obtain ⟨⟨q0, q1, q2, q3, q4⟩, -⟩ := k1.five
            go_wp2
            go_ret
            exact ⟨rfl, b1⟩
          · have hz : Z = 50 := by rw [HZ.out]; exact checkF_no fun h => by have := HF.out.1 h; omega
            have d3 : (F == 0) = false := by simpa using c3
            subst hz
            clear HZ HF HI hm
            go_enter Tryd.func11, Tryd.ntmps11
            go_wp2_with fail
            refine (HP.out _).mono ?_
            rintro e w1 ⟨rfl, hB1⟩
            dsimp only
            replace kf := kf.on hB1
            have k1 := Blk.new w1 51 #[.int .i64 3, .int .i64 1, .int .i64 24, .int .i64 24, .int .i64 0]
            have al := Below.al w1 (.cells #[.int .i64 3, .int .i64 1, .int .i64 24, .int .i64 24, .int .i64 0] 51)
            replace kf := kf.on al
            have b1 := (hB.trans (hB1.mono hB.size)).trans (al.mono (hB.trans (hB1.mono hB.size)).size)
            clear hB hB1 al HP
            obtain ⟨p0, p1, p2, p3, p4, p5, p6, p7, p8⟩ := kf.nine
            go_wp2_with fail
            generalize w1.alloc (.cells #[.int .i64 3, .int .i64 1, .int .i64 24, .int .i64 24, .int .i64 0] 51) = w2 at *
            generalize w1.heap.size = g at *
            clear p0 p1 p2 p3 p4 p5 p6 p7 p8
            refine (HC.out _).mono ?_
            rintro e w3 ⟨rfl, hB3⟩
            dsimp only
            replace kf := kf.on hB3; replace k1 := k1.on hB3
            replace b1 := b1.trans (hB3.mono b1.size)
            clear hB3 HC
            obtain ⟨p0, p1, p2, p3, p4, p5, p6, p7, p8⟩ := kf.nine
            obtain ⟨⟨q0, q1, q2, q3, q4⟩, -⟩ := k1.five
            go_wp2
            go_ret
            exact ⟨rfl, b1⟩
  · rw [checkC_no hm] at hc
    have HC := Lib.hid hc; clear hc
    have hz : Z = 50 := by rw [HZ.out]; exact checkF_no fun h => hm (HF.out.1 h).2.2.1
    subst hz
    clear HZ HF HI hm
    go_enter Tryd.func11, Tryd.ntmps11
    go_wp2_with fail
    refine (HP.out _).mono ?_
    rintro e w1 ⟨rfl, hB1⟩
    dsimp only
    replace kf := kf.on hB1
    have k1 := Blk.new w1 51 #[.int .i64 3, .int .i64 1, .int .i64 24, .int .i64 24, .int .i64 0]
    have al := Below.al w1 (.cells #[.int .i64 3, .int .i64 1, .int .i64 24, .int .i64 24, .int .i64 0] 51)
    replace kf := kf.on al
    have b1 := (hB.trans (hB1.mono hB.size)).trans (al.mono (hB.trans (hB1.mono hB.size)).size)
    clear hB hB1 al HP
    obtain ⟨p0, p1, p2, p3, p4, p5, p6, p7, p8⟩ := kf.nine
    go_wp2_with fail
    generalize w1.alloc (.cells #[.int .i64 3, .int .i64 1, .int .i64 24, .int .i64 24, .int .i64 0] 51) = w2 at *
    generalize w1.heap.size = g at *
    clear p0 p1 p2 p3 p4 p5 p6 p7 p8
    refine (HC.out _).mono ?_
    rintro e w3 ⟨rfl, hB3⟩
    dsimp only
    replace kf := kf.on hB3; replace k1 := k1.on hB3
    replace b1 := b1.trans (hB3.mono b1.size)
    clear hB3 HC
    obtain ⟨p0, p1, p2, p3, p4, p5, p6, p7, p8⟩ := kf.nine
    obtain ⟨⟨q0, q1, q2, q3, q4⟩, -⟩ := k1.five
    go_wp2
    go_ret
    exact ⟨rfl, b1⟩
set_option maxRecDepth 8000 in
set_option maxHeartbeats 2000000 in
theorem check_4 (R T P Mo Nx Me F : Int) (ds : List UInt8) (A : Option Addr) (n c : Nat) (w : World) (hn : n = ds.length) : Calls Tryd.prog 11 #[.agg #[.int .i64 4, .int .i64 R, .int .i64 T, .int .i64 P, .int .i64 Mo, .int .i64 Nx, .int .i64 Me, .int .i64 F, .slice A n c]] w fun e w' => e = .returned (.int .i64 (checkF ⟨4, R, ⟨T, P, Mo, Nx, Me⟩, F, ds⟩)) ∧ Below w.heap.size w w' := by
  have hp := fun W => partsOf_4 W
  have hc := fun W => checkC_any ⟨T, P, Mo, Nx, Me⟩ 8 W
  have hi := fun W => isCold_any ⟨4, R, ⟨T, P, Mo, Nx, Me⟩, F, ds⟩ A n c W
  unfold CS.cells at hc
  unfold FR.cells at hi
  dsimp only at hc hi
  have HP := Lib.hid hp; clear hp
  have HI := Lib.hid hi; clear hi
  have kf := Blk.new w 26 #[.int .i64 4, .int .i64 R, .int .i64 T, .int .i64 P, .int .i64 Mo, .int .i64 Nx, .int .i64 Me, .int .i64 F, .slice A n c]
  have hB := Below.al w (.cells #[.int .i64 4, .int .i64 R, .int .i64 T, .int .i64 P, .int .i64 Mo, .int .i64 Nx, .int .i64 Me, .int .i64 F, .slice A n c] 26)
  obtain ⟨Z, hZ⟩ : ∃ Z, Z = checkF ⟨4, R, ⟨T, P, Mo, Nx, Me⟩, F, ds⟩ := ⟨_, rfl⟩
  rw [← hZ]
  have hiff := mayF_iff ⟨4, R, ⟨T, P, Mo, Nx, Me⟩, F, ds⟩
  dsimp only at hiff
  rw [← hn] at hiff
  have HF := Lib.hid hiff; have HN := Lib.hid hn; have HZ := Lib.hid hZ; clear hiff hn hZ
  by_cases hm : mayC ⟨T, P, Mo, Nx, Me⟩ 8 = true
  · rw [checkC_yes hm] at hc
    have HC := Lib.hid hc; clear hc
    by_cases c0 : R < 0
    · have d0 : decide (R < 0) = true := by simpa using c0
      have hz : Z = 50 := by rw [HZ.out]; exact checkF_no fun h => by have := HF.out.1 h; omega
      subst hz
      clear HZ HF HI hm
      go_enter Tryd.func11, Tryd.ntmps11
      go_wp2_with fail
      refine (HP.out _).mono ?_
      rintro e w1 ⟨rfl, hB1⟩
      dsimp only
      replace kf := kf.on hB1
      have k1 := Blk.new w1 51 #[.int .i64 3, .int .i64 2, .int .i64 24, .int .i64 24, .int .i64 8]
      have al := Below.al w1 (.cells #[.int .i64 3, .int .i64 2, .int .i64 24, .int .i64 24, .int .i64 8] 51)
      replace kf := kf.on al
      have b1 := (hB.trans (hB1.mono hB.size)).trans (al.mono (hB.trans (hB1.mono hB.size)).size)
      clear hB hB1 al HP
      obtain ⟨p0, p1, p2, p3, p4, p5, p6, p7, p8⟩ := kf.nine
      go_wp2_with fail
      generalize w1.alloc (.cells #[.int .i64 3, .int .i64 2, .int .i64 24, .int .i64 24, .int .i64 8] 51) = w2 at *
      generalize w1.heap.size = g at *
      clear p0 p1 p2 p3 p4 p5 p6 p7 p8
      refine (HC.out _).mono ?_
      rintro e w3 ⟨rfl, hB3⟩
      dsimp only
      replace kf := kf.on hB3; replace k1 := k1.on hB3
      replace b1 := b1.trans (hB3.mono b1.size)
      clear hB3 HC
      obtain ⟨p0, p1, p2, p3, p4, p5, p6, p7, p8⟩ := kf.nine
      obtain ⟨⟨q0, q1, q2, q3, q4⟩, -⟩ := k1.five
      go_wp2
      go_ret
      exact ⟨rfl, b1⟩
    · have d0 : decide (R < 0) = false := by simpa using c0
      by_cases c1 : 4 < R
      · have d1 : decide (4 < R) = true := by simpa using c1
        have hz : Z = 50 := by rw [HZ.out]; exact checkF_no fun h => by have := HF.out.1 h; omega
        subst hz
        clear HZ HF HI hm
        go_enter Tryd.func11, Tryd.ntmps11
        go_wp2_with fail
        refine (HP.out _).mono ?_
        rintro e w1 ⟨rfl, hB1⟩
        dsimp only
        replace kf := kf.on hB1
        have k1 := Blk.new w1 51 #[.int .i64 3, .int .i64 2, .int .i64 24, .int .i64 24, .int .i64 8]
        have al := Below.al w1 (.cells #[.int .i64 3, .int .i64 2, .int .i64 24, .int .i64 24, .int .i64 8] 51)
        replace kf := kf.on al
        have b1 := (hB.trans (hB1.mono hB.size)).trans (al.mono (hB.trans (hB1.mono hB.size)).size)
        clear hB hB1 al HP
        obtain ⟨p0, p1, p2, p3, p4, p5, p6, p7, p8⟩ := kf.nine
        go_wp2_with fail
        generalize w1.alloc (.cells #[.int .i64 3, .int .i64 2, .int .i64 24, .int .i64 24, .int .i64 8] 51) = w2 at *
        generalize w1.heap.size = g at *
        clear p0 p1 p2 p3 p4 p5 p6 p7 p8
        refine (HC.out _).mono ?_
        rintro e w3 ⟨rfl, hB3⟩
        dsimp only
        replace kf := kf.on hB3; replace k1 := k1.on hB3
        replace b1 := b1.trans (hB3.mono b1.size)
        clear hB3 HC
        obtain ⟨p0, p1, p2, p3, p4, p5, p6, p7, p8⟩ := kf.nine
        obtain ⟨⟨q0, q1, q2, q3, q4⟩, -⟩ := k1.five
        go_wp2
        go_ret
        exact ⟨rfl, b1⟩
      · have d1 : decide (4 < R) = false := by simpa using c1
        by_cases c2 : 8 < n
        · have d2 : decide ((8 : Int) < (n : Int)) = true := by simp; omega
          have d2' : decide (8 < n) = true := by simp; omega
          have hz : Z = 50 := by rw [HZ.out]; exact checkF_no fun h => by have := HF.out.1 h; omega
          subst hz
          clear HZ HF HI hm
          go_enter Tryd.func11, Tryd.ntmps11
          go_wp2_with fail
          refine (HP.out _).mono ?_
          rintro e w1 ⟨rfl, hB1⟩
          dsimp only
          replace kf := kf.on hB1
          have k1 := Blk.new w1 51 #[.int .i64 3, .int .i64 2, .int .i64 24, .int .i64 24, .int .i64 8]
          have al := Below.al w1 (.cells #[.int .i64 3, .int .i64 2, .int .i64 24, .int .i64 24, .int .i64 8] 51)
          replace kf := kf.on al
          have b1 := (hB.trans (hB1.mono hB.size)).trans (al.mono (hB.trans (hB1.mono hB.size)).size)
          clear hB hB1 al HP
          obtain ⟨p0, p1, p2, p3, p4, p5, p6, p7, p8⟩ := kf.nine
          go_wp2_with fail
          generalize w1.alloc (.cells #[.int .i64 3, .int .i64 2, .int .i64 24, .int .i64 24, .int .i64 8] 51) = w2 at *
          generalize w1.heap.size = g at *
          clear p0 p1 p2 p3 p4 p5 p6 p7 p8
          refine (HC.out _).mono ?_
          rintro e w3 ⟨rfl, hB3⟩
          dsimp only
          replace kf := kf.on hB3; replace k1 := k1.on hB3
          replace b1 := b1.trans (hB3.mono b1.size)
          clear hB3 HC
          obtain ⟨p0, p1, p2, p3, p4, p5, p6, p7, p8⟩ := kf.nine
          obtain ⟨⟨q0, q1, q2, q3, q4⟩, -⟩ := k1.five
          go_wp2
          go_ret
          exact ⟨rfl, b1⟩
        · have d2 : decide ((8 : Int) < (n : Int)) = false := by simp; omega
          have d2' : decide (8 < n) = false := by simp; omega
          by_cases c3 : F = 0
          · subst c3
            have hz : Z = 0 := by rw [HZ.out]; exact checkF_yes (HF.out.2 (by refine ⟨by omega, by omega, hm, ?_⟩; omega))
            subst hz
            clear HZ HF HI hm
            go_enter Tryd.func11, Tryd.ntmps11
            go_wp2_with fail
            refine (HP.out _).mono ?_
            rintro e w1 ⟨rfl, hB1⟩
            dsimp only
            replace kf := kf.on hB1
            have k1 := Blk.new w1 51 #[.int .i64 3, .int .i64 2, .int .i64 24, .int .i64 24, .int .i64 8]
            have al := Below.al w1 (.cells #[.int .i64 3, .int .i64 2, .int .i64 24, .int .i64 24, .int .i64 8] 51)
            replace kf := kf.on al
            have b1 := (hB.trans (hB1.mono hB.size)).trans (al.mono (hB.trans (hB1.mono hB.size)).size)
            clear hB hB1 al HP
            obtain ⟨p0, p1, p2, p3, p4, p5, p6, p7, p8⟩ := kf.nine
            go_wp2_with fail
            generalize w1.alloc (.cells #[.int .i64 3, .int .i64 2, .int .i64 24, .int .i64 24, .int .i64 8] 51) = w2 at *
            generalize w1.heap.size = g at *
            clear p0 p1 p2 p3 p4 p5 p6 p7 p8
            refine (HC.out _).mono ?_
            rintro e w3 ⟨rfl, hB3⟩
            dsimp only
            replace kf := kf.on hB3; replace k1 := k1.on hB3
            replace b1 := b1.trans (hB3.mono b1.size)
            clear hB3 HC
            obtain ⟨p0, p1, p2, p3, p4, p5, p6, p7, p8⟩ := kf.nine
            obtain ⟨⟨q0, q1, q2, q3, q4⟩, -⟩ := k1.five
            go_wp2
            go_ret
            exact ⟨rfl, b1⟩
          · have hz : Z = 50 := by rw [HZ.out]; exact checkF_no fun h => by have := HF.out.1 h; omega
            have d3 : (F == 0) = false := by simpa using c3
            subst hz
            clear HZ HF HI hm
            go_enter Tryd.func11, Tryd.ntmps11
            go_wp2_with fail
            refine (HP.out _).mono ?_
            rintro e w1 ⟨rfl, hB1⟩
            dsimp only
            replace kf := kf.on hB1
            have k1 := Blk.new w1 51 #[.int .i64 3, .int .i64 2, .int .i64 24, .int .i64 24, .int .i64 8]
            have al := Below.al w1 (.cells #[.int .i64 3, .int .i64 2, .int .i64 24, .int .i64 24, .int .i64 8] 51)
            replace kf := kf.on al
            have b1 := (hB.trans (hB1.mono hB.size)).trans (al.mono (hB.trans (hB1.mono hB.size)).size)
            clear hB hB1 al HP
            obtain ⟨p0, p1, p2, p3, p4, p5, p6, p7, p8⟩ := kf.nine
            go_wp2_with fail
            generalize w1.alloc (.cells #[.int .i64 3, .int .i64 2, .int .i64 24, .int .i64 24, .int .i64 8] 51) = w2 at *
            generalize w1.heap.size = g at *
            clear p0 p1 p2 p3 p4 p5 p6 p7 p8
            refine (HC.out _).mono ?_
            rintro e w3 ⟨rfl, hB3⟩
            dsimp only
            replace kf := kf.on hB3; replace k1 := k1.on hB3
            replace b1 := b1.trans (hB3.mono b1.size)
            clear hB3 HC
            obtain ⟨p0, p1, p2, p3, p4, p5, p6, p7, p8⟩ := kf.nine
            obtain ⟨⟨q0, q1, q2, q3, q4⟩, -⟩ := k1.five
            go_wp2
            go_ret
            exact ⟨rfl, b1⟩
  · rw [checkC_no hm] at hc
    have HC := Lib.hid hc; clear hc
    have hz : Z = 50 := by rw [HZ.out]; exact checkF_no fun h => hm (HF.out.1 h).2.2.1
    subst hz
    clear HZ HF HI hm
    go_enter Tryd.func11, Tryd.ntmps11
    go_wp2_with fail
    refine (HP.out _).mono ?_
    rintro e w1 ⟨rfl, hB1⟩
    dsimp only
    replace kf := kf.on hB1
    have k1 := Blk.new w1 51 #[.int .i64 3, .int .i64 2, .int .i64 24, .int .i64 24, .int .i64 8]
    have al := Below.al w1 (.cells #[.int .i64 3, .int .i64 2, .int .i64 24, .int .i64 24, .int .i64 8] 51)
    replace kf := kf.on al
    have b1 := (hB.trans (hB1.mono hB.size)).trans (al.mono (hB.trans (hB1.mono hB.size)).size)
    clear hB hB1 al HP
    obtain ⟨p0, p1, p2, p3, p4, p5, p6, p7, p8⟩ := kf.nine
    go_wp2_with fail
    generalize w1.alloc (.cells #[.int .i64 3, .int .i64 2, .int .i64 24, .int .i64 24, .int .i64 8] 51) = w2 at *
    generalize w1.heap.size = g at *
    clear p0 p1 p2 p3 p4 p5 p6 p7 p8
    refine (HC.out _).mono ?_
    rintro e w3 ⟨rfl, hB3⟩
    dsimp only
    replace kf := kf.on hB3; replace k1 := k1.on hB3
    replace b1 := b1.trans (hB3.mono b1.size)
    clear hB3 HC
    obtain ⟨p0, p1, p2, p3, p4, p5, p6, p7, p8⟩ := kf.nine
    obtain ⟨⟨q0, q1, q2, q3, q4⟩, -⟩ := k1.five
    go_wp2
    go_ret
    exact ⟨rfl, b1⟩
set_option maxRecDepth 8000 in
set_option maxHeartbeats 2000000 in
theorem check_other (K R T P Mo Nx Me F : Int) (A : Option Addr) (n c : Nat) (w : World) (h1 : (K == 1) = false) (h2 : (K == 2) = false) (h3 : (K == 3) = false) (h4 : (K == 4) = false) : Calls Tryd.prog 11 #[.agg #[.int .i64 K, .int .i64 R, .int .i64 T, .int .i64 P, .int .i64 Mo, .int .i64 Nx, .int .i64 Me, .int .i64 F, .slice A n c]] w fun e w' => e = .returned (.int .i64 50) ∧ Below w.heap.size w w' := by
  have hp := fun W => partsOf_no K h1 h2 h3 h4 W
  have HP := Lib.hid hp; clear hp
  have hB := Below.al w (.cells #[.int .i64 K, .int .i64 R, .int .i64 T, .int .i64 P, .int .i64 Mo, .int .i64 Nx, .int .i64 Me, .int .i64 F, .slice A n c] 26)
  go_enter Tryd.func11, Tryd.ntmps11
  go_wp2_with fail
  refine (HP.out _).mono ?_
  rintro e w1 ⟨rfl, hB1⟩
  dsimp only
  have al := Below.al w1 (.cells #[.int .i64 0, .int .i64 0, .int .i64 0, .int .i64 0, .int .i64 0] 51)
  have b1 := (hB.trans (hB1.mono hB.size)).trans (al.mono (hB.trans (hB1.mono hB.size)).size)
  clear hB hB1 al HP
  go_wp2
  go_ret
  exact ⟨rfl, b1⟩
theorem checkF_any (f : FR) (A : Option Addr) (n c : Nat) (w : World) (hn : n = f.ds.length) : Calls Tryd.prog 11 #[.agg (f.cells A n c)] w fun e w' => e = .returned (.int .i64 (checkF f)) ∧ Below w.heap.size w w' := by
  obtain ⟨K, R, ⟨T, P, Mo, Nx, Me⟩, F, ds⟩ := f
  unfold FR.cells
  by_cases h1 : K = 1
  · subst h1; exact check_1 R T P Mo Nx Me F ds A n c w hn
  · by_cases h2 : K = 2
    · subst h2; exact check_2 R T P Mo Nx Me F ds A n c w hn
    · by_cases h3 : K = 3
      · subst h3; exact check_3 R T P Mo Nx Me F ds A n c w hn
      · by_cases h4 : K = 4
        · subst h4; exact check_4 R T P Mo Nx Me F ds A n c w hn
        · rw [checkF_no (f := ⟨K, R, ⟨T, P, Mo, Nx, Me⟩, F, ds⟩) (fun h => by have := (mayF_iff _).1 h; dsimp only at this; omega)]
          exact check_other K R T P Mo Nx Me F A n c w (by simpa using h1) (by simpa using h2) (by simpa using h3) (by simpa using h4)
end Go.Proofs.YtcfbeelljhjnoaaDoor
