/-
  The document's Check of package frame. No condition.
-/
import Derived.Test.YtcfbeelljhjnoaaDoorN3
namespace Go.Proofs.YtcfbeelljhjnoaaDoor
open Go.RowKit

set_option maxRecDepth 8000 in
set_option maxHeartbeats 2000000 in
theorem rcheck_1 (R T P Mo Nx Me F : Int) (ds : List UInt8) (A : Option Addr) (n c : Nat) (w : World) (hn : n = ds.length) : Calls Tryd.prog 12 #[.agg #[.int .i64 1, .int .i64 R, .int .i64 T, .int .i64 P, .int .i64 Mo, .int .i64 Nx, .int .i64 Me, .int .i64 F, .slice A n c]] w fun e w' => e = .returned (.int .i64 (checkF ⟨1, R, ⟨T, P, Mo, Nx, Me⟩, F, ds⟩)) ∧ Below w.heap.size w w' := by
  have hc := fun W => rcheckC_any ⟨T, P, Mo, Nx, Me⟩ 8 W
  unfold CS.cells at hc
  dsimp only at hc
  have kf := Blk.new w 26 #[.int .i64 1, .int .i64 R, .int .i64 T, .int .i64 P, .int .i64 Mo, .int .i64 Nx, .int .i64 Me, .int .i64 F, .slice A n c]
  have hB := Below.al w (.cells #[.int .i64 1, .int .i64 R, .int .i64 T, .int .i64 P, .int .i64 Mo, .int .i64 Nx, .int .i64 Me, .int .i64 F, .slice A n c] 26)
  obtain ⟨Z, hZ⟩ : ∃ Z, Z = checkF ⟨1, R, ⟨T, P, Mo, Nx, Me⟩, F, ds⟩ := ⟨_, rfl⟩
  rw [← hZ]
  have hiff := mayF_iff ⟨1, R, ⟨T, P, Mo, Nx, Me⟩, F, ds⟩
  dsimp only at hiff
  rw [← hn] at hiff
  have HF := Lib.hid hiff; have HN := Lib.hid hn; have HZ := Lib.hid hZ; clear hiff hn hZ
  by_cases hm : mayC ⟨T, P, Mo, Nx, Me⟩ 8 = true
  · rw [checkC_yes hm] at hc
    have HC := Lib.hid hc; clear hc
    by_cases c0 : R < 0
    · have d0 : decide (R < 0) = true := by simpa using c0
      have hz : Z = 50 := by rw [HZ.out]; exact checkF_no fun h => by have := HF.out.1 h; omega
      subst hz
      clear HZ HF hm
      go_enter Tryd.func12, Tryd.ntmps12
      go_wp2_with fail
      refine (HC.out _).mono ?_
      rintro e w3 ⟨rfl, hB3⟩
      dsimp only
      replace kf := kf.on hB3
      have b1 := hB.trans (hB3.mono hB.size)
      clear hB hB3 HC
      obtain ⟨p0, p1, p2, p3, p4, p5, p6, p7, p8⟩ := kf.nine
      go_wp2
      go_ret
      exact ⟨rfl, b1⟩
    · have d0 : decide (R < 0) = false := by simpa using c0
      by_cases c1 : 4 < R
      · have d1 : decide (4 < R) = true := by simpa using c1
        have hz : Z = 50 := by rw [HZ.out]; exact checkF_no fun h => by have := HF.out.1 h; omega
        subst hz
        clear HZ HF hm
        go_enter Tryd.func12, Tryd.ntmps12
        go_wp2_with fail
        refine (HC.out _).mono ?_
        rintro e w3 ⟨rfl, hB3⟩
        dsimp only
        replace kf := kf.on hB3
        have b1 := hB.trans (hB3.mono hB.size)
        clear hB hB3 HC
        obtain ⟨p0, p1, p2, p3, p4, p5, p6, p7, p8⟩ := kf.nine
        go_wp2
        go_ret
        exact ⟨rfl, b1⟩
      · have d1 : decide (4 < R) = false := by simpa using c1
        by_cases c2 : 8 < n
        · have d2 : decide ((8 : Int) < (n : Int)) = true := by simp; omega
          have d2' : decide (8 < n) = true := by simp; omega
          have hz : Z = 50 := by rw [HZ.out]; exact checkF_no fun h => by have := HF.out.1 h; omega
          subst hz
          clear HZ HF hm
          go_enter Tryd.func12, Tryd.ntmps12
          go_wp2_with fail
          refine (HC.out _).mono ?_
          rintro e w3 ⟨rfl, hB3⟩
          dsimp only
          replace kf := kf.on hB3
          have b1 := hB.trans (hB3.mono hB.size)
          clear hB hB3 HC
          obtain ⟨p0, p1, p2, p3, p4, p5, p6, p7, p8⟩ := kf.nine
          go_wp2
          go_ret
          exact ⟨rfl, b1⟩
        · have d2 : decide ((8 : Int) < (n : Int)) = false := by simp; omega
          have d2' : decide (8 < n) = false := by simp; omega
          by_cases c3 : 0 < n
          · have d3 : decide ((0 : Int) < (n : Int)) = true := by simp; omega
            have d3' : decide (0 < n) = true := by simp; omega
            have hz : Z = 50 := by rw [HZ.out]; exact checkF_no fun h => by have := HF.out.1 h; omega
            subst hz
            clear HZ HF hm
            go_enter Tryd.func12, Tryd.ntmps12
            go_wp2_with fail
            refine (HC.out _).mono ?_
            rintro e w3 ⟨rfl, hB3⟩
            dsimp only
            replace kf := kf.on hB3
            have b1 := hB.trans (hB3.mono hB.size)
            clear hB hB3 HC
            obtain ⟨p0, p1, p2, p3, p4, p5, p6, p7, p8⟩ := kf.nine
            go_wp2
            go_ret
            exact ⟨rfl, b1⟩
          · have d3 : decide ((0 : Int) < (n : Int)) = false := by simp; omega
            have d3' : decide (0 < n) = false := by simp; omega
            by_cases c4 : R = 0
            · subst c4
              by_cases c5 : F < 0
              · have d5 : decide (F < 0) = true := by simpa using c5
                have hz : Z = 50 := by rw [HZ.out]; exact checkF_no fun h => by have := HF.out.1 h; omega
                subst hz
                clear HZ HF hm
                go_enter Tryd.func12, Tryd.ntmps12
                go_wp2_with fail
                refine (HC.out _).mono ?_
                rintro e w3 ⟨rfl, hB3⟩
                dsimp only
                replace kf := kf.on hB3
                have b1 := hB.trans (hB3.mono hB.size)
                clear hB hB3 HC
                obtain ⟨p0, p1, p2, p3, p4, p5, p6, p7, p8⟩ := kf.nine
                obtain ⟨r0, r1, r2, r3, r4, r5, r6, r7, r8⟩ := (kf.on (Below.al w3 (.cells #[.int .i64 T, .int .i64 0, .int .i64 0, .int .i64 0, .int .i64 0] 23))).nine
                have b2 := b1.trans ((Below.al w3 (.cells #[.int .i64 T, .int .i64 0, .int .i64 0, .int .i64 0, .int .i64 0] 23)).mono b1.size)
                go_wp2
                go_ret
                exact ⟨rfl, b2⟩
              · have d5 : decide (F < 0) = false := by simpa using c5
                by_cases c6 : 8 ≤ F
                · have d6 : decide (8 ≤ F) = true := by simpa using c6
                  have hz : Z = 50 := by rw [HZ.out]; exact checkF_no fun h => by have := HF.out.1 h; omega
                  subst hz
                  clear HZ HF hm
                  go_enter Tryd.func12, Tryd.ntmps12
                  go_wp2_with fail
                  refine (HC.out _).mono ?_
                  rintro e w3 ⟨rfl, hB3⟩
                  dsimp only
                  replace kf := kf.on hB3
                  have b1 := hB.trans (hB3.mono hB.size)
                  clear hB hB3 HC
                  obtain ⟨p0, p1, p2, p3, p4, p5, p6, p7, p8⟩ := kf.nine
                  obtain ⟨r0, r1, r2, r3, r4, r5, r6, r7, r8⟩ := (kf.on (Below.al w3 (.cells #[.int .i64 T, .int .i64 0, .int .i64 0, .int .i64 0, .int .i64 0] 23))).nine
                  have b2 := b1.trans ((Below.al w3 (.cells #[.int .i64 T, .int .i64 0, .int .i64 0, .int .i64 0, .int .i64 0] 23)).mono b1.size)
                  go_wp2
                  go_ret
                  exact ⟨rfl, b2⟩
                · have d6 : decide (8 ≤ F) = false := by simpa using c6
                  by_cases c7 : P = 0 ∧ Mo = 0 ∧ Nx = 0 ∧ Me = 0
                  · have hz : Z = 0 := by rw [HZ.out]; exact checkF_yes (HF.out.2 (by refine ⟨by omega, by omega, hm, ?_⟩; omega))
                    obtain ⟨rfl, rfl, rfl, rfl⟩ := c7
                    subst hz
                    clear HZ HF hm
                    go_enter Tryd.func12, Tryd.ntmps12
                    go_wp2_with fail
                    refine (HC.out _).mono ?_
                    rintro e w3 ⟨rfl, hB3⟩
                    dsimp only
                    replace kf := kf.on hB3
                    have b1 := hB.trans (hB3.mono hB.size)
                    clear hB hB3 HC
                    obtain ⟨p0, p1, p2, p3, p4, p5, p6, p7, p8⟩ := kf.nine
                    obtain ⟨r0, r1, r2, r3, r4, r5, r6, r7, r8⟩ := (kf.on (Below.al w3 (.cells #[.int .i64 T, .int .i64 0, .int .i64 0, .int .i64 0, .int .i64 0] 23))).nine
                    have b2 := b1.trans ((Below.al w3 (.cells #[.int .i64 T, .int .i64 0, .int .i64 0, .int .i64 0, .int .i64 0] 23)).mono b1.size)
                    go_wp2
                    go_ret
                    exact ⟨rfl, b2⟩
                  · have hz : Z = 50 := by rw [HZ.out]; exact checkF_no fun h => by have := HF.out.1 h; omega
                    have hop := fun W => agg_no (s0 := T) (t0 := T) (s1 := P) (t1 := 0) (s2 := Mo) (t2 := 0) (s3 := Nx) (t3 := 0) (s4 := Me) (t4 := 0) (fun h => c7 h.2) W
                    subst hz
                    clear HZ HF hm c7
                    go_enter Tryd.func12, Tryd.ntmps12
                    go_wp2_with fail
                    refine (HC.out _).mono ?_
                    rintro e w3 ⟨rfl, hB3⟩
                    dsimp only
                    replace kf := kf.on hB3
                    have b1 := hB.trans (hB3.mono hB.size)
                    clear hB hB3 HC
                    obtain ⟨p0, p1, p2, p3, p4, p5, p6, p7, p8⟩ := kf.nine
                    obtain ⟨r0, r1, r2, r3, r4, r5, r6, r7, r8⟩ := (kf.on (Below.al w3 (.cells #[.int .i64 T, .int .i64 0, .int .i64 0, .int .i64 0, .int .i64 0] 23))).nine
                    have b2 := b1.trans ((Below.al w3 (.cells #[.int .i64 T, .int .i64 0, .int .i64 0, .int .i64 0, .int .i64 0] 23)).mono b1.size)
                    go_wp2
                    go_ret
                    exact ⟨rfl, b2⟩
            · have d4 : (R == 0) = false := by simpa using c4
              have hz : Z = 50 := by rw [HZ.out]; exact checkF_no fun h => by have := HF.out.1 h; omega
              subst hz
              clear HZ HF hm
              go_enter Tryd.func12, Tryd.ntmps12
              go_wp2_with fail
              refine (HC.out _).mono ?_
              rintro e w3 ⟨rfl, hB3⟩
              dsimp only
              replace kf := kf.on hB3
              have b1 := hB.trans (hB3.mono hB.size)
              clear hB hB3 HC
              obtain ⟨p0, p1, p2, p3, p4, p5, p6, p7, p8⟩ := kf.nine
              obtain ⟨r0, r1, r2, r3, r4, r5, r6, r7, r8⟩ := (kf.on (Below.al w3 (.cells #[.int .i64 T, .int .i64 0, .int .i64 0, .int .i64 0, .int .i64 0] 23))).nine
              have b2 := b1.trans ((Below.al w3 (.cells #[.int .i64 T, .int .i64 0, .int .i64 0, .int .i64 0, .int .i64 0] 23)).mono b1.size)
              go_wp2
              go_ret
              exact ⟨rfl, b2⟩
  · rw [checkC_no hm] at hc
    have HC := Lib.hid hc; clear hc
    have hz : Z = 50 := by rw [HZ.out]; exact checkF_no fun h => hm (HF.out.1 h).2.2.1
    subst hz
    clear HZ HF hm
    go_enter Tryd.func12, Tryd.ntmps12
    go_wp2_with fail
    refine (HC.out _).mono ?_
    rintro e w3 ⟨rfl, hB3⟩
    dsimp only
    replace kf := kf.on hB3
    have b1 := hB.trans (hB3.mono hB.size)
    clear hB hB3 HC
    obtain ⟨p0, p1, p2, p3, p4, p5, p6, p7, p8⟩ := kf.nine
    go_wp2
    go_ret
    exact ⟨rfl, b1⟩
set_option maxRecDepth 8000 in
set_option maxHeartbeats 2000000 in
theorem rcheck_2 (R T P Mo Nx Me F : Int) (ds : List UInt8) (A : Option Addr) (n c : Nat) (w : World) (hn : n = ds.length) : Calls Tryd.prog 12 #[.agg #[.int .i64 2, .int .i64 R, .int .i64 T, .int .i64 P, .int .i64 Mo, .int .i64 Nx, .int .i64 Me, .int .i64 F, .slice A n c]] w fun e w' => e = .returned (.int .i64 (checkF ⟨2, R, ⟨T, P, Mo, Nx, Me⟩, F, ds⟩)) ∧ Below w.heap.size w w' := by
  have hc := fun W => rcheckC_any ⟨T, P, Mo, Nx, Me⟩ 8 W
  unfold CS.cells at hc
  dsimp only at hc
  have kf := Blk.new w 26 #[.int .i64 2, .int .i64 R, .int .i64 T, .int .i64 P, .int .i64 Mo, .int .i64 Nx, .int .i64 Me, .int .i64 F, .slice A n c]
  have hB := Below.al w (.cells #[.int .i64 2, .int .i64 R, .int .i64 T, .int .i64 P, .int .i64 Mo, .int .i64 Nx, .int .i64 Me, .int .i64 F, .slice A n c] 26)
  obtain ⟨Z, hZ⟩ : ∃ Z, Z = checkF ⟨2, R, ⟨T, P, Mo, Nx, Me⟩, F, ds⟩ := ⟨_, rfl⟩
  rw [← hZ]
  have hiff := mayF_iff ⟨2, R, ⟨T, P, Mo, Nx, Me⟩, F, ds⟩
  dsimp only at hiff
  rw [← hn] at hiff
  have HF := Lib.hid hiff; have HN := Lib.hid hn; have HZ := Lib.hid hZ; clear hiff hn hZ
  by_cases hm : mayC ⟨T, P, Mo, Nx, Me⟩ 8 = true
  · rw [checkC_yes hm] at hc
    have HC := Lib.hid hc; clear hc
    by_cases c0 : R < 0
    · have d0 : decide (R < 0) = true := by simpa using c0
      have hz : Z = 50 := by rw [HZ.out]; exact checkF_no fun h => by have := HF.out.1 h; omega
      subst hz
      clear HZ HF hm
      go_enter Tryd.func12, Tryd.ntmps12
      go_wp2_with fail
      refine (HC.out _).mono ?_
      rintro e w3 ⟨rfl, hB3⟩
      dsimp only
      replace kf := kf.on hB3
      have b1 := hB.trans (hB3.mono hB.size)
      clear hB hB3 HC
      obtain ⟨p0, p1, p2, p3, p4, p5, p6, p7, p8⟩ := kf.nine
      go_wp2
      go_ret
      exact ⟨rfl, b1⟩
    · have d0 : decide (R < 0) = false := by simpa using c0
      by_cases c1 : 4 < R
      · have d1 : decide (4 < R) = true := by simpa using c1
        have hz : Z = 50 := by rw [HZ.out]; exact checkF_no fun h => by have := HF.out.1 h; omega
        subst hz
        clear HZ HF hm
        go_enter Tryd.func12, Tryd.ntmps12
        go_wp2_with fail
        refine (HC.out _).mono ?_
        rintro e w3 ⟨rfl, hB3⟩
        dsimp only
        replace kf := kf.on hB3
        have b1 := hB.trans (hB3.mono hB.size)
        clear hB hB3 HC
        obtain ⟨p0, p1, p2, p3, p4, p5, p6, p7, p8⟩ := kf.nine
        go_wp2
        go_ret
        exact ⟨rfl, b1⟩
      · have d1 : decide (4 < R) = false := by simpa using c1
        by_cases c2 : 8 < n
        · have d2 : decide ((8 : Int) < (n : Int)) = true := by simp; omega
          have d2' : decide (8 < n) = true := by simp; omega
          have hz : Z = 50 := by rw [HZ.out]; exact checkF_no fun h => by have := HF.out.1 h; omega
          subst hz
          clear HZ HF hm
          go_enter Tryd.func12, Tryd.ntmps12
          go_wp2_with fail
          refine (HC.out _).mono ?_
          rintro e w3 ⟨rfl, hB3⟩
          dsimp only
          replace kf := kf.on hB3
          have b1 := hB.trans (hB3.mono hB.size)
          clear hB hB3 HC
          obtain ⟨p0, p1, p2, p3, p4, p5, p6, p7, p8⟩ := kf.nine
          go_wp2
          go_ret
          exact ⟨rfl, b1⟩
        · have d2 : decide ((8 : Int) < (n : Int)) = false := by simp; omega
          have d2' : decide (8 < n) = false := by simp; omega
          by_cases c4 : F = 0
          · subst c4
            have hz : Z = 0 := by rw [HZ.out]; exact checkF_yes (HF.out.2 (by refine ⟨by omega, by omega, hm, ?_⟩; omega))
            subst hz
            clear HZ HF hm
            go_enter Tryd.func12, Tryd.ntmps12
            go_wp2_with fail
            refine (HC.out _).mono ?_
            rintro e w3 ⟨rfl, hB3⟩
            dsimp only
            replace kf := kf.on hB3
            have b1 := hB.trans (hB3.mono hB.size)
            clear hB hB3 HC
            obtain ⟨p0, p1, p2, p3, p4, p5, p6, p7, p8⟩ := kf.nine
            go_wp2
            go_ret
            exact ⟨rfl, b1⟩
          · have d4 : (F == 0) = false := by simpa using c4
            have hz : Z = 50 := by rw [HZ.out]; exact checkF_no fun h => by have := HF.out.1 h; omega
            subst hz
            clear HZ HF hm
            go_enter Tryd.func12, Tryd.ntmps12
            go_wp2_with fail
            refine (HC.out _).mono ?_
            rintro e w3 ⟨rfl, hB3⟩
            dsimp only
            replace kf := kf.on hB3
            have b1 := hB.trans (hB3.mono hB.size)
            clear hB hB3 HC
            obtain ⟨p0, p1, p2, p3, p4, p5, p6, p7, p8⟩ := kf.nine
            go_wp2
            go_ret
            exact ⟨rfl, b1⟩
  · rw [checkC_no hm] at hc
    have HC := Lib.hid hc; clear hc
    have hz : Z = 50 := by rw [HZ.out]; exact checkF_no fun h => hm (HF.out.1 h).2.2.1
    subst hz
    clear HZ HF hm
    go_enter Tryd.func12, Tryd.ntmps12
    go_wp2_with fail
    refine (HC.out _).mono ?_
    rintro e w3 ⟨rfl, hB3⟩
    dsimp only
    replace kf := kf.on hB3
    have b1 := hB.trans (hB3.mono hB.size)
    clear hB hB3 HC
    obtain ⟨p0, p1, p2, p3, p4, p5, p6, p7, p8⟩ := kf.nine
    go_wp2
    go_ret
    exact ⟨rfl, b1⟩
set_option maxRecDepth 8000 in
set_option maxHeartbeats 2000000 in
theorem rcheck_3 (R T P Mo Nx Me F : Int) (ds : List UInt8) (A : Option Addr) (n c : Nat) (w : World) (hn : n = ds.length) : Calls Tryd.prog 12 #[.agg #[.int .i64 3, .int .i64 R, .int .i64 T, .int .i64 P, .int .i64 Mo, .int .i64 Nx, .int .i64 Me, .int .i64 F, .slice A n c]] w fun e w' => e = .returned (.int .i64 (checkF ⟨3, R, ⟨T, P, Mo, Nx, Me⟩, F, ds⟩)) ∧ Below w.heap.size w w' := by
  have hc := fun W => rcheckC_any ⟨T, P, Mo, Nx, Me⟩ 8 W
  unfold CS.cells at hc
  dsimp only at hc
  have kf := Blk.new w 26 #[.int .i64 3, .int .i64 R, .int .i64 T, .int .i64 P, .int .i64 Mo, .int .i64 Nx, .int .i64 Me, .int .i64 F, .slice A n c]
  have hB := Below.al w (.cells #[.int .i64 3, .int .i64 R, .int .i64 T, .int .i64 P, .int .i64 Mo, .int .i64 Nx, .int .i64 Me, .int .i64 F, .slice A n c] 26)
  obtain ⟨Z, hZ⟩ : ∃ Z, Z = checkF ⟨3, R, ⟨T, P, Mo, Nx, Me⟩, F, ds⟩ := ⟨_, rfl⟩
  rw [← hZ]
  have hiff := mayF_iff ⟨3, R, ⟨T, P, Mo, Nx, Me⟩, F, ds⟩
  dsimp only at hiff
  rw [← hn] at hiff
  have HF := Lib.hid hiff; have HN := Lib.hid hn; have HZ := Lib.hid hZ; clear hiff hn hZ
  by_cases hm : mayC ⟨T, P, Mo, Nx, Me⟩ 8 = true
  · rw [checkC_yes hm] at hc
    have HC := Lib.hid hc; clear hc
    by_cases c0 : R < 0
    · have d0 : decide (R < 0) = true := by simpa using c0
      have hz : Z = 50 := by rw [HZ.out]; exact checkF_no fun h => by have := HF.out.1 h; omega
      subst hz
      clear HZ HF hm
      go_enter Tryd.func12, Tryd.ntmps12
      go_wp2_with fail
      refine (HC.out _).mono ?_
      rintro e w3 ⟨rfl, hB3⟩
      dsimp only
      replace kf := kf.on hB3
      have b1 := hB.trans (hB3.mono hB.size)
      clear hB hB3 HC
      obtain ⟨p0, p1, p2, p3, p4, p5, p6, p7, p8⟩ := kf.nine
      go_wp2
      go_ret
      exact ⟨rfl, b1⟩
    · have d0 : decide (R < 0) = false := by simpa using c0
      by_cases c1 : 4 < R
      · have d1 : decide (4 < R) = true := by simpa using c1
        have hz : Z = 50 := by rw [HZ.out]; exact checkF_no fun h => by have := HF.out.1 h; omega
        subst hz
        clear HZ HF hm
        go_enter Tryd.func12, Tryd.ntmps12
        go_wp2_with fail
        refine (HC.out _).mono ?_
        rintro e w3 ⟨rfl, hB3⟩
        dsimp only
        replace kf := kf.on hB3
        have b1 := hB.trans (hB3.mono hB.size)
        clear hB hB3 HC
        obtain ⟨p0, p1, p2, p3, p4, p5, p6, p7, p8⟩ := kf.nine
        go_wp2
        go_ret
        exact ⟨rfl, b1⟩
      · have d1 : decide (4 < R) = false := by simpa using c1
        by_cases c2 : 8 < n
        · have d2 : decide ((8 : Int) < (n : Int)) = true := by simp; omega
          have d2' : decide (8 < n) = true := by simp; omega
          have hz : Z = 50 := by rw [HZ.out]; exact checkF_no fun h => by have := HF.out.1 h; omega
          subst hz
          clear HZ HF hm
          go_enter Tryd.func12, Tryd.ntmps12
          go_wp2_with fail
          refine (HC.out _).mono ?_
          rintro e w3 ⟨rfl, hB3⟩
          dsimp only
          replace kf := kf.on hB3
          have b1 := hB.trans (hB3.mono hB.size)
          clear hB hB3 HC
          obtain ⟨p0, p1, p2, p3, p4, p5, p6, p7, p8⟩ := kf.nine
          go_wp2
          go_ret
          exact ⟨rfl, b1⟩
        · have d2 : decide ((8 : Int) < (n : Int)) = false := by simp; omega
          have d2' : decide (8 < n) = false := by simp; omega
          by_cases c3 : 0 < n
          · have d3 : decide ((0 : Int) < (n : Int)) = true := by simp; omega
            have d3' : decide (0 < n) = true := by simp; omega
            have hz : Z = 50 := by rw [HZ.out]; exact checkF_no fun h => by have := HF.out.1 h; omega
            subst hz
            clear HZ HF hm
            go_enter Tryd.func12, Tryd.ntmps12
            go_wp2_with fail
            refine (HC.out _).mono ?_
            rintro e w3 ⟨rfl, hB3⟩
            dsimp only
            replace kf := kf.on hB3
            have b1 := hB.trans (hB3.mono hB.size)
            clear hB hB3 HC
            obtain ⟨p0, p1, p2, p3, p4, p5, p6, p7, p8⟩ := kf.nine
            go_wp2
            go_ret
            exact ⟨rfl, b1⟩
          · have d3 : decide ((0 : Int) < (n : Int)) = false := by simp; omega
            have d3' : decide (0 < n) = false := by simp; omega
            by_cases c4 : F = 0
            · subst c4
              have hz : Z = 0 := by rw [HZ.out]; exact checkF_yes (HF.out.2 (by refine ⟨by omega, by omega, hm, ?_⟩; omega))
              subst hz
              clear HZ HF hm
              go_enter Tryd.func12, Tryd.ntmps12
              go_wp2_with fail
              refine (HC.out _).mono ?_
              rintro e w3 ⟨rfl, hB3⟩
              dsimp only
              replace kf := kf.on hB3
              have b1 := hB.trans (hB3.mono hB.size)
              clear hB hB3 HC
              obtain ⟨p0, p1, p2, p3, p4, p5, p6, p7, p8⟩ := kf.nine
              go_wp2
              go_ret
              exact ⟨rfl, b1⟩
            · have d4 : (F == 0) = false := by simpa using c4
              have hz : Z = 50 := by rw [HZ.out]; exact checkF_no fun h => by have := HF.out.1 h; omega
              subst hz
              clear HZ HF hm
              go_enter Tryd.func12, Tryd.ntmps12
              go_wp2_with fail
              refine (HC.out _).mono ?_
              rintro e w3 ⟨rfl, hB3⟩
              dsimp only
              replace kf := kf.on hB3
              have b1 := hB.trans (hB3.mono hB.size)
              clear hB hB3 HC
              obtain ⟨p0, p1, p2, p3, p4, p5, p6, p7, p8⟩ := kf.nine
              go_wp2
              go_ret
              exact ⟨rfl, b1⟩
  · rw [checkC_no hm] at hc
    have HC := Lib.hid hc; clear hc
    have hz : Z = 50 := by rw [HZ.out]; exact checkF_no fun h => hm (HF.out.1 h).2.2.1
    subst hz
    clear HZ HF hm
    go_enter Tryd.func12, Tryd.ntmps12
    go_wp2_with fail
    refine (HC.out _).mono ?_
    rintro e w3 ⟨rfl, hB3⟩
    dsimp only
    replace kf := kf.on hB3
    have b1 := hB.trans (hB3.mono hB.size)
    clear hB hB3 HC
    obtain ⟨p0, p1, p2, p3, p4, p5, p6, p7, p8⟩ := kf.nine
    go_wp2
    go_ret
    exact ⟨rfl, b1⟩
set_option maxRecDepth 8000 in
set_option maxHeartbeats 2000000 in
theorem rcheck_4 (R T P Mo Nx Me F : Int) (ds : List UInt8) (A : Option Addr) (n c : Nat) (w : World) (hn : n = ds.length) : Calls Tryd.prog 12 #[.agg #[.int .i64 4, .int .i64 R, .int .i64 T, .int .i64 P, .int .i64 Mo, .int .i64 Nx, .int .i64 Me, .int .i64 F, .slice A n c]] w fun e w' => e = .returned (.int .i64 (checkF ⟨4, R, ⟨T, P, Mo, Nx, Me⟩, F, ds⟩)) ∧ Below w.heap.size w w' := by
  have hc := fun W => rcheckC_any ⟨T, P, Mo, Nx, Me⟩ 8 W
  unfold CS.cells at hc
  dsimp only at hc
  have kf := Blk.new w 26 #[.int .i64 4, .int .i64 R, .int .i64 T, .int .i64 P, .int .i64 Mo, .int .i64 Nx, .int .i64 Me, .int .i64 F, .slice A n c]
  have hB := Below.al w (.cells #[.int .i64 4, .int .i64 R, .int .i64 T, .int .i64 P, .int .i64 Mo, .int .i64 Nx, .int .i64 Me, .int .i64 F, .slice A n c] 26)
  obtain ⟨Z, hZ⟩ : ∃ Z, Z = checkF ⟨4, R, ⟨T, P, Mo, Nx, Me⟩, F, ds⟩ := ⟨_, rfl⟩
  rw [← hZ]
  have hiff := mayF_iff ⟨4, R, ⟨T, P, Mo, Nx, Me⟩, F, ds⟩
  dsimp only at hiff
  rw [← hn] at hiff
  have HF := Lib.hid hiff; have HN := Lib.hid hn; have HZ := Lib.hid hZ; clear hiff hn hZ
  by_cases hm : mayC ⟨T, P, Mo, Nx, Me⟩ 8 = true
  · rw [checkC_yes hm] at hc
    have HC := Lib.hid hc; clear hc
    by_cases c0 : R < 0
    · have d0 : decide (R < 0) = true := by simpa using c0
      have hz : Z = 50 := by rw [HZ.out]; exact checkF_no fun h => by have := HF.out.1 h; omega
      subst hz
      clear HZ HF hm
      go_enter Tryd.func12, Tryd.ntmps12
      go_wp2_with fail
      refine (HC.out _).mono ?_
      rintro e w3 ⟨rfl, hB3⟩
      dsimp only
      replace kf := kf.on hB3
      have b1 := hB.trans (hB3.mono hB.size)
      clear hB hB3 HC
      obtain ⟨p0, p1, p2, p3, p4, p5, p6, p7, p8⟩ := kf.nine
      go_wp2
      go_ret
      exact ⟨rfl, b1⟩
    · have d0 : decide (R < 0) = false := by simpa using c0
      by_cases c1 : 4 < R
      · have d1 : decide (4 < R) = true := by simpa using c1
        have hz : Z = 50 := by rw [HZ.out]; exact checkF_no fun h => by have := HF.out.1 h; omega
        subst hz
        clear HZ HF hm
        go_enter Tryd.func12, Tryd.ntmps12
        go_wp2_with fail
        refine (HC.out _).mono ?_
        rintro e w3 ⟨rfl, hB3⟩
        dsimp only
        replace kf := kf.on hB3
        have b1 := hB.trans (hB3.mono hB.size)
        clear hB hB3 HC
        obtain ⟨p0, p1, p2, p3, p4, p5, p6, p7, p8⟩ := kf.nine
        go_wp2
        go_ret
        exact ⟨rfl, b1⟩
      · have d1 : decide (4 < R) = false := by simpa using c1
        by_cases c2 : 8 < n
        · have d2 : decide ((8 : Int) < (n : Int)) = true := by simp; omega
          have d2' : decide (8 < n) = true := by simp; omega
          have hz : Z = 50 := by rw [HZ.out]; exact checkF_no fun h => by have := HF.out.1 h; omega
          subst hz
          clear HZ HF hm
          go_enter Tryd.func12, Tryd.ntmps12
          go_wp2_with fail
          refine (HC.out _).mono ?_
          rintro e w3 ⟨rfl, hB3⟩
          dsimp only
          replace kf := kf.on hB3
          have b1 := hB.trans (hB3.mono hB.size)
          clear hB hB3 HC
          obtain ⟨p0, p1, p2, p3, p4, p5, p6, p7, p8⟩ := kf.nine
          go_wp2
          go_ret
          exact ⟨rfl, b1⟩
        · have d2 : decide ((8 : Int) < (n : Int)) = false := by simp; omega
          have d2' : decide (8 < n) = false := by simp; omega
          by_cases c4 : F = 0
          · subst c4
            have hz : Z = 0 := by rw [HZ.out]; exact checkF_yes (HF.out.2 (by refine ⟨by omega, by omega, hm, ?_⟩; omega))
            subst hz
            clear HZ HF hm
            go_enter Tryd.func12, Tryd.ntmps12
            go_wp2_with fail
            refine (HC.out _).mono ?_
            rintro e w3 ⟨rfl, hB3⟩
            dsimp only
            replace kf := kf.on hB3
            have b1 := hB.trans (hB3.mono hB.size)
            clear hB hB3 HC
            obtain ⟨p0, p1, p2, p3, p4, p5, p6, p7, p8⟩ := kf.nine
            go_wp2
            go_ret
            exact ⟨rfl, b1⟩
          · have d4 : (F == 0) = false := by simpa using c4
            have hz : Z = 50 := by rw [HZ.out]; exact checkF_no fun h => by have := HF.out.1 h; omega
            subst hz
            clear HZ HF hm
            go_enter Tryd.func12, Tryd.ntmps12
            go_wp2_with fail
            refine (HC.out _).mono ?_
            rintro e w3 ⟨rfl, hB3⟩
            dsimp only
            replace kf := kf.on hB3
            have b1 := hB.trans (hB3.mono hB.size)
            clear hB hB3 HC
            obtain ⟨p0, p1, p2, p3, p4, p5, p6, p7, p8⟩ := kf.nine
            go_wp2
            go_ret
            exact ⟨rfl, b1⟩
  · rw [checkC_no hm] at hc
    have HC := Lib.hid hc; clear hc
    have hz : Z = 50 := by rw [HZ.out]; exact checkF_no fun h => hm (HF.out.1 h).2.2.1
    subst hz
    clear HZ HF hm
    go_enter Tryd.func12, Tryd.ntmps12
    go_wp2_with fail
    refine (HC.out _).mono ?_
    rintro e w3 ⟨rfl, hB3⟩
    dsimp only
    replace kf := kf.on hB3
    have b1 := hB.trans (hB3.mono hB.size)
    clear hB hB3 HC
    obtain ⟨p0, p1, p2, p3, p4, p5, p6, p7, p8⟩ := kf.nine
    go_wp2
    go_ret
    exact ⟨rfl, b1⟩
set_option maxRecDepth 8000 in
set_option maxHeartbeats 2000000 in
theorem rcheck_low (K R T P Mo Nx Me F : Int) (A : Option Addr) (n c : Nat) (w : World) (h : K < 1) : Calls Tryd.prog 12 #[.agg #[.int .i64 K, .int .i64 R, .int .i64 T, .int .i64 P, .int .i64 Mo, .int .i64 Nx, .int .i64 Me, .int .i64 F, .slice A n c]] w fun e w' => e = .returned (.int .i64 50) ∧ Below w.heap.size w w' := by
  have hB := Below.al w (.cells #[.int .i64 K, .int .i64 R, .int .i64 T, .int .i64 P, .int .i64 Mo, .int .i64 Nx, .int .i64 Me, .int .i64 F, .slice A n c] 26)
  have d0 : decide (K < 1) = true := by simpa using h
  go_enter Tryd.func12, Tryd.ntmps12
  go_wp2
  go_ret
  exact ⟨rfl, hB⟩
set_option maxRecDepth 8000 in
set_option maxHeartbeats 2000000 in
theorem rcheck_high (K R T P Mo Nx Me F : Int) (A : Option Addr) (n c : Nat) (w : World) (h : 4 < K) : Calls Tryd.prog 12 #[.agg #[.int .i64 K, .int .i64 R, .int .i64 T, .int .i64 P, .int .i64 Mo, .int .i64 Nx, .int .i64 Me, .int .i64 F, .slice A n c]] w fun e w' => e = .returned (.int .i64 50) ∧ Below w.heap.size w w' := by
  have hB := Below.al w (.cells #[.int .i64 K, .int .i64 R, .int .i64 T, .int .i64 P, .int .i64 Mo, .int .i64 Nx, .int .i64 Me, .int .i64 F, .slice A n c] 26)
  have d0 : decide (K < 1) = false := by simp; omega
  have d1 : decide (4 < K) = true := by simpa using h
  go_enter Tryd.func12, Tryd.ntmps12
  go_wp2
  go_ret
  exact ⟨rfl, hB⟩
theorem rcheckF_any (f : FR) (A : Option Addr) (n c : Nat) (w : World) (hn : n = f.ds.length) : Calls Tryd.prog 12 #[.agg (f.cells A n c)] w fun e w' => e = .returned (.int .i64 (checkF f)) ∧ Below w.heap.size w w' := by
  obtain ⟨K, R, ⟨T, P, Mo, Nx, Me⟩, F, ds⟩ := f
  unfold FR.cells
  by_cases h1 : K = 1
  · subst h1; exact rcheck_1 R T P Mo Nx Me F ds A n c w hn
  · by_cases h2 : K = 2
    · subst h2; exact rcheck_2 R T P Mo Nx Me F ds A n c w hn
    · by_cases h3 : K = 3
      · subst h3; exact rcheck_3 R T P Mo Nx Me F ds A n c w hn
      · by_cases h4 : K = 4
        · subst h4; exact rcheck_4 R T P Mo Nx Me F ds A n c w hn
        · rw [checkF_no (f := ⟨K, R, ⟨T, P, Mo, Nx, Me⟩, F, ds⟩) (fun h => by have := (mayF_iff _).1 h; dsimp only at this; omega)]
          by_cases h5 : K < 1
          · exact rcheck_low K R T P Mo Nx Me F A n c w h5
          · exact rcheck_high K R T P Mo Nx Me F A n c w (by omega)
end Go.Proofs.YtcfbeelljhjnoaaDoor
