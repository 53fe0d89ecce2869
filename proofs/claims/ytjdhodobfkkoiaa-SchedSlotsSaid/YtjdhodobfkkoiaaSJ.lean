/-
  Alone of package sched and of the document: whether a span meets no other one. Condition: a row that can be read.
-/
import Derived.Test.YtjdhodobfkkoiaaSI
namespace Go.Proofs.Ytjdhodobfkkoiaa
open Go.RowKit

theorem meetsS_comm (a b : Sp) : meetsS a b = meetsS b a := by
  have h : bothS a b = bothS b a := by unfold bothS; rw [Int.max_comm, Int.min_comm]
  unfold meetsS
  rw [h, ← Bool.and_assoc, ← Bool.and_assoc, Bool.and_comm (decide (okS a))]
theorem meetsS_self (a : Sp) : meetsS a a = (decide (okS a) && decide (a.1 < a.2)) := by
  unfold meetsS bothS; dsimp only
  rw [Int.max_self, Int.min_self]
  cases decide (okS a) <;> simp
/-- Is the span i alone? -/
def aloneN (l : List Sp) (m : Nat) : Bool := meetsS (l[m]?.getD (0, 0)) (l[m]?.getD (0, 0)) && (List.range l.length).all fun k => decide (k = m) || !meetsS (l[m]?.getD (0, 0)) (l[k]?.getD (0, 0))
def aloneS (l : List Sp) (i : Int) : Bool := decide (0 ≤ i) && (decide (i < l.length) && aloneN l i.toNat)
theorem alone_hit {l : List Sp} {m k : Nat} (hk : k < l.length) (hne : k ≠ m) (h : meetsS (l[m]?.getD (0, 0)) (l[k]?.getD (0, 0)) = true) : aloneN l m = false := by
  unfold aloneN
  rw [Bool.and_eq_false_iff]
  right
  rw [List.all_eq_false]
  exact ⟨k, List.mem_range.2 hk, by simp [h, hne]⟩
theorem alone_end {l : List Sp} {m : Nat} (h0 : meetsS (l[m]?.getD (0, 0)) (l[m]?.getD (0, 0)) = true) (h : ∀ k, k < l.length → k ≠ m → meetsS (l[m]?.getD (0, 0)) (l[k]?.getD (0, 0)) = false) : aloneN l m = true := by
  unfold aloneN
  rw [h0, Bool.true_and, List.all_eq_true]
  intro k hk
  by_cases hm : k = m
  · simp [hm]
  · simp [hm, h k (List.mem_range.1 hk) hm]
theorem near_cell {w0 : World} {b o : Nat} {v : Value} (h : w0.cell? ⟨b, o, none⟩ = some v) (hb : b < w0.heap.size) : ∀ n : NearW w0, n.W.cell? ⟨b, o, none⟩ = some v := fun n => (n.h.cell (p := ⟨b, o, none⟩) hb).trans h

set_option maxRecDepth 8000 in
set_option maxHeartbeats 4000000 in
theorem alone_any (A : Option Addr) (n c : Nat) (l : List Sp) (i : Int) (w : World) (hn : n = l.length) (hm : n ≤ 60) (hA : Smps w.heap.size w A l) :
    Calls Try.prog 25 #[.slice A n c, .int .i64 i] w fun e w' => e = .returned (.bool (aloneS l i)) ∧ Below w.heap.size w w' := by
  unfold aloneS
  rw [← hn]
  by_cases h0 : i < 0
  · rw [show decide (0 ≤ i) = false by simp; omega, Bool.false_and]
    have d0 : decide (i < 0) = true := by simpa using h0
    clear h0 hA hn
    go_enter Try.func25, Try.ntmps25
    go_wp2
    refine wp_region_near (by kernel_rfl) (by kernel_rfl) ?_
    repeat (go_big_quiet_step (fail))
    refine wpQuiet_nil ?_
    rintro _ ⟨nw, rfl⟩
    go_wp2
    go_ret
    exact ⟨rfl, nw.h⟩
  rw [show decide (0 ≤ i) = true by simp; omega, Bool.true_and]
  obtain ⟨m, rfl⟩ := Int.eq_ofNat_of_zero_le (show 0 ≤ i by omega)
  have d3 : decide ((m : Int) < 0) = false := by simp
  by_cases h1 : n ≤ m
  · rw [show decide ((m : Int) < (n : Int)) = false by simp; omega, Bool.false_and]
    have d1 : decide ((n : Int) ≤ (m : Int)) = true := by simp; omega
    have d2 : decide (n ≤ m) = true := by simpa using h1
    clear hA hn h1
    go_enter Try.func25, Try.ntmps25
    go_wp2
    refine wp_region_near (by kernel_rfl) (by kernel_rfl) ?_
    repeat (go_big_quiet_step (fail))
    refine wpQuiet_nil ?_
    rintro _ ⟨nw, rfl⟩
    go_wp2
    go_ret
    exact ⟨rfl, nw.h⟩
  rw [show decide ((m : Int) < (n : Int)) = true by simp; omega, Bool.true_and, Int.toNat_natCast]
  have d1 : decide ((n : Int) ≤ (m : Int)) = false := by simp; omega
  have d2 : decide (n ≤ m) = false := by simp; omega
  have hml : m < l.length := by omega
  have hmn : m < n := by omega
  obtain ⟨b, off, rfl, hbl, hc0, hc1⟩ := hA.at_ hml
  have HN := Lib.hid hn; have HA := Lib.hid hA
  have hend := alone_end (l := l) (m := m)
  have hhit := fun (k : Nat) => alone_hit (l := l) (m := m) (k := k)
  have hself := meetsS_self (l[m]?.getD (0, 0))
  have hno : meetsS (l[m]?.getD (0, 0)) (l[m]?.getD (0, 0)) = false → aloneN l m = false := fun h => by unfold aloneN; rw [h, Bool.false_and]
  generalize aloneN l m = R at *
  generalize l[m]?.getD (0, 0) = s at *
  obtain ⟨x, y⟩ := s
  dsimp only at hc0 hc1 hself
  have HEND := Lib.hid hend; have HHIT := Lib.hid hhit; have HSELF := Lib.hid hself; have HNO := Lib.hid hno
  clear hend hhit hself hno hn hA hml h0 h1
  have N0 := near_cell hc0 hbl; have N1 := near_cell hc1 hbl
  have hme := fun (W : World) => meets_any x y x y W
  generalize hmv : meetsS (x, y) (x, y) = mv at *
  have HME := Lib.hid hme; clear hme
  cases mv with
  | false =>
    have hr : R = false := HNO.out rfl
    subst hr
    clear HEND HHIT HSELF hmv HNO
    go_enter Try.func25, Try.ntmps25
    go_wp2
    refine wp_region_near (by kernel_rfl) (by kernel_rfl) ?_
    repeat (go_big_quiet_step (first
      | (go_at_call 14; with_reducible exact near_call (HME.out _))))
    refine wpQuiet_nil ?_
    rintro _ ⟨nw, rfl⟩
    go_wp2
    go_ret
    exact ⟨rfl, nw.h⟩
  | true =>
    have HMV := Lib.hid hmv; clear hmv
    go_enter Try.func25, Try.ntmps25
    go_wp2
    refine wp_region_near (by kernel_rfl) (by kernel_rfl) ?_
    repeat (go_big_quiet_step (first
      | (go_at_call 14; with_reducible exact near_call (HME.out _))))
    refine wpQuiet_nil ?_
    rintro _ ⟨nw, rfl⟩
    go_wp2
    have bw := nw.h
    generalize nw.W = w1 at *
    go_loopw [29] (fun i wr => ∃ k : Nat, k ≤ n ∧ i = .int .i64 k ∧ (∀ j, j < k → j ≠ m → meetsS (x, y) (l[j]?.getD (0, 0)) = false) ∧ Below w.heap.size w wr)
      (fun i _ => n - (intOf i).toNat)
    case atStart => exact ⟨0, by omega, rfl, fun j h => absurd h (by omega), bw⟩
    case round =>
      obtain ⟨k, hk, rfl, hall, bc⟩ := hrel
      have HALL := Lib.hid hall; clear hall
      by_cases hlt : k < n
      · have hkl : k < l.length := by have := HN.out; omega
        obtain ⟨b', off', hbb, hbl', hd0, hd1⟩ := (HA.out.below bc).at_ hkl
        injection hbb with hbb
        injection hbb with hb1 hb2
        subst hb1; subst hb2
        have hbs : b < wr.heap.size := Nat.lt_of_lt_of_le hbl bc.size
        have a0 := (bc.cell (p := ⟨b, off + m * 2, none⟩) hbl).trans hc0
        have a1 := (bc.cell (p := ⟨b, off + m * 2 + 1, none⟩) hbl).trans hc1
        have hhit2 := HHIT.out k hkl
        have hstep : ∀ (h : k ≠ m → meetsS (x, y) (l[k]?.getD (0, 0)) = false), ∀ j, j < k + 1 → j ≠ m → meetsS (x, y) (l[j]?.getD (0, 0)) = false := fun h j hj hne => by
          rcases Nat.lt_or_ge j k with h2 | h2
          · exact HALL.out j h2 hne
          · obtain rfl : j = k := by omega
            exact h hne
        generalize l[k]?.getD (0, 0) = s at *
        obtain ⟨u, v⟩ := s
        dsimp only at hd0 hd1
        have HST := Lib.hid hstep; have HH2 := Lib.hid hhit2; clear hstep hhit2 hkl
        clear N0 N1
        by_cases hkm : k = m
        · subst hkm
          have hst := HST.out (fun h => absurd rfl h)
          have HST2 := Lib.hid hst; clear hst HH2
          have dk : ((k : Int) != (k : Int)) = false := by simp
          go_wp2
          refine wp_region_near (by kernel_rfl) (by kernel_rfl) ?_
          repeat (go_big_quiet_step (fail))
          refine wpQuiet_nil ?_
          rintro _ ⟨nw, rfl⟩
          go_wp2
          go_roundw
          case rel => exact ⟨k + 1, by omega, by go_num, HST2.out, (bc.trans ((Below.al wr (.cells #[.int .i64 u, .int .i64 v] 23)).mono bc.size)).trans (nw.h.mono (Nat.le_trans bc.size (Below.al wr _).size))⟩
          case measure => simp [intOf]; omega
        · have hme := fun (W : World) => meets_any x y u v W
          have dk : ((k : Int) != (m : Int)) = true := by simp; omega
          have N0 := near_cell a0 hbs; have N1 := near_cell a1 hbs
          have kx := Blk.new wr 23 #[.int .i64 u, .int .i64 v]
          have alx := Below.al wr (.cells #[.int .i64 u, .int .i64 v] 23)
          obtain ⟨M0, M1⟩ := near_two kx
          have N0 := near_cell ((alx.cell (p := ⟨b, off + m * 2, none⟩) hbs).trans a0) (Nat.lt_of_lt_of_le hbs alx.size); have N1 := near_cell ((alx.cell (p := ⟨b, off + m * 2 + 1, none⟩) hbs).trans a1) (Nat.lt_of_lt_of_le hbs alx.size)
          have BX := Lib.hid (bc.trans (alx.mono bc.size)); clear kx alx
          generalize hmv : meetsS (x, y) (u, v) = mv at *
          have HMK := Lib.hid hme; clear hme
          cases mv with
          | true =>
            have hr : R = false := HH2.out hkm rfl
            subst hr
            have HKM := Lib.hid hkm; clear hkm hmv
            go_wp2
            refine wp_region_near (by kernel_rfl) (by kernel_rfl) ?_
            repeat (go_big_quiet_step (first
              | (go_at_call 14; with_reducible exact near_call (HMK.out _))))
            refine wpQuiet_nil ?_
            rintro _ ⟨nw, rfl⟩
            go_wp2
            go_ret
            exact ⟨rfl, BX.out.trans (nw.h.mono BX.out.size)⟩
          | false =>
            have hst := HST.out (fun _ => rfl)
            have HST2 := Lib.hid hst; have HKM := Lib.hid hkm; clear hst hkm hmv
            go_wp2
            refine wp_region_near (by kernel_rfl) (by kernel_rfl) ?_
            repeat (go_big_quiet_step (first
              | (go_at_call 14; with_reducible exact near_call (HMK.out _))))
            refine wpQuiet_nil ?_
            rintro _ ⟨nw, rfl⟩
            go_wp2
            go_roundw
            case rel => exact ⟨k + 1, by omega, by go_num, HST2.out, BX.out.trans (nw.h.mono BX.out.size)⟩
            case measure => simp [intOf]; omega
      · obtain rfl : k = n := by omega
        have hr : R = true := HEND.out trivial (fun j hj hne => HALL.out j (by have := HN.out; omega) hne)
        subst hr
        clear N0 N1
        go_wp2
        go_ret
        exact ⟨rfl, bc⟩

set_option maxRecDepth 8000 in
set_option maxHeartbeats 4000000 in
theorem ralone_any (A : Option Addr) (n c : Nat) (l : List Sp) (i : Int) (w : World) (hn : n = l.length) (hm : n ≤ 60) (hA : Smps w.heap.size w A l) :
    Calls Try.prog 26 #[.slice A n c, .int .i64 i] w fun e w' => e = .returned (.bool (aloneS l i)) ∧ Below w.heap.size w w' := by
  unfold aloneS
  rw [← hn]
  by_cases h0 : i < 0
  · rw [show decide (0 ≤ i) = false by simp; omega, Bool.false_and]
    have d0 : decide (i < 0) = true := by simpa using h0
    clear h0 hA hn
    go_enter Try.func26, Try.ntmps26
    go_wp2
    refine wp_region_near (by kernel_rfl) (by kernel_rfl) ?_
    repeat (go_big_quiet_step (fail))
    refine wpQuiet_nil ?_
    rintro _ ⟨nw, rfl⟩
    go_wp2
    go_ret
    exact ⟨rfl, nw.h⟩
  rw [show decide (0 ≤ i) = true by simp; omega, Bool.true_and]
  obtain ⟨m, rfl⟩ := Int.eq_ofNat_of_zero_le (show 0 ≤ i by omega)
  have d3 : decide ((m : Int) < 0) = false := by simp
  by_cases h1 : n ≤ m
  · rw [show decide ((m : Int) < (n : Int)) = false by simp; omega, Bool.false_and]
    have d1 : decide ((n : Int) ≤ (m : Int)) = true := by simp; omega
    have d2 : decide (n ≤ m) = true := by simpa using h1
    clear hA hn h1
    go_enter Try.func26, Try.ntmps26
    go_wp2
    refine wp_region_near (by kernel_rfl) (by kernel_rfl) ?_
    repeat (go_big_quiet_step (fail))
    refine wpQuiet_nil ?_
    rintro _ ⟨nw, rfl⟩
    go_wp2
    go_ret
    exact ⟨rfl, nw.h⟩
  rw [show decide ((m : Int) < (n : Int)) = true by simp; omega, Bool.true_and, Int.toNat_natCast]
  have d1 : decide ((n : Int) ≤ (m : Int)) = false := by simp; omega
  have d2 : decide (n ≤ m) = false := by simp; omega
  have hml : m < l.length := by omega
  have hmn : m < n := by omega
  obtain ⟨b, off, rfl, hbl, hc0, hc1⟩ := hA.at_ hml
  have HN := Lib.hid hn; have HA := Lib.hid hA
  have hend := alone_end (l := l) (m := m)
  have hhit := fun (k : Nat) => alone_hit (l := l) (m := m) (k := k)
  have hself := meetsS_self (l[m]?.getD (0, 0))
  have hno : meetsS (l[m]?.getD (0, 0)) (l[m]?.getD (0, 0)) = false → aloneN l m = false := fun h => by unfold aloneN; rw [h, Bool.false_and]
  generalize aloneN l m = R at *
  generalize l[m]?.getD (0, 0) = s at *
  obtain ⟨x, y⟩ := s
  dsimp only at hc0 hc1 hself
  have HEND := Lib.hid hend; have HHIT := Lib.hid hhit; have HSELF := Lib.hid hself; have HNO := Lib.hid hno
  clear hend hhit hself hno hn hA hml h0 h1
  have N0 := near_cell hc0 hbl; have N1 := near_cell hc1 hbl
  have hck := fun (W : World) => rscheck_any x y W
  simp only [chkS_if] at hck
  by_cases hok : okS (x, y)
  case neg =>
    simp only [hok, if_false] at hck
    have hr : R = false := HNO.out (by rw [HSELF.out, decide_eq_false hok, Bool.false_and])
    subst hr
    have HCK := Lib.hid hck; clear hck hok HEND HHIT HSELF HNO
    go_enter Try.func26, Try.ntmps26
    go_wp2
    refine wp_region_near (by kernel_rfl) (by kernel_rfl) ?_
    repeat (go_big_quiet_step (first
      | (go_at_call 13; with_reducible exact near_call (HCK.out _))))
    refine wpQuiet_nil ?_
    rintro _ ⟨nw, rfl⟩
    go_wp2
    go_ret
    exact ⟨rfl, nw.h⟩
  simp only [hok, if_true] at hck
  have HCK := Lib.hid hck; clear hck
  by_cases hxy : x = y
  · subst hxy
    have hr : R = false := HNO.out (by rw [HSELF.out]; simp)
    subst hr
    clear hok HEND HHIT HSELF HNO
    go_enter Try.func26, Try.ntmps26
    go_wp2
    refine wp_region_near (by kernel_rfl) (by kernel_rfl) ?_
    repeat (go_big_quiet_step (first
      | (go_at_call 13; with_reducible exact near_call (HCK.out _))))
    refine wpQuiet_nil ?_
    rintro _ ⟨nw, rfl⟩
    go_wp2
    go_ret
    exact ⟨rfl, nw.h⟩
  · have hmv : meetsS (x, y) (x, y) = true := by
      rw [HSELF.out, decide_eq_true hok, Bool.true_and]
      unfold okS at hok; dsimp only at hok
      simp; omega
    have dxy : decide (x = y) = false := by simpa using hxy
    have bxy : (x == y) = false := by simpa using hxy
    have HMV := Lib.hid hmv; clear hmv hok hxy HSELF HNO
    go_enter Try.func26, Try.ntmps26
    go_wp2
    refine wp_region_near (by kernel_rfl) (by kernel_rfl) ?_
    repeat (go_big_quiet_step (first
      | (go_at_call 13; with_reducible exact near_call (HCK.out _))))
    refine wpQuiet_nil ?_
    rintro _ ⟨nw, rfl⟩
    go_wp2
    have bw := nw.h
    generalize nw.W = w1 at *
    go_loopw [5] (fun i wr => ∃ k : Nat, k ≤ n ∧ i = .int .i64 k ∧ (∀ j, j < k → j ≠ m → meetsS (x, y) (l[j]?.getD (0, 0)) = false) ∧ Below w.heap.size w wr)
      (fun i _ => n - (intOf i).toNat)
    case atStart => exact ⟨0, by omega, rfl, fun j h => absurd h (by omega), bw⟩
    case round =>
      obtain ⟨k, hk, rfl, hall, bc⟩ := hrel
      have HALL := Lib.hid hall; clear hall
      by_cases hlt : k < n
      · have hkl : k < l.length := by have := HN.out; omega
        obtain ⟨b', off', hbb, hbl', hd0, hd1⟩ := (HA.out.below bc).at_ hkl
        injection hbb with hbb
        injection hbb with hb1 hb2
        subst hb1; subst hb2
        have hbs : b < wr.heap.size := Nat.lt_of_lt_of_le hbl bc.size
        have a0 := (bc.cell (p := ⟨b, off + m * 2, none⟩) hbl).trans hc0
        have a1 := (bc.cell (p := ⟨b, off + m * 2 + 1, none⟩) hbl).trans hc1
        have hhit2 := HHIT.out k hkl
        have hstep : ∀ (h : k ≠ m → meetsS (x, y) (l[k]?.getD (0, 0)) = false), ∀ j, j < k + 1 → j ≠ m → meetsS (x, y) (l[j]?.getD (0, 0)) = false := fun h j hj hne => by
          rcases Nat.lt_or_ge j k with h2 | h2
          · exact HALL.out j h2 hne
          · obtain rfl : j = k := by omega
            exact h hne
        generalize l[k]?.getD (0, 0) = s at *
        obtain ⟨u, v⟩ := s
        dsimp only at hd0 hd1
        have HST := Lib.hid hstep; have HH2 := Lib.hid hhit2; clear hstep hhit2 hkl
        clear N0 N1
        by_cases hkm : k = m
        · subst hkm
          have hst := HST.out (fun h => absurd rfl h)
          have HST2 := Lib.hid hst; clear hst HH2
          have dk : ((k : Int) != (k : Int)) = false := by simp
          go_wp2
          refine wp_region_near (by kernel_rfl) (by kernel_rfl) ?_
          repeat (go_big_quiet_step (fail))
          refine wpQuiet_nil ?_
          rintro _ ⟨nw, rfl⟩
          go_wp2
          go_roundw
          case rel => exact ⟨k + 1, by omega, by go_num, HST2.out, bc.trans (nw.h.mono bc.size)⟩
          case measure => simp [intOf]; omega
        · have hme := fun (W : World) => rmeets_any u v x y W
          have dk : ((k : Int) != (m : Int)) = true := by simp; omega
          have N0 := near_cell a0 hbs; have N1 := near_cell a1 hbs
          have M0 := near_cell hd0 hbs; have M1 := near_cell hd1 hbs
          generalize hmv : meetsS (u, v) (x, y) = mv at *
          have HMK := Lib.hid hme; clear hme
          cases mv with
          | true =>
            have hr : R = false := HH2.out hkm (by rw [meetsS_comm]; exact hmv)
            subst hr
            have HKM := Lib.hid hkm; clear hkm hmv
            go_wp2
            refine wp_region_near (by kernel_rfl) (by kernel_rfl) ?_
            repeat (go_big_quiet_step (first
              | (go_at_call 15; with_reducible exact near_call (HMK.out _))))
            refine wpQuiet_nil ?_
            rintro _ ⟨nw, rfl⟩
            go_wp2
            go_ret
            exact ⟨rfl, bc.trans (nw.h.mono bc.size)⟩
          | false =>
            have hst := HST.out (fun _ => by rw [meetsS_comm]; exact hmv)
            have HST2 := Lib.hid hst; have HKM := Lib.hid hkm; clear hst hkm hmv
            go_wp2
            refine wp_region_near (by kernel_rfl) (by kernel_rfl) ?_
            repeat (go_big_quiet_step (first
              | (go_at_call 15; with_reducible exact near_call (HMK.out _))))
            refine wpQuiet_nil ?_
            rintro _ ⟨nw, rfl⟩
            go_wp2
            go_roundw
            case rel => exact ⟨k + 1, by omega, by go_num, HST2.out, bc.trans (nw.h.mono bc.size)⟩
            case measure => simp [intOf]; omega
      · obtain rfl : k = n := by omega
        have hr : R = true := HEND.out HMV.out (fun j hj hne => HALL.out j (by have := HN.out; omega) hne)
        subst hr
        clear N0 N1
        go_wp2
        go_ret
        exact ⟨rfl, bc⟩
end Go.Proofs.Ytjdhodobfkkoiaa
