/-
  Small functions of package medl: what lies beyond two bounds, how many truths hold, whether those hold of which others do, the least numbers that Check takes; and slices.ContainsFunc over numbers. Conditions: those that each theorem names.
-/
import Derived.Test.YtlkmipcenlhacaaMA
namespace Go.Proofs.Ytlkmipcenlhacaa
open Go.RowKit

/-- Beyond two bounds? -/
def beyondS (lo hi n : Int) : Bool := decide (n < lo) || decide (hi < n)
theorem beyond_iff (lo hi n : Int) : beyondS lo hi n = false ↔ lo ≤ n ∧ n ≤ hi := by unfold beyondS; simp
set_option maxRecDepth 4000 in
set_option maxHeartbeats 400000 in
theorem beyond_any (a b : Int) (w : World) : Calls Try.prog 45 #[.int .i64 a, .int .i64 b] w fun e w' =>
    ∃ g, e = .returned (.func (.func 58) #[] #[.pointer (some ⟨g, 0, none⟩), .pointer (some ⟨g + 1, 0, none⟩)]) ∧ w.heap.size ≤ g ∧ Blk w' g 3 #[.int .i64 a] ∧ Blk w' (g + 1) 3 #[.int .i64 b] ∧ Below w.heap.size w w' := by
  obtain ⟨k1, k2, bc⟩ := bx2 w #[.int .i64 a] #[.int .i64 b] 3 3
  go_enter Try.func45, Try.ntmps45
  go_wp2
  go_ret
  exact ⟨w.heap.size, rfl, Nat.le_refl _, k1, k2, bc⟩
set_option maxRecDepth 4000 in
set_option maxHeartbeats 400000 in
theorem beyond1_any (lo hi n : Int) (g : Nat) (w : World) (h1 : Blk w g 3 #[.int .i64 lo]) (h2 : Blk w (g + 1) 3 #[.int .i64 hi]) :
    Calls Try.prog 58 #[.int .i64 n, .pointer (some ⟨g, 0, none⟩), .pointer (some ⟨g + 1, 0, none⟩)] w fun e w' => e = .returned (.bool (beyondS lo hi n)) ∧ w = w' := by
  obtain ⟨c1, f1⟩ := h1.one
  obtain ⟨c2, f2⟩ := h2.one
  unfold beyondS
  by_cases c : n < lo
  · have d : decide (n < lo) = true := by simpa using c
    go_enter Try.func58, Try.ntmps58
    go_wp2
    go_ret
    simp [c]
  · have d : decide (n < lo) = false := by simpa using c
    go_enter Try.func58, Try.ntmps58
    go_wp2
    go_ret
    simp

/-- Is one beyond, of the first k? -/
theorem any_snoc (p : Int → Bool) (l : List Int) (k : Nat) (h : k < l.length) : (l.take (k + 1)).any p = ((l.take k).any p || p (l[k]?.getD 0)) := by
  rw [int_at l k h, List.any_append]; simp
theorem any_from (p : Int → Bool) (l : List Int) (k : Nat) (h : k < l.length) (hp : p (l[k]?.getD 0) = true) : l.any p = true := by
  rw [List.any_eq_true]
  refine ⟨l[k], List.getElem_mem h, ?_⟩
  rw [List.getElem?_eq_getElem h] at hp; exact hp
set_option maxRecDepth 4000 in
set_option maxHeartbeats 1000000 in
theorem indexI_any (A : Option Addr) (n c : Nat) (l : List Int) (lo hi : Int) (g : Nat) (w : World) (hn : n = l.length) (hm : n ≤ maxLen) (hA : Ints w.heap.size w A l) (h1 : Blk w g 3 #[.int .i64 lo]) (h2 : Blk w (g + 1) 3 #[.int .i64 hi]) :
    Calls Try.prog 69 #[.slice A n c, .func (.func 58) #[] #[.pointer (some ⟨g, 0, none⟩), .pointer (some ⟨g + 1, 0, none⟩)]] w fun e w' => ∃ r, e = .returned (.int .i64 r) ∧ decide (0 ≤ r) = l.any (beyondS lo hi) ∧ w = w' := by
  have hb := fun x => beyond1_any lo hi x g w h1 h2
  have HB := Lib.hid hb
  have HA := Lib.hid hA
  have HN := Lib.hid hn; clear hn hA hb h1 h2
  unfold maxLen at hm
  go_enter Try.func69, Try.ntmps69
  go_wp2
  go_loopw [5, 8] (fun _ i wr => ∃ k : Nat, k ≤ n ∧ i = .int .i64 k ∧ (l.take k).any (beyondS lo hi) = false ∧ wr = w) (fun _ i _ => n - (intOf i).toNat)
  case atStart => exact ⟨0, by omega, rfl, rfl, rfl⟩
  case round =>
    obtain ⟨k, hk, rfl, hno, rfl⟩ := hrel
    have HNO := Lib.hid hno; clear hno
    by_cases hlt : k < n
    · have hkl : k < l.length := by have := HN.out; omega
      have HKL := Lib.hid hkl; clear hkl
      obtain ⟨b, off, rfl, hbl, hcell⟩ := HA.out.at_ (k := k) HKL.out
      have hs := any_snoc (beyondS lo hi) l k HKL.out
      rw [HNO.out] at hs
      have hf := any_from (beyondS lo hi) l k HKL.out
      have HS := Lib.hid hs; have HF := Lib.hid hf; clear hs hf
      have hbk := HB.out (l[k]?.getD 0)
      obtain ⟨y, hy⟩ : ∃ y, y = l[k]?.getD 0 := ⟨_, rfl⟩
      rw [← hy] at hcell hbk
      have HY := Lib.hid hy; clear hy
      obtain ⟨q, hq⟩ : ∃ q, q = beyondS lo hi y := ⟨_, rfl⟩
      rw [← hq] at hbk
      have HQ := Lib.hid hq; clear hq
      have HBK := Lib.hid hbk; clear hbk
      cases q with
      | true =>
        go_wp2_with (go_at_call 58; refine HBK.out.mono ?_; rintro e w3 ⟨rfl, rfl⟩)
        go_ret
        exact ⟨_, rfl, by rw [HF.out (by rw [← HY.out, ← HQ.out])]; simp, rfl⟩
      | false =>
        go_wp2_with (go_at_call 58; refine HBK.out.mono ?_; rintro e w3 ⟨rfl, rfl⟩)
        go_roundw
        case rel => exact ⟨k + 1, by omega, by go_num, by rw [HS.out, ← HY.out, ← HQ.out]; rfl, by trivial⟩
        case measure => simp [intOf]; omega
    · go_wp2
      go_ret
      have h3 := HNO.out
      rw [List.take_of_length_le (by have := HN.out; omega)] at h3
      exact ⟨_, rfl, by rw [h3]; decide, rfl⟩
set_option maxRecDepth 4000 in
set_option maxHeartbeats 1000000 in
theorem containsI_any (A : Option Addr) (n c : Nat) (l : List Int) (lo hi : Int) (g : Nat) (w : World) (hn : n = l.length) (hm : n ≤ maxLen) (hA : Ints w.heap.size w A l) (h1 : Blk w g 3 #[.int .i64 lo]) (h2 : Blk w (g + 1) 3 #[.int .i64 hi]) :
    Calls Try.prog 61 #[.slice A n c, .func (.func 58) #[] #[.pointer (some ⟨g, 0, none⟩), .pointer (some ⟨g + 1, 0, none⟩)]] w fun e w' => e = .returned (.bool (l.any (beyondS lo hi))) ∧ w = w' := by
  have hc := indexI_any A n c l lo hi g w hn hm hA h1 h2
  have HC := Lib.hid hc; clear hc hA h1 h2 hn
  go_enter Try.func61, Try.ntmps61
  go_wp2_with (go_at_call 69; refine HC.out.mono ?_; rintro e w3 ⟨r, rfl, hr, rfl⟩)
  go_ret
  rw [← hr]
  exact ⟨rfl, rfl⟩

set_option maxRecDepth 4000 in
set_option maxHeartbeats 1000000 in
theorem holding_any (A : Option Addr) (n c : Nat) (l : List Bool) (w : World) (hn : n = l.length) (hm : n ≤ maxLen) (hA : Bools w.heap.size w A l) :
    Calls Try.prog 46 #[.slice A n c] w fun e w' => e = .returned (.int .i64 (trues l)) ∧ w = w' := by
  have HA := Lib.hid hA
  have HN := Lib.hid hn; clear hn hA
  unfold maxLen at hm
  go_enter Try.func46, Try.ntmps46
  go_wp2
  go_loopw [3, 5, 8] (fun v _ i wr => ∃ k t : Nat, k ≤ n ∧ t ≤ k ∧ i = .int .i64 k ∧ v = .int .i64 t ∧ trues (l.take k) = t ∧ wr = w) (fun _ _ i _ => n - (intOf i).toNat)
  case atStart => exact ⟨0, 0, by omega, by omega, rfl, rfl, rfl, rfl⟩
  case round =>
    obtain ⟨k, t, hk, ht, rfl, rfl, hts, rfl⟩ := hrel
    have HT := Lib.hid hts; clear hts
    by_cases hlt : k < n
    · have hkl : k < l.length := by have := HN.out; omega
      have HKL := Lib.hid hkl; clear hkl
      obtain ⟨b, off, rfl, hbl, hcell⟩ := HA.out.at_ (k := k) HKL.out
      have hs := trues_snoc (l.take k) (l[k]?.getD false)
      rw [← bool_at l k HKL.out, HT.out] at hs
      by_cases hb : l[k]?.getD false = true
      · rw [hb] at hcell hs
        have HS := Lib.hid hs; clear hs hb
        go_wp2
        go_roundw
        case rel => exact ⟨k + 1, t + 1, by omega, by omega, by go_num, by go_num, by rw [HS.out]; rfl, by trivial⟩
        case measure => simp [intOf]; omega
      · rw [Bool.not_eq_true] at hb
        rw [hb] at hcell hs
        have HS := Lib.hid hs; clear hs hb
        go_wp2
        go_roundw
        case rel => exact ⟨k + 1, t, by omega, by omega, by go_num, rfl, by rw [HS.out]; rfl, by trivial⟩
        case measure => simp [intOf]; omega
    · go_wp2
      go_ret
      have h3 := HT.out
      rw [List.take_of_length_le (by have := HN.out; omega)] at h3
      exact ⟨by rw [h3]; rfl, rfl⟩

theorem with_snoc (x cold : List Bool) (k : Nat) : (List.range (k + 1)).all (fun i => !(cold[i]?.getD false) || x[i]?.getD false) = ((List.range k).all (fun i => !(cold[i]?.getD false) || x[i]?.getD false) && (!(cold[k]?.getD false) || x[k]?.getD false)) := by
  rw [List.range_succ, List.all_append]; simp
theorem with_not (x cold : List Bool) (k : Nat) (h : k < cold.length) (h1 : cold[k]?.getD false = true) (h2 : x[k]?.getD false = false) : withCold x cold = false := by
  unfold withCold
  rw [List.all_eq_false]
  exact ⟨k, List.mem_range.2 h, by rw [h1, h2]; decide⟩
set_option maxRecDepth 4000 in
set_option maxHeartbeats 1000000 in
theorem holdsWith_any (A B : Option Addr) (n c m d : Nat) (x cold : List Bool) (w : World) (hn : n = x.length) (hm : m = cold.length) (hmm : m ≤ maxLen) (hnm : n = m) (hA : Bools w.heap.size w A x) (hB : Bools w.heap.size w B cold) :
    Calls Try.prog 62 #[.slice A n c, .slice B m d] w fun e w' => e = .returned (.bool (withCold x cold)) ∧ w = w' := by
  have HA := Lib.hid hA; have HB := Lib.hid hB
  have HN := Lib.hid hn; have HM := Lib.hid hm; clear hn hA hB hm
  unfold maxLen at hmm
  go_enter Try.func62, Try.ntmps62
  go_wp2
  go_loopw [5, 6, 9] (fun _ _ i wr => ∃ k : Nat, k ≤ m ∧ i = .int .i64 k ∧ (List.range k).all (fun i => !(cold[i]?.getD false) || x[i]?.getD false) = true ∧ wr = w) (fun _ _ i _ => m - (intOf i).toNat)
  case atStart => exact ⟨0, by omega, rfl, rfl, rfl⟩
  case round =>
    obtain ⟨k, hk, rfl, hts, rfl⟩ := hrel
    have HT := Lib.hid hts; clear hts
    by_cases hlt : k < m
    · have hkl : k < cold.length := by have := HM.out; omega
      have hkx : k < x.length := by have := HN.out; omega
      have HKL := Lib.hid hkl; have HKX := Lib.hid hkx; clear hkl hkx
      obtain ⟨b, off, rfl, hbl, hcell⟩ := HB.out.at_ (k := k) HKL.out
      obtain ⟨b2, off2, rfl, hbl2, hcell2⟩ := HA.out.at_ (k := k) HKX.out
      have hs := with_snoc x cold k
      rw [HT.out] at hs
      have hno := with_not x cold k HKL.out
      generalize cold[k]?.getD false = p at *
      generalize x[k]?.getD false = q at *
      have hkn : k < n := by omega
      cases p with
      | true =>
        cases q with
        | true =>
          have HS := Lib.hid hs; clear hs hno
          go_wp2
          go_roundw
          case rel => exact ⟨k + 1, by omega, by go_num, by rw [HS.out]; rfl, by trivial⟩
          case measure => simp [intOf]; omega
        | false =>
          have HO := Lib.hid (hno rfl rfl); clear hs hno
          go_wp2
          go_ret
          exact ⟨by rw [HO.out]; rfl, rfl⟩
      | false =>
        have HS := Lib.hid hs; clear hs hno
        go_wp2
        go_roundw
        case rel => exact ⟨k + 1, by omega, by go_num, by rw [HS.out]; rfl, by trivial⟩
        case measure => simp [intOf]; omega
    · go_wp2
      go_ret
      have h3 := HT.out
      have : k = cold.length := by have := HM.out; omega
      subst this
      exact ⟨by unfold withCold; rw [h3]; rfl, rfl⟩
end Go.Proofs.Ytlkmipcenlhacaa
