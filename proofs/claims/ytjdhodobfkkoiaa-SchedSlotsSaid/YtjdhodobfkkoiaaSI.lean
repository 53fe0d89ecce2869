/-
  Norm of the document, and Total of both: spans put together, and how long they are. Condition: a row that can be read, of up to 60 spans.
-/
import Derived.Test.YtjdhodobfkkoiaaSH
namespace Go.Proofs.Ytjdhodobfkkoiaa
open Go.RowKit

theorem norm_yes {l : List Sp} {k : Nat} {x : Sp} (h : k < l.length) (hx : l[k]?.getD (0, 0) = x) (c : x.1 < x.2) : normS (l.take (k + 1)) = insS (normS (l.take k)) x := by
  unfold normS; rw [full_yes h hx c, List.foldl_append]; rfl
theorem norm_no {l : List Sp} {k : Nat} {x : Sp} (h : k < l.length) (hx : l[k]?.getD (0, 0) = x) (c : ¬ x.1 < x.2) : normS (l.take (k + 1)) = normS (l.take k) := by
  unfold normS; rw [full_no h hx c]
theorem norm_len (l : List Sp) (k : Nat) : (normS (l.take k)).length ≤ k := by
  have := norm_length (l.take k)
  rw [List.length_take] at this; omega

set_option maxRecDepth 8000 in
set_option maxHeartbeats 4000000 in
theorem rnorm_any (A : Option Addr) (n c : Nat) (l : List Sp) (w : World) (hn : n = l.length) (hm : n ≤ 60) (hA : Smps w.heap.size w A l) :
    Calls Try.prog 21 #[.slice A n c] w (ResN w (normR l)) := by
  obtain ⟨RR, hRR⟩ : ∃ RR, RR = normR l := ⟨_, rfl⟩
  rw [← hRR]
  have HRR := Lib.hid hRR; clear hRR
  have HN := Lib.hid hn; have HA := Lib.hid hA
  clear hn hA
  have HCK := Lib.hid (fun (x y : Int) (W : World) => rscheck_any x y W)
  go_enter Try.func21, Try.ntmps21
  go_wp2
  go_loopw [5] (fun i wr => ∃ k : Nat, k ≤ n ∧ i = .int .i64 k ∧ (∀ s ∈ l.take k, okS s) ∧ Below w.heap.size w wr)
    (fun i _ => n - (intOf i).toNat)
  case atStart => exact ⟨0, by omega, rfl, fun s h => by simp at h, Below.refl _ _⟩
  case round =>
    obtain ⟨k, hk, rfl, hok, bc⟩ := hrel
    have HOK := Lib.hid hok; clear hok
    by_cases hlt : k < n
    · have hkl : k < l.length := by have := HN.out; omega
      obtain ⟨b, off, rfl, hbl, hc0, hc1⟩ := (HA.out.below bc).at_ hkl
      have hbs : b < wr.heap.size := Nat.lt_of_lt_of_le hbl bc.size
      obtain ⟨x, hx⟩ : ∃ x, l[k]?.getD (0, 0) = x := ⟨_, rfl⟩
      rw [hx] at hc0 hc1
      have hom := ok_more hkl hx HOK.out
      have hno := normR_no hkl hx
      obtain ⟨u, v⟩ := x
      dsimp only at hc0 hc1
      have HOM := Lib.hid hom; have HNO := Lib.hid hno
      clear hom hno hkl hx
      have hck := HCK.out u v
      simp only [chkS_if] at hck
      by_cases hx : okS (u, v)
      · simp only [hx, if_true] at hck
        have ho := HOM.out hx
        have HCK2 := Lib.hid hck; have HO := Lib.hid ho; clear hck ho hx
        go_wp2_with fail
        refine (HCK2.out _).mono ?_
        rintro e w2 ⟨rfl, hC⟩
        dsimp only
        replace bc := bc.trans (hC.mono bc.size)
        clear hC
        go_wp2
        go_roundw
        case rel => exact ⟨k + 1, by omega, by go_num, HO.out, bc⟩
        case measure => simp [intOf]; omega
      · simp only [hx, if_false] at hck
        have hr : RR = (60, []) := by rw [HRR.out]; exact HNO.out hx
        subst hr
        have HCK2 := Lib.hid hck; clear hck hx
        go_wp2_with fail
        refine (HCK2.out _).mono ?_
        rintro e w2 ⟨rfl, hC⟩
        dsimp only
        replace bc := bc.trans (hC.mono bc.size)
        go_wp2
        go_ret2
        exact ⟨_, rfl, World.ownsRow_nil _ _ _ _, bc⟩
    · obtain rfl : k = n := by omega
      have htk : l.take k = l := List.take_of_length_le (by have := HN.out; omega)
      have hok2 := HOK.out
      rw [htk] at hok2
      have hr : RR = (0, normS l) := by rw [HRR.out]; exact normR_yes hok2
      subst hr
      clear htk hok2 HOK HRR
      have BC := Lib.hid bc; clear bc
      go_wp2
      go_loopw [4, 6] (fun ov i w2 => ∃ j : Nat, j ≤ k ∧ i = .int .i64 j ∧ w2.ownsRow w.heap.size 23 2 ov (normS (l.take j)).length (cellsS (normS (l.take j))) ∧ Below w.heap.size w w2)
        (fun _ i _ => k - (intOf i).toNat)
      case atStart => exact ⟨0, by omega, rfl, World.ownsRow_nil _ _ _ _, BC.out⟩
      case round =>
        obtain ⟨j, hj, rfl, hrow, bc⟩ := hrel
        have hjn := norm_len l j
        by_cases hlt2 : j < k
        · have hkl : j < l.length := by have := HN.out; omega
          obtain ⟨b, off, rfl, hbl, hc0, hc1⟩ := (HA.out.below bc).at_ hkl
          have hbs : b < wr.heap.size := Nat.lt_of_lt_of_le hbl bc.size
          obtain ⟨x, hx⟩ : ∃ x, l[j]?.getD (0, 0) = x := ⟨_, rfl⟩
          rw [hx] at hc0 hc1
          have hfy := norm_yes hkl hx
          have hfn := norm_no hkl hx
          have hnn := norm_normal (l.take j)
          obtain ⟨u, v⟩ := x
          dsimp only at hc0 hc1 hfy hfn
          generalize normS (l.take j) = fl at *
          have HFY := Lib.hid hfy; have HFN := Lib.hid hfn
          clear hfy hfn hkl hx
          obtain ⟨OA, oc, hov, -, -, hOS⟩ := spans_of_own hrow
          by_cases huv : u < v
          · have d1 : decide (u < v) = true := by simpa using huv
            have hf := HFY.out huv
            have hin := fun (W : World) (h : Below wr.heap.size wr W) => rins_any OA fl.length oc fl u v W rfl (by omega) (hOS.on h) hnn huv
            generalize insS fl (u, v) = fi at *
            have HF := Lib.hid hf; have HIN := Lib.hid hin; have BX := Lib.hid bc; clear hf hin hOS hnn hrow bc
            obtain ⟨U, hU⟩ : ∃ U, U = (.bool true : Value) := ⟨_, rfl⟩
            subst hov
            clear U hU
            go_wp2
            go_quiet (fail)
            go_wp2_with fail
            refine (HIN.out _ (below_drewN (Below.refl _ _) _)).mono ?_
            rintro e w3 ⟨v3, rfl, hown3, hC⟩
            dsimp only
            go_wp2
            go_roundw
            case rel =>
              refine ⟨j + 1, by omega, by go_num, ?_, BX.out.trans ((show Below w.heap.size wr w3 from (below_drewN (Below.refl _ _) _ : Below w.heap.size wr _).trans (hC.mono BX.out.size)))⟩
              rw [HF.out]; exact own_mono hown3 BX.out.size
            case measure => simp [intOf]; omega
          · have d1 : decide (u < v) = false := by simpa using huv
            have hf := HFN.out (by omega)
            have HF := Lib.hid hf; clear hf hOS hnn hov
            go_wp2
            go_quiet (fail)
            go_wp2
            go_roundw
            case rel =>
              refine ⟨j + 1, by omega, by go_num, ?_, below_drewN bc _⟩
              rw [HF.out]; exact hrow
            case measure => simp [intOf]; omega
        · obtain rfl : j = k := by omega
          have htk : l.take j = l := List.take_of_length_le (by have := HN.out; omega)
          rw [htk] at hrow
          clear htk
          go_wp2
          go_ret2
          exact ⟨u4, rfl, hrow, bc⟩

/-- How long spans are together. -/
def lenTo (l : List Sp) (k : Nat) : Int := ((l.take k).map fun s => s.2 - s.1).sum
def totalS (l : List Sp) : Int := lenTo (normR l).2 (normR l).2.length
theorem len_more {l : List Sp} {k : Nat} (h : k < l.length) : lenTo l (k + 1) = lenTo l k + ((l[k]?.getD (0, 0)).2 - (l[k]?.getD (0, 0)).1) := by
  unfold lenTo; rw [take_more l h, List.map_append, List.sum_append]; simp
theorem len_bound {l : List Sp} (h : ∀ s ∈ l, okS s) : ∀ k, k ≤ l.length → 0 ≤ lenTo l k ∧ lenTo l k ≤ k * 1099511627776 := by
  intro k
  induction k with
  | zero => intro _; simp [lenTo]
  | succ k ih =>
    intro hk
    have := ih (by omega)
    have hs := h (l[k]?.getD (0, 0)) (by rw [List.getElem?_eq_getElem (by omega)]; exact List.getElem_mem (by omega))
    unfold okS at hs
    rw [len_more (by omega)]
    omega
theorem normR_ok (l : List Sp) : ∀ s ∈ (normR l).2, okS s := by
  unfold normR
  split
  · rename_i h
    rw [List.all_eq_true] at h
    exact norm_ok fun s hs => of_decide_eq_true (h s hs)
  · intro s hs; cases hs
theorem normR_length (l : List Sp) : (normR l).2.length ≤ l.length := by
  unfold normR
  split
  · exact norm_length l
  · simp
theorem ok_at {l : List Sp} (h : ∀ s ∈ l, okS s) {k : Nat} (hk : k < l.length) : okS (l[k]?.getD (0, 0)) := by
  apply h; rw [List.getElem?_eq_getElem hk]; exact List.getElem_mem hk

set_option maxRecDepth 8000 in
set_option maxHeartbeats 4000000 in
theorem total_any (A : Option Addr) (n c : Nat) (l : List Sp) (w : World) (hn : n = l.length) (hm : n ≤ 60) (hA : Smps w.heap.size w A l) :
    Calls Try.prog 23 #[.slice A n c] w fun e w' => e = .returned (.int .i64 (totalS l)) ∧ Below w.heap.size w w' := by
  have hno := norm_any A n c l w hn hm hA
  unfold ResN at hno
  unfold totalS
  have hok := normR_ok l
  have hlen := normR_length l
  have hl2 : (normR l).2.length ≤ 60 := by omega
  generalize normR l = r at *
  obtain ⟨er, x⟩ := r
  dsimp only at hno hok hlen hl2 ⊢
  have hbd := len_bound hok
  have HNO := Lib.hid hno; have HOK := Lib.hid hok; have HBD := Lib.hid hbd
  clear hno hok hbd hlen hA hn
  go_enter Try.func23, Try.ntmps23
  go_wp2_with fail
  refine HNO.out.mono ?_
  rintro e w1 ⟨v, rfl, hrow, hC⟩
  dsimp only
  obtain ⟨XA, xc, rfl, -, -, hXS⟩ := spans_of_own hrow
  have HX := Lib.hid hXS; clear hrow hXS
  go_wp2
  go_loopw [5, 15] (fun sv i wr => ∃ k : Nat, k ≤ x.length ∧ i = .int .i64 k ∧ sv = .int .i64 (lenTo x k) ∧ Below w1.heap.size w1 wr)
    (fun _ i _ => x.length - (intOf i).toNat)
  case atStart => exact ⟨0, by omega, rfl, rfl, Below.refl _ _⟩
  case round =>
    obtain ⟨k, hk, rfl, rfl, bc⟩ := hrel
    by_cases hlt : k < x.length
    · obtain ⟨b, off, rfl, hbl, hc0, hc1⟩ := (HX.out.below bc).at_ hlt
      have hbs : b < wr.heap.size := Nat.lt_of_lt_of_le hbl bc.size
      have hmo := len_more hlt
      have hb0 := HBD.out k hk
      have hos := ok_at HOK.out hlt
      generalize x[k]?.getD (0, 0) = s at *
      obtain ⟨u, v⟩ := s
      unfold okS at hos
      dsimp only at hc0 hc1 hmo hos
      generalize hL : lenTo x k = L at *
      have e1 : IntKind.i64.wrap (v - u) = v - u := IntWalk.i64_in _ (by omega)
      have e2 : IntKind.i64.wrap (L + (v - u)) = L + (v - u) := IntWalk.i64_in _ (by omega)
      have HM := Lib.hid hmo; clear hmo hos hb0 hL
      go_wp2
      go_roundw
      case rel => exact ⟨k + 1, by omega, by go_num, by rw [HM.out], bc.alloc bc.size _⟩
      case measure => simp [intOf]; omega
    · obtain rfl : k = x.length := by omega
      go_wp2
      go_ret
      exact ⟨rfl, hC.trans (bc.mono hC.size)⟩

set_option maxRecDepth 8000 in
set_option maxHeartbeats 4000000 in
theorem rtotal_any (A : Option Addr) (n c : Nat) (l : List Sp) (w : World) (hn : n = l.length) (hm : n ≤ 60) (hA : Smps w.heap.size w A l) :
    Calls Try.prog 24 #[.slice A n c] w fun e w' => e = .returned (.int .i64 (totalS l)) ∧ Below w.heap.size w w' := by
  have hno := rnorm_any A n c l w hn hm hA
  unfold ResN at hno
  unfold totalS
  have hok := normR_ok l
  have hlen := normR_length l
  have hl2 : (normR l).2.length ≤ 60 := by omega
  generalize normR l = r at *
  obtain ⟨er, x⟩ := r
  dsimp only at hno hok hlen hl2 ⊢
  have hbd := len_bound hok
  have HNO := Lib.hid hno; have HOK := Lib.hid hok; have HBD := Lib.hid hbd
  clear hno hok hbd hlen hA hn
  go_enter Try.func24, Try.ntmps24
  go_wp2_with fail
  refine HNO.out.mono ?_
  rintro e w1 ⟨v, rfl, hrow, hC⟩
  dsimp only
  obtain ⟨XA, xc, rfl, -, -, hXS⟩ := spans_of_own hrow
  have HX := Lib.hid hXS; clear hrow hXS
  go_wp2
  go_loopw [3, 6] (fun sv i wr => ∃ k : Nat, k ≤ x.length ∧ i = .int .i64 k ∧ sv = .int .i64 (lenTo x k) ∧ Below w1.heap.size w1 wr)
    (fun _ i _ => x.length - (intOf i).toNat)
  case atStart => exact ⟨0, by omega, rfl, rfl, Below.refl _ _⟩
  case round =>
    obtain ⟨k, hk, rfl, rfl, bc⟩ := hrel
    by_cases hlt : k < x.length
    · obtain ⟨b, off, rfl, hbl, hc0, hc1⟩ := (HX.out.below bc).at_ hlt
      have hbs : b < wr.heap.size := Nat.lt_of_lt_of_le hbl bc.size
      have hmo := len_more hlt
      have hb0 := HBD.out k hk
      have hos := ok_at HOK.out hlt
      generalize x[k]?.getD (0, 0) = s at *
      obtain ⟨u, v⟩ := s
      unfold okS at hos
      dsimp only at hc0 hc1 hmo hos
      generalize hL : lenTo x k = L at *
      have e1 : IntKind.i64.wrap (v - u) = v - u := IntWalk.i64_in _ (by omega)
      have e2 : IntKind.i64.wrap (L + (v - u)) = L + (v - u) := IntWalk.i64_in _ (by omega)
      have HM := Lib.hid hmo; clear hmo hos hb0 hL
      go_wp2
      go_quiet (fail)
      go_wp2
      go_roundw
      case rel => exact ⟨k + 1, by omega, by go_num, by rw [HM.out], below_drewN bc _⟩
      case measure => simp [intOf]; omega
    · obtain rfl : k = x.length := by omega
      go_wp2
      go_ret
      exact ⟨rfl, hC.trans (bc.mono hC.size)⟩
end Go.Proofs.Ytjdhodobfkkoiaa
