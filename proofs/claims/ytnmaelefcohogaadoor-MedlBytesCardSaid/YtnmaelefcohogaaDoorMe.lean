/-
  The document's own small functions of layer 7's bytes: num, truths, sum, number, list. Conditions: those that each theorem names. (Printed by tools/gen07me.py.)
-/
import Derived.Test.YtnmaelefcohogaaDoorMc
namespace Go.Proofs.YtnmaelefcohogaaDoor
open Go.RowKit

theorem run_make_U (m : Nat) (hm : m ≤ 65536) (w : World) :
    (Instr.makeSlice 26 (.int .i64 (m : Int)) (.int .i64 (m : Int))).run Tryd.prog w = .ok (.slice (some ⟨w.heap.size, 0, none⟩) m m) (w.alloc (.cells (List.replicate m (Value.int .u8 0 : Value)).toArray 5)) := by
  obtain ⟨i0, hi, hz0, hz1, hz2⟩ := info_parts Tryd.infoU8
  have := run_make_rowN (P := Tryd.prog) 26 5 i0 _ Tryd.underlying26 hi hz0 .i64 .i64 m m (Nat.le_refl _) (by rw [hz2]; omega) (by omega) w
  have hmade : madeCells (Value.int .u8 0 : Value).cells m = (List.replicate m (Value.int .u8 0 : Value)).toArray := by
    apply Array.toList_inj.1
    rw [show (Value.int .u8 0 : Value).cells = #[Value.int .u8 0] from rfl, toList_madeCells_one]
  rw [hz1, Nat.mul_one, hmade] at this
  exact this
theorem u8_bit (v k : Nat) : (((v : Int) / 2 ^ k).tmod 2 == 1) = v.testBit k := by
  have e : (v : Int) / 2 ^ k = ((v / 2 ^ k : Nat) : Int) := by simp
  have e2 : (((v / 2 ^ k : Nat) : Int)).tmod 2 = ((v / 2 ^ k % 2 : Nat) : Int) := (Int.ofNat_tmod (v / 2 ^ k) 2).symm
  rw [e, e2, Nat.testBit_eq_decide_div_mod_eq]
  have h := Nat.mod_two_eq_zero_or_one (v / 2 ^ k)
  rcases h with h | h <;> rw [h] <;> decide
theorem div_step (v k : Nat) : v / 2 ^ (8 * k) / 256 = v / 2 ^ (8 * (k + 1)) := by
  rw [Nat.mul_add, Nat.mul_one, Nat.pow_add, ← Nat.div_div_eq_div_mul]
set_option maxRecDepth 8000 in
set_option maxHeartbeats 2000000 in
theorem rnum_any (v sz : Nat) (w : World) (hs : sz ≤ 4) (hv62 : v < 2 ^ 62) : Calls Tryd.prog 17 #[.int .i64 (v : Int), .int .i64 (sz : Int)] w fun e w' => ∃ G, e = .returned (.slice (some ⟨G, 0, none⟩) sz sz) ∧ w.heap.size ≤ G ∧ Blk w' G 5 (cellsB (beB v sz)).toArray ∧ Below w.heap.size w w' := by
  have hmk := run_make_U sz (by omega)
  have ko := Blk.new w 5 (List.replicate sz (Value.int .u8 0 : Value)).toArray
  have hbu := Below.al w (.cells (List.replicate sz (Value.int .u8 0 : Value)).toArray 5)
  have hsz : (List.replicate sz (Value.int .u8 0 : Value)).toArray.size = sz := by simp
  have hwG : w.heap.size < (w.alloc (.cells (List.replicate sz (Value.int .u8 0 : Value)).toArray 5)).heap.size := by simp
  generalize (List.replicate sz (Value.int .u8 0 : Value)).toArray = cs0 at *
  have e0 : IntKind.i64.wrap ((sz : Int) - 1) = (sz : Int) - 1 := IntWalk.i64_in _ (by omega)
  go_enter Tryd.func17, Tryd.ntmps17
  go_wp2
  generalize w.alloc (.cells cs0 5) = u at *
  go_loopw [0, 6] (fun x i wr => ∃ (k : Nat) (cs : Array Value), k ≤ sz ∧ i = .int .i64 ((sz : Int) - 1 - k) ∧ x = .int .i64 ((v / 2 ^ (8 * k) : Nat) : Int) ∧ Blk wr w.heap.size 5 cs ∧ cs.size = sz ∧ (∀ q, q < k → cs[sz - 1 - q]? = some (.int .u8 ((UInt8.ofNat (v / 2 ^ (8 * q))).toNat : Int))) ∧ Below w.heap.size w wr) (fun _ i _ => (intOf i + 1).toNat)
  case atStart => exact ⟨0, cs0, by omega, by simp, by simp, ko, hsz, fun q hq => by omega, hbu⟩
  case round =>
    obtain ⟨k, cs, hk, rfl, rfl, hbk, hcs, hq, hB⟩ := hrel
    have HQ := Lib.hid hq; clear hq
    by_cases hlt : k < sz
    · obtain ⟨j, hj⟩ : ∃ j : Nat, (sz : Int) - 1 - (k : Int) = (j : Int) := ⟨sz - 1 - k, by omega⟩
      have hj2 : sz - 1 - k = j := by omega
      have hjs : j < sz := by omega
      rw [hj]
      have hst := div_step v k
      have ev := u8_nat (v / 2 ^ (8 * k))
      obtain ⟨V, hV⟩ : ∃ V, V = v / 2 ^ (8 * k) := ⟨_, rfl⟩
      rw [← hV] at hst ev
      have hV2 : ((v / 2 ^ (8 * k) : Nat) : Int) = (V : Int) := by rw [hV]
      rw [hV2]
      have hq := Int.ofNat_tdiv V 256
      have lb2 := hbk.lt; have fb2 := hbk.frozen j
      obtain ⟨x0, hx0⟩ : ∃ x, cs[j]? = some x := ⟨cs[j]'(by omega), Array.getElem?_eq_getElem (by omega)⟩
      have cb2 : wr.cell? ⟨w.heap.size, j, none⟩ = some x0 := by rw [hbk.cell]; exact hx0
      clear hx0
      have c1 : decide (0 ≤ (j : Int)) = true := by simp
      have e2 : IntKind.i64.wrap ((j : Int) - 1) = (j : Int) - 1 := IntWalk.i64_in _ (by omega)
      have HJ := Lib.hid hj; have HV := Lib.hid hV; have HST := Lib.hid hst
      clear hj hV hst hV2
      go_wp2
      have hV62 : V < 2 ^ 62 := by have := HV.out; have := Nat.div_le_self v (2 ^ (8 * k)); omega
      go_roundw
      case rel =>
        refine ⟨k + 1, cs.setIfInBounds j (.int .u8 ((V : Int) % 256)), by omega, by have := HJ.out; simp; omega, ?_, hbk.set_ j _, by simpa using hcs, fun q hq => ?_, ?_⟩
        · rw [← HST.out]
          rw [show ((V / 256 : Nat) : Int) = (V : Int) / 256 by simp]
          exact congrArg (Value.int .i64) (IntWalk.wrap64_in _ (by omega))
        · rw [Array.getElem?_setIfInBounds]
          by_cases hqk : j = sz - 1 - q
          · have hkq : q = k := by omega
            subst hkq
            rw [if_pos hqk, if_pos (by omega), ← HV.out]
            simp
          · rw [if_neg hqk]; exact HQ.out q (by omega)
        · exact Below.off hB hB.size (by dsimp only; omega) (only_setCell (World.grownBy.refl _ _) (.inl rfl) _)
      case measure => simp [intOf]
    · obtain rfl : k = sz := by omega
      have c1 : decide (0 ≤ (k : Int) - 1 - (k : Int)) = false := by simp; omega
      have hfin : cs = (cellsB (beB v k)).toArray := by
        refine cells_eq (by rw [hcs]; simp [beB]) fun i hi => ?_
        have hik : i < k := by simpa [beB] using hi
        have h := HQ.out (k - 1 - i) (by omega)
        rw [show k - 1 - (k - 1 - i) = i by omega] at h
        rw [h]
        simp [cellsB, beB, hik]
      rw [hfin] at hbk
      clear hfin
      go_wp2
      go_ret
      exact ⟨w.heap.size, rfl, Nat.le_refl _, hbk, hB⟩
set_option maxRecDepth 8000 in
set_option maxHeartbeats 2000000 in
theorem rnumber_any (A : Option Addr) (c : Nat) (l : List UInt8) (w : World) (hl : l.length ≤ 4) (hA : Byt w.heap.size w A l) : Calls Tryd.prog 22 #[.slice A l.length c] w fun e w' => e = .returned (.int .i64 (numB l : Nat)) ∧ w = w' := by
  have HA := Lib.hid hA; clear hA
  obtain ⟨n, hn⟩ : ∃ n, n = l.length := ⟨_, rfl⟩
  rw [← hn] at hl ⊢
  have HN := Lib.hid hn; clear hn
  go_enter Tryd.func22, Tryd.ntmps22
  go_wp2
  go_loopw [3, 4] (fun x i wr => ∃ k t : Nat, k ≤ n ∧ i = .int .i64 k ∧ x = .int .i64 t ∧ numB (l.take k) = t ∧ wr = w) (fun _ i _ => n - (intOf i).toNat)
  case atStart => exact ⟨0, 0, by omega, rfl, rfl, rfl, rfl⟩
  case round =>
    obtain ⟨k, t, hk, rfl, rfl, ht, rfl⟩ := hrel
    by_cases hlt : k < n
    · have hkl : k < l.length := by have := HN.out; omega
      have ht50 : t < 2 ^ 50 := by
        have h := numB_lt (l.take k)
        rw [ht] at h
        have hl2 : (l.take k).length ≤ 4 := by rw [List.length_take]; omega
        exact Nat.lt_of_lt_of_le h (Nat.le_trans (Nat.pow_le_pow_right (by decide) hl2) (by decide))
      have hm := numB_snoc (l.take k) (l[k]?.getD 0)
      have htk : l.take (k + 1) = l.take k ++ [l[k]?.getD 0] := by rw [List.take_add_one, List.getElem?_eq_getElem hkl]; rfl
      rw [← htk, ht] at hm
      obtain ⟨b, off, rfl, hb, hcell⟩ := HA.out.at_ hkl
      have hv := (l[k]?.getD 0).toNat_lt
      generalize (l[k]?.getD 0).toNat = v at *
      have ew : IntKind.i64.wrap ((t : Int) * 256) = (t : Int) * 256 := IntWalk.i64_in _ (by omega)
      have ev : IntKind.i64.wrap (v : Int) = (v : Int) := IntWalk.i64_in _ (by omega)
      have es : IntKind.i64.wrap ((t : Int) * 256 + (v : Int)) = (t : Int) * 256 + (v : Int) := IntWalk.i64_in _ (by omega)
      have HM := Lib.hid hm
      clear hm htk ht hkl
      go_wp2
      go_roundw
      case rel => exact ⟨k + 1, t * 256 + v, by omega, by go_num, by simp, HM.out, by trivial⟩
      case measure => simp [intOf]; omega
    · obtain rfl : k = n := by omega
      rw [List.take_of_length_le (by have := HN.out; omega)] at ht
      have HT := Lib.hid ht; clear ht
      go_wp2
      go_ret
      exact ⟨by rw [HT.out]; rfl, rfl⟩
set_option maxRecDepth 8000 in
set_option maxHeartbeats 2000000 in
theorem rlist_any (v N : Nat) (w : World) (hN : N ≤ 8) : Calls Tryd.prog 23 #[.int .u8 (v : Int), .int .i64 (N : Int)] w fun e w' => ∃ A c, e = .returned (.slice A N c) ∧ w'.ownsRow w.heap.size 4 1 (.slice A N c) N ((bitsN v N).map Value.bool) ∧ Below w.heap.size w w' := by
  obtain ⟨i0, hi, hz0, hz1, hz2⟩ := info_parts Tryd.infoRB
  go_enter Tryd.func23, Tryd.ntmps23
  go_wp2
  go_loopw [5, 6] (fun x i wr => ∃ (k : Nat) (A : Option Addr) (c : Nat), k ≤ N ∧ i = .int .i64 k ∧ x = .slice A k c ∧ wr.ownsRow w.heap.size 4 1 (.slice A k c) k ((bitsN v k).map Value.bool) ∧ Below w.heap.size w wr) (fun _ i _ => N - (intOf i).toNat)
  case atStart => exact ⟨0, none, 0, by omega, rfl, rfl, World.ownsRow_nil _ _ _ _, Below.refl _ _⟩
  case round =>
    obtain ⟨k, A, c, hk, rfl, rfl, ho, hB⟩ := hrel
    by_cases hlt : k < N
    · have hsn : (bitsN v (k + 1)).map Value.bool = (bitsN v k).map Value.bool ++ [.bool (v.testBit k)] := by unfold bitsN; rw [List.range_succ]; simp
      have HS := Lib.hid hsn; clear hsn
      have hbit := u8_bit v k
      obtain ⟨y, hy⟩ : ∃ y, y = v.testBit k := ⟨_, rfl⟩
      rw [← hy] at hbit
      have HY := Lib.hid hy; clear hy
      go_wp2_with (at_builtin; refine wpList_append_own _ rfl _ _ 22 rfl w.heap.size 4 i0 (.bool false) 1 1 Tryd.underlying22 hi hz0 hz1 hz2 rfl (by decide) (.slice A k c) k _ rfl (ho.alloc _) ⟨wr.heap.size, 0, none⟩ 1 1 [.bool y] rfl rfl (cell_one_new _ _ _) (by simp [Value.oneCell']) (by unfold maxLen; omega) (by omega) (by have := hB.size; simp; omega) ?_; intro v' w2 hown hgrow _; obtain ⟨A2, c2, rfl⟩ := own_slice hown; have hb2 := own_below ho hgrow hB (Nat.le_refl _) hB.size)
      go_roundw
      case rel => exact ⟨k + 1, A2, c2, by omega, by go_num, rfl, by rw [HS.out, ← HY.out]; exact hown, hb2⟩
      case measure => simp [intOf]; omega
    · obtain rfl : k = N := by omega
      go_wp2
      go_ret
      exact ⟨A, c, rfl, ho, hB⟩
set_option maxRecDepth 8000 in
set_option maxHeartbeats 2000000 in
theorem rtruths7_any (A : Option Addr) (n c : Nat) (l : List Bool) (w : World) (hn : n = l.length) (hm : n ≤ 8) (hA : Bools w.heap.size w A l) : Calls Tryd.prog 18 #[.slice A n c] w fun e w' => e = .returned (.int .u8 (setN l : Nat)) ∧ w = w' := by
  have HA := Lib.hid hA
  have HN := Lib.hid hn; clear hn hA
  go_enter Tryd.func18, Tryd.ntmps18
  go_wp2
  go_loopw [3, 4] (fun v i wr => ∃ k t : Nat, k ≤ n ∧ i = .int .i64 k ∧ v = .int .u8 t ∧ setN (l.take k) = t ∧ wr = w) (fun _ i _ => n - (intOf i).toNat)
  case atStart => exact ⟨0, 0, by omega, rfl, rfl, rfl, rfl⟩
  case round =>
    obtain ⟨k, t, hk, rfl, rfl, hts, rfl⟩ := hrel
    have HT := Lib.hid hts; clear hts
    by_cases hlt : k < n
    · have hkl : k < l.length := by have := HN.out; omega
      have HKL := Lib.hid hkl; clear hkl
      obtain ⟨b, off, rfl, hbl, hcell⟩ := HA.out.at_ (k := k) HKL.out
      have hs := setN_snoc (l.take k) (l[k]?.getD false)
      have hlen : (l.take k).length = k := by rw [List.length_take]; have := HKL.out; omega
      have htk : t < 2 ^ k := by have := setN_lt (l.take k); rw [hlen, HT.out] at this; exact this
      have hp7 : 2 ^ k ≤ 128 := Nat.le_trans (Nat.pow_le_pow_right (show 2 > 0 by decide) (show k ≤ 7 by omega)) (by decide)
      have c1 : decide ((k : Int) < (n : Int)) = true := by simp; omega
      have c2 : decide ((k : Int) < 8) = true := by simp; omega
      rw [← bool_at l k HKL.out, HT.out, hlen] at hs
      by_cases hb : l[k]?.getD false = true
      · rw [hb] at hcell hs
        have HS := Lib.hid hs
        have hor := u8_or_nat t (2 ^ k) (by omega) (by omega)
        rw [show t ||| 2 ^ k = t + 2 ^ k by rw [Nat.or_comm, nat_join k (2 ^ k) t (by simp) htk, Nat.add_comm]] at hor
        obtain ⟨P, hP⟩ : ∃ P, P = 2 ^ k := ⟨_, rfl⟩
        rw [← hP] at hor hp7
        have hpi : (2 : Int) ^ k = (P : Int) := by rw [hP]; simp
        have ew : IntKind.u8.wrap (P : Int) = (P : Int) := IntWalk.u8_in _ (by omega)
        have HP := Lib.hid hP
        clear hs hb hP htk hlen
        go_wp2
        go_roundw
        case rel => exact ⟨k + 1, t + P, by omega, by go_num, by simp, by rw [HS.out, HP.out]; simp, by trivial⟩
        case measure => simp [intOf]; omega
      · rw [Bool.not_eq_true] at hb
        rw [hb] at hcell hs
        have HS := Lib.hid hs; clear hs hb hlen
        go_wp2
        go_roundw
        case rel => exact ⟨k + 1, t, by omega, by go_num, rfl, by rw [HS.out]; simp, by trivial⟩
        case measure => simp [intOf]; omega
    · have c1 : decide ((k : Int) < (n : Int)) = false := by simp; omega
      go_wp2
      go_ret
      have h3 := HT.out
      rw [List.take_of_length_le (by have := HN.out; omega)] at h3
      exact ⟨by rw [h3]; rfl, rfl⟩
set_option maxRecDepth 8000 in
set_option maxHeartbeats 2000000 in
theorem rsum7_any (A : Option Addr) (c : Nat) (l : List UInt8) (w : World) (hm : l.length ≤ 500) (hA : Byt w.heap.size w A l) : Calls Tryd.prog 19 #[.slice A l.length c] w fun e w' => ∃ G, e = .returned (.slice (some ⟨G, 0, none⟩) 3 3) ∧ w.heap.size ≤ G ∧ Blk w' G 5 (cellsB (beB (sumN l) 3)).toArray ∧ Below w.heap.size w w' := by
  have hlt := sumN_lt l
  obtain ⟨kb, kc, bc⟩ := bx2 w #[.int .i64 ((8 * l.length : Nat) : Int), .slice A l.length c] #[.int .i64 ((8 * l.length : Nat) : Int), .slice A l.length c] 68 68
  obtain ⟨U, hU⟩ : ∃ U, U = (w.alloc (.cells #[.int .i64 ((8 * l.length : Nat) : Int), .slice A l.length c] 68)).alloc (.cells #[.int .i64 ((8 * l.length : Nat) : Int), .slice A l.length c] 68) := ⟨_, rfl⟩
  rw [← hU] at kb kc bc
  have hX : BVs U.heap.size U (some ⟨w.heap.size + 1, 0, none⟩) [⟨((8 * l.length : Nat) : Int), A, l.length, c, l⟩] := fun _ => ⟨w.heap.size + 1, 0, rfl, kc.lt, fun j x hx => by
    match j, hx with
    | 0, hx =>
      obtain rfl : _ = x := by simpa using hx
      exact ⟨kc.two.1, kc.two.2.1⟩⟩
  have hsum := rsum_any (some ⟨w.heap.size + 1, 0, none⟩) 1 1 [⟨((8 * l.length : Nat) : Int), A, l.length, c, l⟩] U rfl (by unfold maxLen; omega) hX (fun x hx => by
    obtain rfl : x = _ := by simpa using hx
    exact ⟨rfl, by show l.length ≤ maxLen; unfold maxLen; omega, (hA.below bc).mono bc.size⟩)
  rw [sum_one A l.length c l (good_whole l hm)] at hsum
  unfold Sm at hsum
  generalize sumN l = s at *
  have hnu := fun W => rnum_any s 3 W (by decide) (by omega)
  have e1 : IntKind.i64.wrap (8 * (l.length : Int)) = ((8 * l.length : Nat) : Int) := by rw [show 8 * (l.length : Int) = ((8 * l.length : Nat) : Int) by omega]; exact IntWalk.i64_in _ (by omega)
  obtain ⟨N8, hN8⟩ : ∃ x, x = ((8 * l.length : Nat) : Int) := ⟨_, rfl⟩
  rw [← hN8] at e1 hU
  have e2 : IntKind.i64.wrap (s : Int) = (s : Int) := IntWalk.i64_in _ (by omega)
  have HS := Lib.hid hsum; have HNU := Lib.hid hnu; clear hsum hnu hX hN8 hA kb kc hlt
  obtain ⟨n, hn⟩ : ∃ n, n = l.length := ⟨_, rfl⟩
  rw [← hn] at e1 hm hU ⊢
  clear hn
  subst hU
  go_enter Tryd.func19, Tryd.ntmps19
  go_wp2_with (first
    | (go_at_call 41; refine HS.out.mono ?_; rintro e w2 ⟨rfl, hC⟩; dsimp only)
    | (go_at_call 17; refine (HNU.out _).mono ?_; rintro e w3 ⟨G, rfl, hG, kG, hC2⟩; dsimp only))
  go_ret
  have h1 := bc.size
  have h2 := hC.size
  exact ⟨G, rfl, by omega, kG, (bc.trans (hC.mono h1)).trans (hC2.mono (by omega))⟩
end Go.Proofs.YtnmaelefcohogaaDoor
