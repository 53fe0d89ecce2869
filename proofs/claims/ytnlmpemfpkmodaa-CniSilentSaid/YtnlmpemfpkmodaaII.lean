/-
  Send and Fresh of the document of layer 12. Condition: an interface that can be read. (Printed by tools/gen12i.py; laid ahead.)
-/
import Derived.Test.YtnlmpemfpkmodaaIH
namespace Go.Proofs.Ytnlmpemfpkmodaa
open Go.RowKit

/-- What a call answers: an error's number and bytes. -/
def ResBy (w : World) (r : Int × List UInt8) (e : Ending) (w' : World) : Prop := ∃ v : Sl3, e = .returned (.tuple #[.slice v.A v.n v.c, .int .i64 r.1]) ∧ BOk w'.heap.size w' r.2 v ∧ Below w.heap.size w w'
/-- The first k of what is sent, and zeros behind. -/
def sentTo (c : Cn) (N k : Nat) : List UInt8 := (List.range N).map fun i => if i < k then (if 0 < c.life then c.out[i]?.getD 0 else 0) else 0
theorem sentTo_zero (c : Cn) (N : Nat) : sentTo c N 0 = List.replicate N 0 := by
  refine List.ext_getElem (by simp [sentTo]) fun i h1 h2 => ?_
  simp [sentTo]
theorem sentTo_length (c : Cn) (N k : Nat) : (sentTo c N k).length = N := by simp [sentTo]
theorem sentTo_all (c : Cn) (N k : Nat) (h : N ≤ k ∨ c.out.length ≤ k ∨ c.life ≤ 0) : sentTo c N k = sentB c N := by
  unfold sentTo sentB
  refine List.map_congr_left fun i hi => ?_
  have hi := List.mem_range.1 hi
  split
  · rfl
  · rcases h with h | h | h
    · omega
    · split
      · rw [List.getElem?_eq_none (by omega)]; rfl
      · rfl
    · rw [if_neg (by omega)]
theorem sentTo_set (c : Cn) (N k : Nat) (h : 0 < c.life) : (sentTo c N k).set k (c.out[k]?.getD 0) = sentTo c N (k + 1) := by
  refine List.ext_getElem? fun i => ?_
  rw [List.getElem?_set]
  simp only [sentTo_length]
  split
  · subst_vars
    split
    · simp [sentTo, *]
    · rw [List.getElem?_eq_none (by rw [sentTo_length]; omega)]
  · simp only [sentTo, List.getElem?_map]
    rcases Nat.lt_or_ge i N with hi | hi
    · simp only [List.getElem?_range hi, Option.map_some]
      congr 1
      have : (i < k) ↔ (i < k + 1) := by omega
      simp only [this]
    · simp [hi]
theorem Byt.atI {n₀ : Nat} {W : World} {A : Option Addr} {bs : List UInt8} (h : Byt n₀ W A bs) {j : Nat} (hj : j < bs.length) : ∃ b off, A = some ⟨b, off, none⟩ ∧ b < n₀ ∧ W.cell? ⟨b, off + j, none⟩ = some (.int .u8 (bs[j]?.getD 0).toNat) := by
  obtain ⟨b, off, e, hb, hc⟩ := h (by rintro rfl; simp at hj)
  exact ⟨b, off, e, hb, hc j hj⟩

set_option maxRecDepth 100000 in
set_option maxHeartbeats 4000000 in
theorem rsendCn_any (s : Cn) (v u : Sl3) (q : Int) (w : World) (h : CnOk w.heap.size w s v u) : Calls Try.prog 23 #[.agg (cCn s v u), .int .i64 q] w (ResBy w (sendCn s q)) := by
  have hck := fun U (hb : Below w.heap.size w U) => rchkCn_any s v u U (h.on hb)
  have q0 : ¬ okCn s → sendCn s q = (120, []) := fun h => by unfold sendCn; rw [if_neg h]
  have q1 : okCn s → ¬ (0 ≤ q ∧ q ≤ 8) → sendCn s q = (2, []) := fun h h2 => by unfold sendCn; rw [if_pos h, if_neg h2]
  have q3 : okCn s → (0 ≤ q ∧ q ≤ 8) → sendCn s q = (0, sentB s q.toNat) := fun h h2 => by unfold sendCn; rw [if_pos h, if_pos h2]
  have hO := h.out.by_
  have hon := h.out.bn
  unfold ResBy
  generalize sendCn s q = RR at *
  have hce := @chkCn_zero s
  have hcn := @chkCn_no s
  have hs0 := sentTo_zero s
  have hsl := sentTo_length s
  have hsa := sentTo_all s
  have hss := sentTo_set s
  clear h
  obtain ⟨id, out, ms, life, want⟩ := s
  obtain ⟨A, n, c⟩ := v
  obtain ⟨B, m, d⟩ := u
  dsimp only [cCn] at *
  generalize hS : (⟨id, out, ms, life, want⟩ : Cn) = S at *
  obtain ⟨kb, bc⟩ := bx1 w #[.int .i64 id, .slice A n c, .slice B m d, .int .i64 life, .int .i64 want] 25
  obtain ⟨p0, p1, p2, p3, p4⟩ := kb.fiveI
  by_cases hok : okCn S
  rotate_left
  · obtain rfl := q0 hok
    rw [hcn hok] at hck
    have HCK := Lib.hid hck; clear hck hce hcn q1 q3 hO hon hs0 hsl hsa hss
    go_enter Try.func23, Try.ntmps23
    go_wp2_with (first | (go_at_call 14; refine (HCK.out _ bc).mono ?_; rintro e w1 ⟨rfl, hC⟩; dsimp only; (try clear p0 p1 p2 p3 p4); replace kb := kb.on hC; replace bc := bc.trans (hC.mono bc.size); clear hC; obtain ⟨p0, p1, p2, p3, p4⟩ := kb.fiveI))
    go_ret2
    exact ⟨⟨none, 0, 0⟩, rfl, BOk.nil _ _, bc⟩
  rw [hce.2 hok] at hck
  have HCK := Lib.hid hck; clear hck hce hcn q0
  replace q1 := q1 hok
  replace q3 := q3 hok
  by_cases cd1 : 0 ≤ q
  rotate_left
  · obtain rfl := q1 (by omega)
    have d1 : decide (q < 0) = true := by simp; omega
    clear q3 hO hon hs0 hsl hsa hss
    go_enter Try.func23, Try.ntmps23
    go_wp2_with (first | (go_at_call 14; refine (HCK.out _ bc).mono ?_; rintro e w1 ⟨rfl, hC⟩; dsimp only; (try clear p0 p1 p2 p3 p4); replace kb := kb.on hC; replace bc := bc.trans (hC.mono bc.size); clear hC; obtain ⟨p0, p1, p2, p3, p4⟩ := kb.fiveI))
    go_ret2
    exact ⟨⟨none, 0, 0⟩, rfl, BOk.nil _ _, bc⟩
  have d1 : decide (q < 0) = false := by simp; omega
  by_cases cd2 : q ≤ 8
  rotate_left
  · obtain rfl := q1 (by omega)
    have d2 : decide (8 < q) = true := by simp; omega
    clear q3 hO hon hs0 hsl hsa hss
    go_enter Try.func23, Try.ntmps23
    go_wp2_with (first | (go_at_call 14; refine (HCK.out _ bc).mono ?_; rintro e w1 ⟨rfl, hC⟩; dsimp only; (try clear p0 p1 p2 p3 p4); replace kb := kb.on hC; replace bc := bc.trans (hC.mono bc.size); clear hC; obtain ⟨p0, p1, p2, p3, p4⟩ := kb.fiveI))
    go_ret2
    exact ⟨⟨none, 0, 0⟩, rfl, BOk.nil _ _, bc⟩
  have d2 : decide (8 < q) = false := by simp; omega
  obtain ⟨N, rfl⟩ := Int.eq_ofNat_of_zero_le cd1
  have Q3 := Lib.hid (q3 ⟨cd1, cd2⟩); clear q1 q3
  have hmk := run_make_bytes N (by omega)
  have HO := Lib.hid hO; have HON := Lib.hid hon; have HS0 := Lib.hid (hs0 N); have HSL := Lib.hid (hsl N); have HSA := Lib.hid (hsa N); have HSS := Lib.hid (hss N)
  clear hO hon hs0 hsl hsa hss
  go_enter Try.func23, Try.ntmps23
  go_upto_region 7 with (first | (go_at_call 14; refine (HCK.out _ bc).mono ?_; rintro e w1 ⟨rfl, hC⟩; dsimp only; (try clear p0 p1 p2 p3 p4); replace kb := kb.on hC; replace bc := bc.trans (hC.mono bc.size); clear hC; obtain ⟨p0, p1, p2, p3, p4⟩ := kb.fiveI))
  have kq := Blk.new w1 5 (encB (List.replicate N 0))
  have al := Below.al w1 (.cells (encB (List.replicate N 0)) 5)
  have kb2 := kb.on al; have bc2 := bc.trans (al.mono bc.size); have hgq := kb.lt
  clear kb bc al p0 p1 p2 p3 p4 hmk
  generalize w1.alloc (.cells (encB (List.replicate N 0)) 5) = u2 at *
  generalize w1.heap.size = gq at *
  clear w1
  go_wp2_with fail
  go_loopw [8] (fun i wr => ∃ k : Nat, k ≤ N ∧ i = .int .i64 k ∧ Blk wr gq 5 (encB (sentTo S N k)) ∧ Blk wr w.heap.size 25 #[.int .i64 id, .slice A n c, .slice B m d, .int .i64 life, .int .i64 want] ∧ Below w.heap.size w wr)
    (fun i _ => N - (intOf i).toNat)
  case atStart => exact ⟨0, by omega, rfl, by rw [HS0.out]; exact kq, kb2, bc2⟩
  case round =>
    clear kb2 kq bc2
    obtain ⟨k, hk, rfl, kq, kb, bc⟩ := hrel
    obtain ⟨p0, p1, p2, p3, p4⟩ := kb.fiveI
    have hend : (N ≤ k ∨ n ≤ k ∨ life ≤ 0) → BOk wr.heap.size wr (sentB S N) ⟨some ⟨gq, 0, none⟩, N, N⟩ := fun hh => by
      rw [← HSA.out k (by rcases hh with hh | hh | hh; exact .inl hh; exact .inr (.inl (by have := HON.out; omega)); exact .inr (.inr hh))]
      exact ⟨byt_of_blk kq, (HSL.out k).symm, Nat.le_refl _, by unfold maxLen; dsimp only; omega, fun e => by cases e⟩
    by_cases hlt : k < N
    rotate_left
    · have e1 : decide ((k : Int) < (N : Int)) = false := by simp; omega
      have hend := Lib.hid (hend (.inl (by omega)))
      obtain rfl := Q3.out
      clear kq
      go_wp2
      go_ret2
      exact ⟨⟨some ⟨gq, 0, none⟩, N, N⟩, rfl, hend.out, bc⟩
    have e1 : decide ((k : Int) < (N : Int)) = true := by simp; omega
    by_cases hlo : k < n
    rotate_left
    · have e2 : decide ((k : Int) < (n : Int)) = false := by simp; omega
      have hend := Lib.hid (hend (.inr (.inl (by omega))))
      obtain rfl := Q3.out
      clear kq
      go_wp2
      go_ret2
      exact ⟨⟨some ⟨gq, 0, none⟩, N, N⟩, rfl, hend.out, bc⟩
    have e2 : decide ((k : Int) < (n : Int)) = true := by simp; omega
    by_cases hlf : 0 < life
    rotate_left
    · have e3 : decide (0 < life) = false := by simp; omega
      have hend := Lib.hid (hend (.inr (.inr (by omega))))
      obtain rfl := Q3.out
      clear kq
      go_wp2
      go_ret2
      exact ⟨⟨some ⟨gq, 0, none⟩, N, N⟩, rfl, hend.out, bc⟩
    have e3 : decide (0 < life) = true := by simp; omega
    obtain ⟨b, off, rfl, hb, hc⟩ := (HO.out.below bc).atI (j := k) (by have := HON.out; omega)
    have hz := kq.lt
    have hnx := HSS.out k hlf
    generalize out[k]?.getD 0 = x at *
    have hkN : k < (sentTo S N k).length := by rw [HSL.out]; exact hlt
    have o0 : wr.cell? ⟨gq, k, none⟩ = some (.int .u8 ((sentTo S N k)[k]?.getD 0).toNat) := by rw [kq.cell, encB_get _ _ hkN]
    have f0 := kq.frozen k
    have kq6 := kq.set_ k (.int .u8 x.toNat)
    rw [encB_set, hnx] at kq6
    have kb6 := kb.far (p := ⟨gq, k, none⟩) (Nat.ne_of_lt hgq) (.int .u8 x.toNat)
    have bc6 := bc.setCell (p := ⟨gq, k, none⟩) (Nat.le_of_lt hgq) (.int .u8 x.toNat)
    have KQ6 := Lib.hid kq6; have KB6 := Lib.hid kb6; have BC6 := Lib.hid bc6
    clear kq6 kb6 bc6 hnx hend kq hkN kb
    generalize ((sentTo S N k)[k]?.getD 0).toNat = y0 at *
    go_wp2
    go_roundw
    case rel => exact ⟨k + 1, by omega, by go_num, KQ6.out, KB6.out, BC6.out⟩
    case measure => simp [intOf]; omega
theorem Try.infoIn : (Try.prog.info? 3).map (fun i => (i.zero, i.size, i.bytes)) = some (some (.int .i64 0), 1, 8) := by kernel_rfl
/-- Numbers as cells. -/
def valsI (l : List Nat) : List Value := l.map fun (x : Nat) => Value.int .i64 (x : Int)
theorem freshTo_zero (c : Cn) (a : Int) : freshTo c a 0 = [] := rfl

set_option maxRecDepth 100000 in
set_option maxHeartbeats 4000000 in
theorem rfreshCn_any (s : Cn) (v u : Sl3) (q : Int) (w : World) (h : CnOk w.heap.size w s v u) (hm : u.n ≤ 1048576) : Calls Try.prog 29 #[.agg (cCn s v u), .int .i64 q] w fun e w' => ∃ x, e = .returned x ∧ w'.ownsRow w.heap.size 3 1 x (freshCn s q).length (valsI (freshCn s q)) ∧ Below w.heap.size w w' := by
  have hck := fun U (hb : Below w.heap.size w U) => rchkCn_any s v u U (h.on hb)
  have q0 : ¬ okCn s → freshCn s q = freshTo s q 0 := fun h => by unfold freshCn; rw [if_neg h]; rfl
  have q3 : okCn s → freshCn s q = freshTo s q u.n := fun h2 => by unfold freshCn; rw [if_pos h2, h.mn]
  have hM := h.ms
  have hmn := h.mn
  generalize freshCn s q = RR at *
  have hce := @chkCn_zero s
  have hcn := @chkCn_no s
  have hms := fun (k : Nat) (h : isFresh (s.ms[k]?.getD default) q = true) => freshTo_yes h
  have hmx := fun (k : Nat) (h : isFresh (s.ms[k]?.getD default) q = false) => freshTo_no h
  have hml := freshTo_length s q
  have hM0 := freshTo_zero s q
  clear h
  obtain ⟨id, out, ms, life, want⟩ := s
  obtain ⟨A, n, c⟩ := v
  obtain ⟨B, m, d⟩ := u
  dsimp only [cCn] at *
  generalize hS : (⟨id, out, ms, life, want⟩ : Cn) = S at *
  clear hS
  generalize freshTo S q = MT at *
  generalize okCn S = ok at *
  generalize chkCn S = er at *
  obtain ⟨i0, hi, hz0, hz1, hz2⟩ := info_parts Try.infoIn
  have HMS := Lib.hid hms; have HMX := Lib.hid hmx; have HML := Lib.hid hml; have HM0 := Lib.hid hM0; have HN := Lib.hid hmn; have HM := Lib.hid hM; have HCK := Lib.hid hck; have HCE := Lib.hid hce; have Q0 := Lib.hid q0; have Q3 := Lib.hid q3; clear hms hmx hml hM0 hmn hM hck hce hcn q0 q3
  obtain ⟨kb, bc⟩ := bx1 w #[.int .i64 id, .slice A n c, .slice B m d, .int .i64 life, .int .i64 want] 25
  go_enter Try.func29, Try.ntmps29
  go_wp2_with fail
  generalize w.alloc (.cells #[.int .i64 id, .slice A n c, .slice B m d, .int .i64 life, .int .i64 want] 25) = u1 at *
  go_loopw [5, 6] (fun v i wr => ∃ k : Nat, k ≤ m ∧ (k = 0 ∨ ok) ∧ i = .int .i64 k ∧ wr.ownsRow (w.heap.size + 1) 3 1 v (MT k).length (valsI (MT k)) ∧ Blk wr w.heap.size 25 #[.int .i64 id, .slice A n c, .slice B m d, .int .i64 life, .int .i64 want] ∧ Below w.heap.size w wr)
    (fun _ i _ => m - (intOf i).toNat)
  case atStart => exact ⟨0, by omega, .inl rfl, rfl, by rw [HM0.out]; exact World.ownsRow_nil _ _ _ _, kb, bc⟩
  case round =>
    clear kb bc
    obtain ⟨k, hk, hk0, rfl, hrow, kb, bc⟩ := hrel
    have hlen := HML.out k
    have hlw := kb.lt
    obtain ⟨p0, p1, p2, p3, p4⟩ := kb.fiveI
    by_cases hlt : k < m
    rotate_left
    · have hlt2 : decide ((k : Int) < (m : Int)) = false := by simp; omega
      have hfin : RR = MT k := by
        rcases hk0 with h0 | h0
        · by_cases h1 : ok
          · rw [Q3.out h1]; congr 1; omega
          · rw [Q0.out h1, h0]
        · rw [Q3.out h0]; congr 1; omega
      have HF := Lib.hid hfin; clear hfin hlen
      have HR := Lib.hid (own_mono hrow (show w.heap.size ≤ w.heap.size + 1 by omega)); clear hrow
      go_wp2
      go_ret
      exact ⟨_, rfl, by rw [HF.out]; exact HR.out, bc⟩
    have hlt2 : decide ((k : Int) < (m : Int)) = true := by simp; omega
    by_cases hok : ok
    rotate_left
    · have hne : (er == 0) = false := by
        have : ¬ er = 0 := fun h => hok (HCE.out.1 h)
        simpa using this
      obtain rfl : k = 0 := by rcases hk0 with h | h; exact h; exact absurd h hok
      have HF := Lib.hid (Q0.out hok); clear hlen
      have HR := Lib.hid (own_mono hrow (show w.heap.size ≤ w.heap.size + 1 by omega)); clear hrow
      go_wp2_with (first | (go_at_call 14; refine (HCK.out _ bc).mono ?_; rintro e w1 ⟨rfl, hC⟩; dsimp only; clear p0 p1 p2 p3 p4; have HR2 := Lib.hid (own_on HR.out hC); replace bc := bc.trans (hC.mono bc.size)))
      go_ret
      exact ⟨_, rfl, by rw [HF.out]; exact HR2.out, bc⟩
    obtain rfl : er = 0 := HCE.out.2 hok
    obtain ⟨b, off, rfl, hb, v, ⟨c0, c1⟩, hv⟩ := (HM.out.below bc).at_ (k := k) (by have := HN.out; omega)
    have hs := HMS.out k; have hf := HMX.out k
    unfold isFresh at hs hf
    generalize (ms[k]?.getD default).g = g at *
    have HS := Lib.hid hs; have HF := Lib.hid hf; clear hs hf hv
    have HR := Lib.hid hrow; have BC := Lib.hid bc; have KB := Lib.hid kb
    have hkk : (k : Int) < (m : Int) := by omega
    clear hrow kb c0
    by_cases e1 : g ≤ q
    rotate_left
    · have d1 : decide (g ≤ q) = false := by simp; omega
      go_wp2_with (first | (go_at_call 14; refine (HCK.out _ bc).mono ?_; rintro e w3 ⟨rfl, hC⟩; dsimp only; clear p0 p1 p2 p3 p4; have kb := KB.out.on hC; have hrow3 := own_on HR.out hC; have bc3 := BC.out.trans (hC.mono BC.out.size); have hbw : b < wr.heap.size := Nat.lt_of_lt_of_le hb BC.out.size; have m1 := (hC.cell (p := ⟨b, off + k * 2 + 1, none⟩) hbw).trans c1; clear hC hbw; obtain ⟨p0, p1, p2, p3, p4⟩ := kb.fiveI; have hz := kb.lt))
      have HR3 := Lib.hid hrow3; clear hrow3
      go_roundw
      case rel => exact ⟨k + 1, by omega, .inr hok, by go_num, by rw [HF.out (by simp; omega)]; exact HR3.out, kb, bc3⟩
      case measure => simp [intOf]; omega
    have d1 : decide (g ≤ q) = true := by simp; omega
    by_cases e2 : g < 255
    rotate_left
    · have d2 : decide (g < 255) = false := by simp; omega
      go_wp2_with (first | (go_at_call 14; refine (HCK.out _ bc).mono ?_; rintro e w3 ⟨rfl, hC⟩; dsimp only; clear p0 p1 p2 p3 p4; have kb := KB.out.on hC; have hrow3 := own_on HR.out hC; have bc3 := BC.out.trans (hC.mono BC.out.size); have hbw : b < wr.heap.size := Nat.lt_of_lt_of_le hb BC.out.size; have m1 := (hC.cell (p := ⟨b, off + k * 2 + 1, none⟩) hbw).trans c1; clear hC hbw; obtain ⟨p0, p1, p2, p3, p4⟩ := kb.fiveI; have hz := kb.lt))
      have HR3 := Lib.hid hrow3; clear hrow3
      go_roundw
      case rel => exact ⟨k + 1, by omega, .inr hok, by go_num, by rw [HF.out (by simp; omega)]; exact HR3.out, kb, bc3⟩
      case measure => simp [intOf]; omega
    have d2 : decide (g < 255) = true := by simp; omega
    go_wp2_with (first | (go_at_call 14; refine (HCK.out _ bc).mono ?_; rintro e w3 ⟨rfl, hC⟩; dsimp only; clear p0 p1 p2 p3 p4; have kb := KB.out.on hC; have hrow3 := own_on HR.out hC; have bc3 := BC.out.trans (hC.mono BC.out.size); have hbw : b < wr.heap.size := Nat.lt_of_lt_of_le hb BC.out.size; have m1 := (hC.cell (p := ⟨b, off + k * 2 + 1, none⟩) hbw).trans c1; clear hC hbw; obtain ⟨p0, p1, p2, p3, p4⟩ := kb.fiveI; have hz := kb.lt) | (at_builtin; refine wpList_append_own _ rfl _ _ 42 rfl (w.heap.size + 1) 3 i0 (.int .i64 0) 1 8 Try.underlying42 hi hz0 hz1 hz2 rfl (by decide) u5 _ _ rfl (hrow3.alloc _) ⟨w3.heap.size, 0, none⟩ 1 1 [.int .i64 (k : Int)] rfl rfl (cell_one_new _ _ _) (by simp [Value.oneCell']) (by unfold maxLen; omega) (by omega) (by simp; omega) ?_; intro v' w2 hown' hgrow _; have hq1 := own_grown_low hrow3 hgrow w.heap.size (by omega) hz))
    go_roundw
    case rel =>
      refine ⟨k + 1, by omega, .inr hok, by go_num, ?_, hq1.trans kb, own_below hrow3 hgrow bc3 (by omega) bc3.size⟩
      rw [HS.out (by simp; omega), valsI, List.map_append, List.length_append]
      exact hown'
    case measure => simp [intOf]; omega
end Go.Proofs.Ytnlmpemfpkmodaa
