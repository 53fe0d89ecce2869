/-
  slices.Grow of nothing and slices.Concat over rows of samples, as the law of 'there and back' calls them. Conditions: rows that can be read, none of them nil, up to 65,536 samples together.
-/
import Derived.Test.YtdmedhklcicpeaaZ2
import Derived.Test.YtdmedhklcicpeaaW8
import Derived.Lib.AppendZeros
namespace Go.Proofs.Ytdmedhklcicpeaa
open Go.RowKit

theorem smps_cells {n₀ : Nat} {w : World} {a : Addr} {l : List Sp} (h : Smps n₀ w (some a) l) (j : Nat) (u : Value) (hj : (cellsS l)[j]? = some u) : w.cell? (a.add j) = some u := by
  have hjl : j < l.length * 2 := by
    rcases Nat.lt_or_ge j (l.length * 2) with h | h
    · exact h
    · rw [List.getElem?_eq_none (by rw [cellsS_length]; exact h)] at hj; cases hj
  have hk : j / 2 < l.length := by omega
  obtain ⟨b, off, e, _, h0, h1⟩ := h.at_ hk
  injection e with e
  subst e
  obtain ⟨g0, g1⟩ := cellsS_get l (j / 2) hk
  rw [addr_add]
  rcases Nat.mod_two_eq_zero_or_one j with hm | hm
  · have ej : j = j / 2 * 2 := by omega
    rw [ej] at hj
    rw [g0] at hj
    rw [ej, h0]; exact hj
  · have ej : j = j / 2 * 2 + 1 := by omega
    rw [ej] at hj
    rw [g1] at hj
    rw [ej, show off + (j / 2 * 2 + 1) = off + j / 2 * 2 + 1 by omega, h1]; exact hj

/-- append(nil, make([]T, n)...), for the walk. -/
theorem wpList_append_nil_zeros {P : Program} (w : World) {ops : Array Oper} {rest : List Oper} {o : Oper} {a : Act} {Q : Exit → Act → World → Prop} (hgd : o.guard = none) (s x : Operand) (t tn : TypeId)
    (ho : o.op = .call { callee := .builtin .append, args := #[s, x], argTypes := #[t, tn] }) (e : TypeId) (i : TypeInfo) (z : Value) (kq kn : IntKind) (size : Nat) (ht : P.underlying t = some (.slice e)) (htn : P.underlying tn = some (.int kn)) (hi : P.info? e = some i) (hz : i.zero = some z)
    (hsize : i.size = size) (hzs : z.cells.size = size) (n : Nat) (h0 : 0 < n) (hs0 : 0 < size) (h63 : n ≤ maxLen) (h48 : n * i.bytes ≤ 281474976710656) (hs : a.eval s = .slice none 0 0) (hx : a.eval x = .int kq n)
    (h : ∀ cap cur, n ≤ cap → cap ≤ maxLen → cur.size = cap * size → wpList P ops Q rest (a.put o.dst (.slice (some ⟨w.heap.size, 0, none⟩) n cap)) (w.drew.alloc (.cells cur e))) : wpList P ops Q (o :: rest) a w := by
  refine wpList_plain hgd fun K hK => ?_
  have hrun := Lib.run_append_nil_zeros (P := P) w t tn o.type e i z kq kn ht htn hi hz n h0 (by omega) (by unfold maxLen at h63; omega) h48
  have hge := grownCap_ge w n 0 e
  have hle := grownCap_le_maxLen w n 0 e h63
  unfold Oper.wp
  simp [execOp, ho, resolve, invoke, builtin, hs, hx, hrun, Result.andThen]
  refine hK _ _ (h _ _ hge hle ?_)
  rw [Array.size_append, size_zeroCells, size_zeroCells, hzs, ← Nat.add_mul]
  congr 1
  omega

set_option maxRecDepth 4000 in
set_option maxHeartbeats 1000000 in
theorem grow_any (k : Nat) (w : World) (h0 : 0 < k) (hk : k ≤ 65536) :
    Calls Try.prog 61 #[.slice none 0 0, .int .i64 k] w fun e w' => ∃ v, e = .returned v ∧ w'.ownsRow w.heap.size 38 2 v 0 [] ∧ Below w.heap.size w w' := by
  obtain ⟨i0, hi, hz0, hz1, hz2⟩ := info_parts Try.infoS
  have hd0 : decide ((k : Int) < 0) = false := by simp
  have hd1 : decide (0 < (k : Int)) = true := by simp; omega
  have hd2 : decide (0 < k) = true := by simpa using h0
  go_enter Try.func61, Try.ntmps61
  go_wp2_with (at_builtin; refine wpList_append_nil_zeros _ rfl _ _ 25 3 rfl 38 i0 _ .i64 .i64 2 Try.underlying25 Try.underlying3 hi hz0 hz1 rfl k h0 (by decide) (by unfold maxLen; omega) (by rw [hz2]; omega) rfl rfl ?_; intro cap cur hc1 hc2 hc3)
  go_ret
  refine ⟨_, rfl, ⟨rfl, .inr ⟨w.heap.size, cap, cur, rfl, Nat.le_refl _, heap_alloc_new w.drew _, Nat.zero_le _, hc2, hc3, rfl⟩⟩, ?_⟩
  exact (Below.refl w.heap.size w).drew.alloc (Nat.le_refl _) _

def totalS (rs : List RW) : Nat := (rs.flatMap (·.l)).length
theorem flat_snoc (rs : List RW) (k : Nat) (r : RW) (h : rs[k]? = some r) : (rs.take (k + 1)).flatMap (·.l) = (rs.take k).flatMap (·.l) ++ r.l := by
  rw [List.take_add_one, h, List.flatMap_append]
  simp
theorem flat_le (rs : List RW) (k : Nat) : ((rs.take k).flatMap (·.l)).length ≤ totalS rs := by
  unfold totalS
  have e : rs.flatMap (·.l) = (rs.take k).flatMap (·.l) ++ (rs.drop k).flatMap (·.l) := by rw [← List.flatMap_append, List.take_append_drop]
  rw [e, List.length_append]; omega

set_option maxRecDepth 4000 in
set_option maxHeartbeats 2000000 in
/-- slices.Concat: all rows, one behind the other. -/
theorem concat_any (X : Option Addr) (xn xc : Nat) (rs : List RW) (w : World) (hxn : xn = rs.length) (hxm : xn ≤ 50) (hX : Rws w X rs) (hsome : ∀ r ∈ rs, ∃ a, r.A = some a) (ht0 : 0 < totalS rs) (ht1 : totalS rs ≤ 65536) :
    Calls Try.prog 33 #[.slice X xn xc] w fun e w' => ∃ A n c, e = .returned (.slice A n c) ∧ n = (rs.flatMap (·.l)).length ∧ n ≤ c ∧ Smps w'.heap.size w' A (rs.flatMap (·.l)) ∧ Below w.heap.size w w' := by
  have HX := Lib.hid hX; have HXN := Lib.hid hxn; have HSO := Lib.hid hsome
  clear hX hxn hsome
  obtain ⟨i0, hi, hz0, hz1, hz2⟩ := info_parts Try.infoS
  go_enter Try.func33, Try.ntmps33
  go_wp2
  go_loopw [3, 11] (fun sv i wr => ∃ k : Nat, k ≤ xn ∧ i = .int .i64 k ∧ sv = .int .i64 (((rs.take k).flatMap (·.l)).length : Nat) ∧ w = wr)
    (fun _ i _ => xn - (intOf i).toNat)
  case atStart => exact ⟨0, by omega, rfl, rfl, rfl⟩
  case round =>
    obtain ⟨k, hk, rfl, rfl, rfl⟩ := hrel
    have hfl := flat_le rs k
    by_cases hlt : k < xn
    · obtain ⟨b, off, r, rfl, hbl, hc0, hok, _, hrk⟩ := HX.out.at_ (k := k) (by have := HXN.out; omega)
      have hsn := flat_snoc rs k r hrk
      have hfl2 := flat_le rs (k + 1)
      have hls : ((rs.take (k + 1)).flatMap (·.l)).length = ((rs.take k).flatMap (·.l)).length + r.n := by rw [hsn, List.length_append, hok.1]
      rw [hls] at hfl2
      generalize ((rs.take k).flatMap (·.l)).length = t at *
      obtain ⟨rA, rn, rc, rl⟩ := r
      dsimp only at *
      have hwt : IntKind.i64.wrap ((t : Int) + (rn : Int)) = ((t + rn : Nat) : Int) := by rw [IntWalk.i64_in _ (by omega)]; omega
      have hd0 : decide (((t + rn : Nat) : Int) < 0) = false := by simp; omega
      have HLS := Lib.hid hls
      clear hsn hls hok hrk
      go_wp2
      go_roundw
      case rel => exact ⟨k + 1, by omega, by go_num, by rw [HLS.out]; simp, trivial⟩
      case measure => simp [intOf]; omega
    · obtain rfl : k = xn := by omega
      have htk : rs.take k = rs := List.take_of_length_le (by have := HXN.out; omega)
      rw [htk]
      rw [htk] at hfl
      obtain ⟨t, ht⟩ : ∃ t, t = (rs.flatMap (·.l)).length := ⟨_, rfl⟩
      rw [← ht]
      have hgr := grow_any t w (by rw [ht]; exact ht0) (by rw [ht]; exact ht1)
      have HGR := Lib.hid hgr; have HT := Lib.hid ht
      clear hgr ht hfl htk
      go_wp2_with fail
      refine HGR.out.mono ?_
      rintro e w1 ⟨v1, rfl, hown1, hB1⟩
      go_wp2
      go_loopw [6, 27] (fun ov i wr => ∃ k2 : Nat, k2 ≤ k ∧ i = .int .i64 k2 ∧ wr.ownsRow w.heap.size 38 2 ov ((rs.take k2).flatMap (·.l)).length (cellsS ((rs.take k2).flatMap (·.l))) ∧ Below w.heap.size w wr)
        (fun _ i _ => k - (intOf i).toNat)
      case atStart => exact ⟨0, by omega, rfl, hown1, hB1⟩
      case round =>
        obtain ⟨k2, hk2, rfl, hrow, hBr⟩ := hrel
        have hfl2 := flat_le rs k2
        by_cases hlt2 : k2 < k
        · obtain ⟨b, off, r, rfl, hbl, hc0, hok, _, hrk⟩ := (HX.out.on hBr).at_ (k := k2) (by have := HXN.out; omega)
          have hsn := flat_snoc rs k2 r hrk
          have hfl3 := flat_le rs (k2 + 1)
          rw [hsn, List.length_append] at hfl3
          obtain ⟨ra, hra⟩ := HSO.out r (List.mem_of_getElem? hrk)
          obtain ⟨rA, rn, rc, rl⟩ := r
          dsimp only at *
          subst hra
          obtain ⟨hok1, _, hok2⟩ := hok
          dsimp only at *
          have hcl := smps_cells hok2
          have HSN := Lib.hid hsn; have HCL := Lib.hid hcl; have HOK1 := Lib.hid hok1
          rw [← hok1] at hfl3
          have hcs : (cellsS rl).length = rn * 2 := by rw [cellsS_length, hok1]
          have HCS := Lib.hid hcs
          clear hsn hcl hok1 hok2 hrk hcs
          go_wp2_with (at_builtin; refine wpList_append_own _ rfl _ _ 25 rfl w.heap.size 38 i0 (.agg #[.int .i64 0, .int .i64 0]) 2 16 Try.underlying25 hi hz0 hz1 hz2 rfl (by decide) u6 _ _ rfl hrow ra rn rc (cellsS rl) rfl HCS.out HCL.out (cellsS_one rl) (by unfold maxLen; omega) (by omega) hBr.size ?_; intro v' w3 hown' hgrow _)
          go_roundw
          case rel =>
            refine ⟨k2 + 1, by omega, by go_num, ?_, hBr.trans (own_grown_low2 hrow hgrow hBr.size)⟩
            rw [HSN.out, List.length_append, cellsS_append, ← HOK1.out]
            exact hown'
          case measure => simp [intOf]; omega
        · obtain rfl : k2 = k := by omega
          have htk : rs.take k2 = rs := List.take_of_length_le (by have := HXN.out; omega)
          rw [htk] at hrow
          obtain ⟨OA, oc, hv, hS⟩ := smps_of_own hrow
          subst hv
          have hcap := own_cap hrow
          have HS := Lib.hid hS
          clear hS hrow
          go_wp2
          go_ret
          exact ⟨OA, _, oc, rfl, rfl, hcap, HS.out, hBr⟩
end Go.Proofs.Ytdmedhklcicpeaa
