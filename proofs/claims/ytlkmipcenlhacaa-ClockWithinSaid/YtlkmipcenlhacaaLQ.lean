/-
  checkClock, expected, window, copied, late and made of package clock. Conditions: those that each theorem names. (Printed by tools/gen13q.py.)
-/
import Derived.Test.YtlkmipcenlhacaaLE
import Derived.Deep.CutBlock
namespace Go.Proofs.Ytlkmipcenlhacaa
open Go.RowKit

/-- A deviation that may not be. -/
def badDv (W x : Int) : Bool := decide (x < -W) || decide (W < x)
def headK (k : Ck) : Prop := (((0 ≤ k.st ∧ k.st ≤ 1099494850560) ∧ 0 ≤ k.sl) ∧ k.sl ≤ 1048576) ∧ k.dv.length ≤ 8
theorem okCk_any {W : Int} {k : Ck} : okCk W k ↔ headK k ∧ k.dv.any (badDv W) = false := by
  unfold okCk headK
  constructor
  · rintro ⟨⟨h1, h2, h3⟩, h4, h5⟩
    refine ⟨⟨⟨⟨h1, h2⟩, h3⟩, h4⟩, ?_⟩
    rw [List.any_eq_false]
    intro x hx
    obtain ⟨i, hi, rfl⟩ := List.getElem_of_mem hx
    have := h5 i hi
    rw [nth_at hi] at this
    unfold badDv; simp; omega
  · rintro ⟨⟨⟨⟨h1, h2⟩, h3⟩, h4⟩, h5⟩
    refine ⟨⟨h1, h2, h3⟩, h4, fun i hi => ?_⟩
    rw [List.any_eq_false] at h5
    have := h5 _ (List.getElem_mem hi)
    rw [nth_at hi]
    unfold badDv at this; simp at this; omega
theorem anyK_snoc (p : Int → Bool) (l : List Int) (k : Nat) (h : k < l.length) : (l.take (k + 1)).any p = ((l.take k).any p || p (nth l k)) := by
  rw [take_nth l k h, List.any_append]; simp
theorem anyK_from (p : Int → Bool) (l : List Int) (k : Nat) (h : k < l.length) (hp : p (nth l k) = true) : l.any p = true := by
  rw [List.any_eq_true]; exact ⟨nth l k, nth_mem h, hp⟩
set_option maxRecDepth 4000 in
set_option maxHeartbeats 1000000 in
theorem badDv_any (x N S G W D L : Int) (Ac As : Option Addr) (nc cc ns cs g : Nat) (w : World) (hW : 0 ≤ W ∧ W ≤ 1048576) (hg : Blk w g 25 #[.int .i64 N, .int .i64 S, .int .i64 G, .int .i64 W, .int .i64 D, .int .i64 L, .slice Ac nc cc, .slice As ns cs]) :
    Calls Try.prog 53 #[.int .i64 x, .pointer (some ⟨g, 0, none⟩)] w fun e w' => e = .returned (.bool (badDv W x)) ∧ w = w' := by
  obtain ⟨p0, p1, p2, p3, p4, p5, p6, p7⟩ := hg.eight
  have ew : IntKind.i64.wrap (-W) = -W := IntWalk.i64_in _ (by omega)
  unfold badDv
  by_cases h : x < -W
  · have d : decide (x < -W) = true := by simpa using h
    rw [d]
    go_enter Try.func53, Try.ntmps53
    go_wp2
    go_ret
    first | exact ⟨rfl, rfl⟩ | simp
  · have d : decide (x < -W) = false := by simpa using h
    rw [d]
    generalize hq : decide (W < x) = q at *
    go_enter Try.func53, Try.ntmps53
    go_wp2
    go_ret
    first | exact ⟨rfl, rfl⟩ | simp
set_option maxRecDepth 4000 in
set_option maxHeartbeats 1000000 in
theorem indexD_any (A : Option Addr) (n c : Nat) (l : List Int) (N S G W D L : Int) (Ac As : Option Addr) (nc cc ns cs g : Nat) (w : World) (hn : n = l.length) (hm : n ≤ maxLen) (hA : Ints w.heap.size w A l) (hW : 0 ≤ W ∧ W ≤ 1048576) (hg : Blk w g 25 #[.int .i64 N, .int .i64 S, .int .i64 G, .int .i64 W, .int .i64 D, .int .i64 L, .slice Ac nc cc, .slice As ns cs]) :
    Calls Try.prog 64 #[.slice A n c, .func (.func 53) #[] #[.pointer (some ⟨g, 0, none⟩)]] w fun e w' => ∃ r, e = .returned (.int .i64 r) ∧ decide (0 ≤ r) = l.any (badDv W) ∧ w = w' := by
  have hb := fun x => badDv_any x N S G W D L Ac As nc cc ns cs g w hW hg
  generalize badDv W = P at hb ⊢
  have HB := Lib.hid hb
  have HA := Lib.hid hA
  have HN := Lib.hid hn; clear hn hA hb hg
  unfold maxLen at hm
  go_enter Try.func64, Try.ntmps64
  go_wp2
  go_loopw [5, 8] (fun _ i wr => ∃ k : Nat, k ≤ n ∧ i = .int .i64 k ∧ (l.take k).any P = false ∧ wr = w) (fun _ i _ => n - (intOf i).toNat)
  case atStart => exact ⟨0, by omega, rfl, rfl, rfl⟩
  case round =>
    obtain ⟨k, hk, rfl, hno, rfl⟩ := hrel
    have HNO := Lib.hid hno; clear hno
    by_cases hlt : k < n
    · have hkl : k < l.length := by have := HN.out; omega
      have HKL := Lib.hid hkl; clear hkl
      obtain ⟨b, off, rfl, hbl, hcell⟩ := HA.out.nAt (k := k) HKL.out
      have hs := anyK_snoc P l k HKL.out
      rw [HNO.out] at hs
      have hf := anyK_from P l k HKL.out
      have HS := Lib.hid hs; have HF := Lib.hid hf; clear hs hf
      have hbk := HB.out (nth l k)
      obtain ⟨y, hy⟩ : ∃ y, y = nth l k := ⟨_, rfl⟩
      rw [← hy] at hcell hbk
      have HY := Lib.hid hy; clear hy
      obtain ⟨q, hq⟩ : ∃ q, q = P y := ⟨_, rfl⟩
      rw [← hq] at hbk
      have HQ := Lib.hid hq; clear hq
      have HBK := Lib.hid hbk; clear hbk
      cases q with
      | true =>
        go_wp2_with (go_at_call 53; refine HBK.out.mono ?_; rintro e w3 ⟨rfl, rfl⟩)
        go_ret
        exact ⟨_, rfl, by rw [HF.out (by rw [← HY.out, ← HQ.out])]; simp, rfl⟩
      | false =>
        go_wp2_with (go_at_call 53; refine HBK.out.mono ?_; rintro e w3 ⟨rfl, rfl⟩)
        go_roundw
        case rel => exact ⟨k + 1, by omega, by go_num, by rw [HS.out, ← HY.out, ← HQ.out]; rfl, by trivial⟩
        case measure => simp [intOf]; omega
    · go_wp2
      go_ret
      have h3 := HNO.out
      rw [List.take_of_length_le (by have := HN.out; omega)] at h3
      exact ⟨_, rfl, by rw [h3]; decide, rfl⟩
set_option maxRecDepth 4000 in
set_option maxHeartbeats 1000000 in
theorem containsD_any (A : Option Addr) (n c : Nat) (l : List Int) (N S G W D L : Int) (Ac As : Option Addr) (nc cc ns cs g : Nat) (w : World) (hn : n = l.length) (hm : n ≤ maxLen) (hA : Ints w.heap.size w A l) (hW : 0 ≤ W ∧ W ≤ 1048576) (hg : Blk w g 25 #[.int .i64 N, .int .i64 S, .int .i64 G, .int .i64 W, .int .i64 D, .int .i64 L, .slice Ac nc cc, .slice As ns cs]) :
    Calls Try.prog 52 #[.slice A n c, .func (.func 53) #[] #[.pointer (some ⟨g, 0, none⟩)]] w fun e w' => e = .returned (.bool (l.any (badDv W))) ∧ w = w' := by
  have hc := indexD_any A n c l N S G W D L Ac As nc cc ns cs g w hn hm hA hW hg
  generalize l.any (badDv W) = q at hc ⊢
  have HC := Lib.hid hc; clear hc hA hn hg
  go_enter Try.func52, Try.ntmps52
  go_wp2_with (go_at_call 64; refine HC.out.mono ?_; rintro e w3 ⟨r, rfl, hr, rfl⟩)
  go_ret
  rw [← hr]
  exact ⟨rfl, rfl⟩
set_option maxRecDepth 100000 in
set_option maxHeartbeats 4000000 in
theorem ckClock_any (m : ML) (c s : Slc) (k : Ck) (v : Slc) (w : World) (hW : 0 ≤ m.W ∧ m.W ≤ 1048576) (hk : CkOk w.heap.size w k v) : Calls Try.prog 34 #[vM m c s, .agg (cK k v)] w fun e w' => e = .returned (.int .i64 (if okCk m.W k then 0 else 130)) ∧ Below w.heap.size w w' := by
  obtain ⟨R, hR⟩ : ∃ R : Int, R = (if okCk m.W k then 0 else 130) := ⟨_, rfl⟩
  rw [← hR]
  have h130 : ¬ headK k → R = 130 := fun h => by rw [hR, if_neg (fun h2 => h (okCk_any.1 h2).1)]
  have hbad : k.dv.any (badDv m.W) = true → R = 130 := fun h => by rw [hR, if_neg (fun h2 => by rw [(okCk_any.1 h2).2] at h; cases h)]
  have hgood : headK k → k.dv.any (badDv m.W) = false → R = 0 := fun h h2 => by rw [hR, if_pos (okCk_any.2 ⟨h, h2⟩)]
  clear hR
  have hA := hk.d; have hn := hk.dn; have hm := hk.dm
  clear hk
  unfold headK at h130 hgood
  obtain ⟨N, S, G, W, D, L, cold, ms⟩ := m
  obtain ⟨Ac, nc, cc⟩ := c
  obtain ⟨As, ns, cs⟩ := s
  obtain ⟨st, sl, dv⟩ := k
  obtain ⟨A, n, c⟩ := v
  dsimp only [vM, cK] at *
  rw [← hn] at h130 hgood
  obtain ⟨km, kc, bc⟩ := bx2 w #[.int .i64 N, .int .i64 S, .int .i64 G, .int .i64 W, .int .i64 D, .int .i64 L, .slice Ac nc cc, .slice As ns cs] #[.int .i64 st, .int .i64 sl, .slice A n c] 25 28
  have hc := containsD_any A n c dv N S G W D L Ac As nc cc ns cs w.heap.size _ hn hm ((hA.below bc).mono bc.size) hW km
  obtain ⟨q, hq⟩ : ∃ q, q = dv.any (badDv W) := ⟨_, rfl⟩
  rw [← hq] at hc hbad hgood
  have HC := Lib.hid hc; clear hc hq hA hn hm
  obtain ⟨p0, p1, p2, p3, p4, p5, p6, p7⟩ := km.eight; obtain ⟨q0, q1, q2, -⟩ := kc.three
  by_cases c0 : 0 ≤ st
  rotate_left
  · obtain rfl : R = 130 := h130 (fun hh => c0 (by have := hh.1.1.1.1; omega))
    have d0 : decide (st < 0) = true := by simp; omega
    clear h130 hbad hgood
    go_enter Try.func34, Try.ntmps34
    go_wp2
    go_ret
    exact ⟨rfl, bc⟩
  have d0 : decide (st < 0) = false := by simp; omega
  by_cases c1 : st ≤ 1099494850560
  rotate_left
  · obtain rfl : R = 130 := h130 (fun hh => c1 (by have := hh.1.1.1.2; omega))
    have d1 : decide (1099494850560 < st) = true := by simp; omega
    clear h130 hbad hgood
    go_enter Try.func34, Try.ntmps34
    go_wp2
    go_ret
    exact ⟨rfl, bc⟩
  have d1 : decide (1099494850560 < st) = false := by simp; omega
  by_cases c2 : 0 ≤ sl
  rotate_left
  · obtain rfl : R = 130 := h130 (fun hh => c2 (by have := hh.1.1.2; omega))
    have d2 : decide (sl < 0) = true := by simp; omega
    clear h130 hbad hgood
    go_enter Try.func34, Try.ntmps34
    go_wp2
    go_ret
    exact ⟨rfl, bc⟩
  have d2 : decide (sl < 0) = false := by simp; omega
  by_cases c3 : sl ≤ 1048576
  rotate_left
  · obtain rfl : R = 130 := h130 (fun hh => c3 (by have := hh.1.2; omega))
    have d3 : decide (1048576 < sl) = true := by simp; omega
    clear h130 hbad hgood
    go_enter Try.func34, Try.ntmps34
    go_wp2
    go_ret
    exact ⟨rfl, bc⟩
  have d3 : decide (1048576 < sl) = false := by simp; omega
  by_cases c4 : n ≤ 8
  rotate_left
  · obtain rfl : R = 130 := h130 (fun hh => c4 (by have := hh.2; omega))
    have d4 : decide (8 < (n : Int)) = true := by simp; omega
    clear h130 hbad hgood
    go_enter Try.func34, Try.ntmps34
    go_wp2
    go_ret
    exact ⟨rfl, bc⟩
  have d4 : decide (8 < (n : Int)) = false := by simp; omega
  cases q with
  | true =>
    obtain rfl : R = 130 := hbad rfl
    clear h130 hbad hgood
    go_enter Try.func34, Try.ntmps34
    go_wp2_with (first | (go_at_call 52; refine HC.out.mono ?_; rintro e w3 ⟨rfl, rfl⟩; dsimp only))
    go_ret
    exact ⟨rfl, bc⟩
  | false =>
    obtain rfl : R = 0 := hgood ⟨⟨⟨⟨c0, c1⟩, c2⟩, c3⟩, by omega⟩ rfl
    clear h130 hbad hgood
    go_enter Try.func34, Try.ntmps34
    go_wp2_with (first | (go_at_call 52; refine HC.out.mono ?_; rintro e w3 ⟨rfl, rfl⟩; dsimp only))
    go_ret
    exact ⟨rfl, bc⟩
set_option maxRecDepth 100000 in
set_option maxHeartbeats 4000000 in
theorem expK_any (m : ML) (c s : Slc) (k : Ck) (v : Slc) (w : World) (h1 : 0 ≤ k.st ∧ k.st ≤ 1099511627776) (h2 : 0 ≤ m.G ∧ m.G ≤ 1048576) (h3 : 0 ≤ m.L ∧ m.L ≤ 64) : Calls Try.prog 40 #[vM m c s, .agg (cK k v)] w fun e w' => e = .returned (.int .i64 (expK m k)) ∧ Below w.heap.size w w' := by
  unfold expK
  obtain ⟨N, S, G, W, D, L, cold, ms⟩ := m
  obtain ⟨Ac, nc, cc⟩ := c
  obtain ⟨As, ns, cs⟩ := s
  obtain ⟨st, sl, dv⟩ := k
  obtain ⟨A, n, c⟩ := v
  dsimp only [vM, cK] at *
  obtain ⟨km, kc, bc⟩ := bx2 w #[.int .i64 N, .int .i64 S, .int .i64 G, .int .i64 W, .int .i64 D, .int .i64 L, .slice Ac nc cc, .slice As ns cs] #[.int .i64 st, .int .i64 sl, .slice A n c] 25 28
  obtain ⟨p0, p1, p2, p3, p4, p5, p6, p7⟩ := km.eight; obtain ⟨q0, q1, q2, -⟩ := kc.three
  have e1 : IntKind.i64.wrap (st + G) = st + G := IntWalk.i64_in _ (by omega)
  have e2 : IntKind.i64.wrap (st + G + L) = st + G + L := IntWalk.i64_in _ (by omega)
  go_enter Try.func40, Try.ntmps40
  go_wp2
  go_ret
  exact ⟨rfl, bc⟩
theorem near_threeM {w0 : World} {g : Nat} {t : TypeId} {a b c d e f k l : Value} (h : Blk w0 g t #[a, b, c, d, e, f, k, l]) : (∀ n : NearW w0, n.W.cell? ⟨g, 0, none⟩ = some a) ∧ (∀ n : NearW w0, n.W.cell? ⟨g, 1, none⟩ = some b) ∧ (∀ n : NearW w0, n.W.cell? ⟨g, 2, none⟩ = some c) ∧ (∀ n : NearW w0, n.W.cell? ⟨g, 3, none⟩ = some d) ∧ (∀ n : NearW w0, n.W.cell? ⟨g, 4, none⟩ = some e) ∧ (∀ n : NearW w0, n.W.cell? ⟨g, 5, none⟩ = some f) ∧ (∀ n : NearW w0, n.W.cell? ⟨g, 6, none⟩ = some k) ∧ (∀ n : NearW w0, n.W.cell? ⟨g, 7, none⟩ = some l) :=
  ⟨fun n => ((h.below n.h h.lt).eight).1, fun n => ((h.below n.h h.lt).eight).2.1, fun n => ((h.below n.h h.lt).eight).2.2.1, fun n => ((h.below n.h h.lt).eight).2.2.2.1, fun n => ((h.below n.h h.lt).eight).2.2.2.2.1, fun n => ((h.below n.h h.lt).eight).2.2.2.2.2.1, fun n => ((h.below n.h h.lt).eight).2.2.2.2.2.2.1, fun n => ((h.below n.h h.lt).eight).2.2.2.2.2.2.2⟩
set_option maxRecDepth 100000 in
set_option maxHeartbeats 4000000 in
theorem window_any (m : ML) (c s : Slc) (k : Ck) (v : Slc) (w : World) (h1 : 0 ≤ k.st ∧ k.st ≤ 1099511627776) (h2 : 0 ≤ m.G ∧ m.G ≤ 1048576) (h3 : 0 ≤ m.L ∧ m.L ≤ 64) (h4 : 0 ≤ m.W ∧ m.W ≤ m.G) : Calls Try.prog 36 #[vM m c s, .agg (cK k v)] w fun e w' => e = .returned (.agg #[.int .i64 (max (expK m k - m.W) 0), .int .i64 (expK m k + m.W + 1)]) ∧ Below w.heap.size w w' := by
  have hx := fun U : World => expK_any m c s k v U h1 h2 h3
  have hexp : 0 ≤ expK m k - m.W ∧ 0 ≤ expK m k ∧ expK m k ≤ 1099512676352 + 64 ∧ m.W ≤ 1048576 := by unfold expK; omega
  generalize expK m k = ex at *
  obtain ⟨N, S, G, W, D, L, cold, ms⟩ := m
  obtain ⟨Ac, nc, cc⟩ := c
  obtain ⟨As, ns, cs⟩ := s
  obtain ⟨st, sl, dv⟩ := k
  obtain ⟨A, n, c⟩ := v
  dsimp only [vM, cK] at *
  clear h1 h2 h3
  obtain ⟨x1, x2, x3, x4⟩ := hexp
  obtain ⟨km, kc, kr, bc⟩ := bx3 w #[.int .i64 N, .int .i64 S, .int .i64 G, .int .i64 W, .int .i64 D, .int .i64 L, .slice Ac nc cc, .slice As ns cs] #[.int .i64 st, .int .i64 sl, .slice A n c] #[.int .i64 0, .int .i64 0] 25 28 30
  have e1 : IntKind.i64.wrap (ex - W) = ex - W := IntWalk.i64_in _ (by omega)
  have e2 : IntKind.i64.wrap (ex + W) = ex + W := IntWalk.i64_in _ (by omega)
  have e3 : IntKind.i64.wrap (ex + W + 1) = ex + W + 1 := IntWalk.i64_in _ (by omega)
  have hmx : max (ex - W) 0 = ex - W := by omega
  have hmx2 : max 0 (ex - W) = ex - W := by omega
  rw [hmx]
  obtain ⟨p0, p1, p2, p3, p4, p5, p6, p7⟩ := near_threeM km
  obtain ⟨q0, q1, q2⟩ := near_three kc
  have HX := Lib.hid hx; have KM := Lib.hid km; have KC := Lib.hid kc; have KR := Lib.hid kr; have BC := Lib.hid bc
  clear hx km kc kr bc
  go_enter Try.func36, Try.ntmps36
  go_wp2_with fail
  refine wp_region_near (by kernel_rfl) (by kernel_rfl) ?_
  repeat (go_big_quiet_step (first
    | (go_at_call 40; with_reducible exact near_call (HX.out _))))
  refine wpQuiet_nil ?_
  rintro _ ⟨nw, rfl⟩
  have kr := KR.out.on nw.h
  have bc := BC.out.trans (nw.h.mono BC.out.size)
  clear p0 p1 p2 p3 p4 p5 p6 p7 q0 q1 q2 KM KC KR BC HX
  obtain ⟨r0, r1, g0, g1⟩ := kr.two
  go_wp2
  · exact bodyPost_ret (v := .agg #[.int .i64 (ex - W), .int .i64 (ex + W + 1)]) (by simp [results, Try.results36, go_sem, r0, r1]) rfl ⟨rfl, by repeat (first | refine Below.setCell ?_ (by dsimp only; omega) _ | exact bc)⟩
  · exact bodyPost_ret (v := .agg #[.int .i64 0, .int .i64 (ex + W + 1)]) (by simp [results, Try.results36, go_sem, r0, r1]) rfl ⟨by rw [show ex - W = 0 by omega], by repeat (first | refine Below.setCell ?_ (by dsimp only; omega) _ | exact bc)⟩
end Go.Proofs.Ytlkmipcenlhacaa
