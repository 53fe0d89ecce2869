/-
  Views of package member: the sets with which a sender's frame is tried are told, one after the other. No condition.
-/
import Derived.Test.YtffbhdllepjdeaaVG
import Derived.Sort.QuietIn
namespace Go.Proofs.Ytffbhdllepjdeaa
open Go.RowKit Go.Shelf
attribute [local go_sem] Oper.semAt_some

theorem room_none {F : Fence} (hd : F.depth = none) (k : Nat) : F.room k := fun d h => by rw [hd] at h; cases h
theorem yieldAt_any {F : Fence} (hd : F.depth = none) {m : Nat} (m' : Nat) {P : Program} {l : Nat} {args : Array Value} {W : World} {R : Ending → World → Prop} (h : YieldAt F m P l args W R) : YieldAt F m' P l args W R := by
  obtain ⟨fn, tmps, assign, body, hy, hR⟩ := h
  exact ⟨fn, tmps, assign, body, hy, hR.1, fun c cs _ => hR.2 c cs (room_none hd _)⟩

/-- The first k of a list, with their places. -/
def upZ (l : List Int) (k : Nat) : List (Nat × Int) := (List.range k).map fun j => (j, l[j]?.getD 0)
abbrev encZ (x : Nat × Int) : Array Value := #[Value.int .i64 (x.1 : Int), .int .i64 x.2]
/-- What a yield does. -/
def YieldsZ (lp : Nat) (J Jx : List (Nat × Int) → World → Prop) : Prop :=
  ∀ (q : Nat) (pre : List (Nat × Int)) (x : Nat × Int) (W1 : World), J pre W1 → pre.length < 2 → YieldAt Fence.wide q Try.prog lp (encZ x) W1 fun e W' =>
    (e = .returned (.bool true) ∧ J (pre ++ [x]) W') ∨ (e = .returned (.bool false) ∧ Jx (pre ++ [x]) W')

set_option maxRecDepth 100000 in
set_option maxHeartbeats 2000000 in
theorem two_in (n lp : Nat) (a b : Int) (J Jx : List (Nat × Int) → World → Prop) (W : World) (hY : YieldsZ lp J Jx) (h0 : J [] W) :
    CallsIn Fence.wide n Try.prog 38 #[.func (.yield lp) #[] #[], .int .i64 a, .int .i64 b] W fun e W' => (∃ v, e = .returned v) ∧
      ((∃ ys, ys = upZ [a, b] 2 ∧ J ys W') ∨ (∃ pre, (∃ k, k ≤ 2 ∧ pre = upZ [a, b] k) ∧ Jx pre W')) := by
  have HY := Lib.hid hY; have H0 := Lib.hid h0; clear hY h0
  refine callsIn_of_wp Try.func38 rfl trivial ?_ rfl
  simp only [Try.ntmps38, List.size_toArray, List.length_cons, List.length_nil, Nat.reduceAdd, Nat.reduceSub, Array.replicate_succ, Array.replicate_zero, List.push_toArray, List.append_toArray, List.nil_append, List.cons_append]
  obtain ⟨fn, tmps, assign, body, hy, hR⟩ := HY.out (n - 1) [] (0, a) W H0.out (by decide)
  replace hy : (Instr.yield lp #[.int .i64 0, .int .i64 a]).run Try.prog W = .ok (.round lp fn tmps assign body) W := hy
  gi_wp2_with fail
  refine ⟨(fun h => by cases h), hR.mono ?_⟩
  rintro e W3 (⟨rfl, hJ3⟩ | ⟨rfl, hJx3⟩)
  · have HJ3 := Lib.hid hJ3; clear hJ3 hy
    obtain ⟨fn2, tmps2, assign2, body2, hy2, hR2⟩ := HY.out (n - 1) [(0, a)] (1, b) W3 HJ3.out (by simp)
    replace hy2 : (Instr.yield lp #[.int .i64 1, .int .i64 b]).run Try.prog W3 = .ok (.round lp fn2 tmps2 assign2 body2) W3 := hy2
    gi_wp2_with fail
    refine ⟨(fun h => by cases h), hR2.mono ?_⟩
    rintro e W4 (⟨rfl, hJ4⟩ | ⟨rfl, hJ4⟩)
    · have HJ4 := Lib.hid hJ4; clear hJ4 hy2
      gi_wp2
      go_end0
      exact ⟨⟨_, rfl⟩, .inl ⟨_, rfl, HJ4.out⟩⟩
    · have HJ4 := Lib.hid hJ4; clear hJ4 hy2
      gi_wp2
      go_end0
      exact ⟨⟨_, rfl⟩, .inr ⟨_, ⟨2, by omega, rfl⟩, HJ4.out⟩⟩
  · have HJ3 := Lib.hid hJx3; clear hJx3 hy
    gi_wp2
    go_end0
    exact ⟨⟨_, rfl⟩, .inr ⟨_, ⟨1, by omega, rfl⟩, HJ3.out⟩⟩

set_option maxRecDepth 100000 in
set_option maxHeartbeats 4000000 in
theorem views1_in (n lp mb sb : Nat) (hn : 1 ≤ n) (m : MV) (s : Int) (J Jx : List (Nat × Int) → World → Prop) (W : World) (hJ : AbidesFrom W.heap.size J) (hY : YieldsZ lp J Jx)
    (hm : Blk W mb 23 m.cells) (hs : Blk W sb 3 #[.int .i64 s]) (h0 : J [] W) :
    CallsIn Fence.wide n Try.prog 35 #[.func (.yield lp) #[] #[], .pointer (some ⟨mb, 0, none⟩), .pointer (some ⟨sb, 0, none⟩)] W fun e W' => (∃ v, e = .returned v) ∧
      ((∃ ys, ys = upZ (viewsV m s) (viewsV m s).length ∧ J ys W') ∨ (∃ pre, (∃ k, k ≤ (viewsV m s).length ∧ pre = upZ (viewsV m s) k) ∧ Jx pre W')) := by
  have hck := fun W => checkOther_any m s W
  have HY := Lib.hid hY; have H0 := Lib.hid h0; have HJ := Lib.hid hJ; clear hY h0 hJ
  by_cases hask : askV m s = 0
  · have hv : viewsV m s = setsV m s := if_pos hask
    have hok : okV m := by
      rcases Classical.em (okV m) with h | h
      · exact h
      · rw [ask_no h] at hask; cases hask
    have hoth : othV m s := by
      rcases Classical.em (othV m s) with h | h
      · exact h
      · rw [ask_oth hok h] at hask; cases hask
    rw [hask] at hck
    rw [hv]
    obtain ⟨n0, n1, i0, i1, r0, r1⟩ := ok_node hok
    obtain ⟨⟨s0, s1⟩, s2⟩ := hoth
    have hG := hok.2.2.2.2.2.2.1
    have hbs := fun W => vbit_any s W s0 (by omega)
    have hbi := fun W => vbit_any m.I W i0 (by omega)
    have hbr := fun W => vbit_any m.R W r0 (by omega)
    clear hv hok hask s2 n0 n1 i0 i1 r0 r1 s0 s1
    obtain ⟨I, N, S, A, F, G, R⟩ := m
    unfold setsV orI outI MV.cells at *
    dsimp only at *
    have HCK := Lib.hid hck; have HBS := Lib.hid hbs; have HBI := Lib.hid hbi; have HBR := Lib.hid hbr; clear hck hbs hbi hbr
    by_cases g0 : G = 0
    · subst g0
      rw [if_pos rfl]
      clear hG
      show CallsIn Fence.wide n Try.prog 35 _ W fun e W' => (∃ v, e = .returned v) ∧ ((∃ ys, ys = upZ [(bits .or .i64 S (pw s))] 1 ∧ J ys W') ∨ (∃ pre, (∃ k, k ≤ 1 ∧ pre = upZ [(bits .or .i64 S (pw s))] k) ∧ Jx pre W'))
      refine callsIn_of_wp Try.func35 rfl trivial ?_ rfl
      simp only [Try.ntmps35, List.size_toArray, List.length_cons, List.length_nil, Nat.reduceAdd, Nat.reduceSub, Array.replicate_succ, Array.replicate_zero, List.push_toArray, List.append_toArray, List.nil_append, List.cons_append]
      obtain ⟨⟨c0, c1, c2, c3, c4, c5, c6⟩, -⟩ := hm.seven
      obtain ⟨q0, -⟩ := hs.one
      gi_wp2_with fail
      clear c0 c1 c2 c3 c4 c5 c6 q0
      refine ⟨trivial, ?_⟩
      refine (callsIn_wide.2 (HCK.out _)).mono ?_
      rintro e W1 ⟨rfl, hB⟩
      dsimp only
      have h1 := HJ.out _ _ _ none H0.out (only_of_below hB none) (fun r e => by cases e)
      replace hm := hm.on hB; replace hs := hs.on hB; clear hB H0
      have H1 := Lib.hid h1; clear h1
      obtain ⟨⟨c0, c1, c2, c3, c4, c5, c6⟩, -⟩ := hm.seven
      obtain ⟨q0, -⟩ := hs.one
      gi_wp2
      refine wpIn_region_quiet_lit rfl (by kernel_rfl) (by kernel_rfl) ?_
      repeat (gi_big_quiet_step (fail))
      refine BigFrame.wpQuietIn_want (fun _ _ _ _ => trivial) (by rfl) ?_
      intro K hK
      gi_big_quiet_op
      gi_big_quiet_call ((gi_at_call 37; with_reducible exact callsIn_wide.2 (Calls.quiet_of_same (pure_quiet (HBS.out _)))))
      repeat (gi_big_quiet_step (fail))
      refine wpQuietIn_nil ?_
      rintro _ ⟨nq, rfl⟩
      clear c0 c1 c2 c3 c4 c5 c6 q0
      have hd := below_drewN (Below.refl W1.heap.size W1) nq
      have h1 := HJ.out _ _ _ none H1.out (only_of_below hd none) (fun r e => by cases e)
      replace hm := hm.on hd; replace hs := hs.on hd; clear hd H1
      have H1 := Lib.hid h1; clear h1
      generalize W1.drewN nq = W2 at *
      obtain ⟨⟨c0, c1, c2, c3, c4, c5, c6⟩, -⟩ := hm.seven
      obtain ⟨q0, -⟩ := hs.one
      gi_wp2
      refine wpIn_region_quiet_lit rfl (by kernel_rfl) (by kernel_rfl) ?_
      repeat (gi_big_quiet_step (fail))
      refine BigFrame.wpQuietIn_want (fun _ _ _ _ => trivial) (by rfl) ?_
      intro K hK
      gi_big_quiet_op
      gi_big_quiet_call ((gi_at_call 37; with_reducible exact callsIn_wide.2 (Calls.quiet_of_same (pure_quiet (HBI.out _)))))
      repeat (gi_big_quiet_step (fail))
      refine BigFrame.wpQuietIn_want (fun _ _ _ _ => trivial) (by rfl) ?_
      intro K hK
      gi_big_quiet_op
      gi_big_quiet_call ((gi_at_call 37; with_reducible exact callsIn_wide.2 (Calls.quiet_of_same (pure_quiet (HBR.out _)))))
      repeat (gi_big_quiet_step (fail))
      refine wpQuietIn_nil ?_
      rintro _ ⟨nq, rfl⟩
      clear c0 c1 c2 c3 c4 c5 c6 q0
      have hd := below_drewN (Below.refl W2.heap.size W2) nq
      have h1 := HJ.out _ _ _ none H1.out (only_of_below hd none) (fun r e => by cases e)
      replace hm := hm.on hd; replace hs := hs.on hd; clear hd H1
      have H1 := Lib.hid h1; clear h1
      generalize W2.drewN nq = W3 at *
      obtain ⟨⟨c0, c1, c2, c3, c4, c5, c6⟩, -⟩ := hm.seven
      obtain ⟨q0, -⟩ := hs.one
      obtain ⟨fn, tmps, assign, body, hy, hR⟩ := HY.out (n - 1) [] (0, bits .or .i64 S (pw s)) W3 H1.out (by decide)
      replace hy : (Instr.yield lp #[.int .i64 0, .int .i64 (bits .or .i64 S (pw s))]).run Try.prog W3 = .ok (.round lp fn tmps assign body) W3 := hy
      gi_wp2_with fail
      refine hR.mono ?_
      rintro e W4 (⟨rfl, hJ4⟩ | ⟨rfl, hJ4⟩)
      · have HJ4 := Lib.hid hJ4; clear hJ4 hy
        gi_wp2
        go_end0
        exact ⟨⟨_, rfl⟩, .inl ⟨_, rfl, HJ4.out⟩⟩
      · have HJ4 := Lib.hid hJ4; clear hJ4 hy
        gi_wp2
        go_end0
        exact ⟨⟨_, rfl⟩, .inr ⟨_, ⟨1, by simp, rfl⟩, HJ4.out⟩⟩
    rw [if_neg g0]
    have e0 : (G == 0) = false := by simpa using g0
    by_cases g1 : G = 1
    · subst g1
      rw [if_pos rfl]
      clear hG g0
      show CallsIn Fence.wide n Try.prog 35 _ W fun e W' => (∃ v, e = .returned v) ∧ ((∃ ys, ys = upZ [bits .or .i64 (bits .or .i64 S (pw s)) (pw I), bits .andNot .i64 (bits .or .i64 S (pw s)) (pw I)] 2 ∧ J ys W') ∨ (∃ pre, (∃ k, k ≤ 2 ∧ pre = upZ [bits .or .i64 (bits .or .i64 S (pw s)) (pw I), bits .andNot .i64 (bits .or .i64 S (pw s)) (pw I)] k) ∧ Jx pre W'))
      refine callsIn_of_wp Try.func35 rfl trivial ?_ rfl
      simp only [Try.ntmps35, List.size_toArray, List.length_cons, List.length_nil, Nat.reduceAdd, Nat.reduceSub, Array.replicate_succ, Array.replicate_zero, List.push_toArray, List.append_toArray, List.nil_append, List.cons_append]
      obtain ⟨⟨c0, c1, c2, c3, c4, c5, c6⟩, -⟩ := hm.seven
      obtain ⟨q0, -⟩ := hs.one
      gi_wp2_with fail
      clear c0 c1 c2 c3 c4 c5 c6 q0
      refine ⟨trivial, ?_⟩
      refine (callsIn_wide.2 (HCK.out _)).mono ?_
      rintro e W1 ⟨rfl, hB⟩
      dsimp only
      have h1 := HJ.out _ _ _ none H0.out (only_of_below hB none) (fun r e => by cases e)
      replace hm := hm.on hB; replace hs := hs.on hB; clear hB H0
      have H1 := Lib.hid h1; clear h1
      obtain ⟨⟨c0, c1, c2, c3, c4, c5, c6⟩, -⟩ := hm.seven
      obtain ⟨q0, -⟩ := hs.one
      gi_wp2
      refine wpIn_region_quiet_lit rfl (by kernel_rfl) (by kernel_rfl) ?_
      repeat (gi_big_quiet_step (fail))
      refine BigFrame.wpQuietIn_want (fun _ _ _ _ => trivial) (by rfl) ?_
      intro K hK
      gi_big_quiet_op
      gi_big_quiet_call ((gi_at_call 37; with_reducible exact callsIn_wide.2 (Calls.quiet_of_same (pure_quiet (HBS.out _)))))
      repeat (gi_big_quiet_step (fail))
      refine wpQuietIn_nil ?_
      rintro _ ⟨nq, rfl⟩
      clear c0 c1 c2 c3 c4 c5 c6 q0
      have hd := below_drewN (Below.refl W1.heap.size W1) nq
      have h1 := HJ.out _ _ _ none H1.out (only_of_below hd none) (fun r e => by cases e)
      replace hm := hm.on hd; replace hs := hs.on hd; clear hd H1
      have H1 := Lib.hid h1; clear h1
      generalize W1.drewN nq = W2 at *
      obtain ⟨⟨c0, c1, c2, c3, c4, c5, c6⟩, -⟩ := hm.seven
      obtain ⟨q0, -⟩ := hs.one
      gi_wp2
      refine wpIn_region_quiet_lit rfl (by kernel_rfl) (by kernel_rfl) ?_
      repeat (gi_big_quiet_step (fail))
      refine BigFrame.wpQuietIn_want (fun _ _ _ _ => trivial) (by rfl) ?_
      intro K hK
      gi_big_quiet_op
      gi_big_quiet_call ((gi_at_call 37; with_reducible exact callsIn_wide.2 (Calls.quiet_of_same (pure_quiet (HBI.out _)))))
      repeat (gi_big_quiet_step (fail))
      refine BigFrame.wpQuietIn_want (fun _ _ _ _ => trivial) (by rfl) ?_
      intro K hK
      gi_big_quiet_op
      gi_big_quiet_call ((gi_at_call 37; with_reducible exact callsIn_wide.2 (Calls.quiet_of_same (pure_quiet (HBR.out _)))))
      repeat (gi_big_quiet_step (fail))
      refine wpQuietIn_nil ?_
      rintro _ ⟨nq, rfl⟩
      clear c0 c1 c2 c3 c4 c5 c6 q0
      have hd := below_drewN (Below.refl W2.heap.size W2) nq
      have h1 := HJ.out _ _ _ none H1.out (only_of_below hd none) (fun r e => by cases e)
      replace hm := hm.on hd; replace hs := hs.on hd; clear hd H1
      have H1 := Lib.hid h1; clear h1
      generalize W2.drewN nq = W3 at *
      obtain ⟨⟨c0, c1, c2, c3, c4, c5, c6⟩, -⟩ := hm.seven
      obtain ⟨q0, -⟩ := hs.one
      gi_wp2_with fail
      clear c0 c1 c2 c3 c4 c5 c6 q0
      refine ⟨trivial, ?_⟩
      refine (two_in _ lp _ _ J Jx _ HY.out H1.out).mono ?_
      rintro e W4 ⟨⟨v, rfl⟩, h⟩
      have HH := Lib.hid h; clear h
      gi_wp2
      go_end0
      exact ⟨⟨_, rfl⟩, HH.out⟩
    rw [if_neg g1]
    obtain rfl : G = 2 := by omega
    clear hG g0 g1
    by_cases g2 : s = R
    · subst g2
      rw [if_pos rfl]
      show CallsIn Fence.wide n Try.prog 35 _ W fun e W' => (∃ v, e = .returned v) ∧ ((∃ ys, ys = upZ [bits .or .i64 (bits .or .i64 S (pw s)) (pw I)] 1 ∧ J ys W') ∨ (∃ pre, (∃ k, k ≤ 1 ∧ pre = upZ [bits .or .i64 (bits .or .i64 S (pw s)) (pw I)] k) ∧ Jx pre W'))
      refine callsIn_of_wp Try.func35 rfl trivial ?_ rfl
      simp only [Try.ntmps35, List.size_toArray, List.length_cons, List.length_nil, Nat.reduceAdd, Nat.reduceSub, Array.replicate_succ, Array.replicate_zero, List.push_toArray, List.append_toArray, List.nil_append, List.cons_append]
      obtain ⟨⟨c0, c1, c2, c3, c4, c5, c6⟩, -⟩ := hm.seven
      obtain ⟨q0, -⟩ := hs.one
      gi_wp2_with fail
      clear c0 c1 c2 c3 c4 c5 c6 q0
      refine ⟨trivial, ?_⟩
      refine (callsIn_wide.2 (HCK.out _)).mono ?_
      rintro e W1 ⟨rfl, hB⟩
      dsimp only
      have h1 := HJ.out _ _ _ none H0.out (only_of_below hB none) (fun r e => by cases e)
      replace hm := hm.on hB; replace hs := hs.on hB; clear hB H0
      have H1 := Lib.hid h1; clear h1
      obtain ⟨⟨c0, c1, c2, c3, c4, c5, c6⟩, -⟩ := hm.seven
      obtain ⟨q0, -⟩ := hs.one
      gi_wp2
      refine wpIn_region_quiet_lit rfl (by kernel_rfl) (by kernel_rfl) ?_
      repeat (gi_big_quiet_step (fail))
      refine BigFrame.wpQuietIn_want (fun _ _ _ _ => trivial) (by rfl) ?_
      intro K hK
      gi_big_quiet_op
      gi_big_quiet_call ((gi_at_call 37; with_reducible exact callsIn_wide.2 (Calls.quiet_of_same (pure_quiet (HBS.out _)))))
      repeat (gi_big_quiet_step (fail))
      refine wpQuietIn_nil ?_
      rintro _ ⟨nq, rfl⟩
      clear c0 c1 c2 c3 c4 c5 c6 q0
      have hd := below_drewN (Below.refl W1.heap.size W1) nq
      have h1 := HJ.out _ _ _ none H1.out (only_of_below hd none) (fun r e => by cases e)
      replace hm := hm.on hd; replace hs := hs.on hd; clear hd H1
      have H1 := Lib.hid h1; clear h1
      generalize W1.drewN nq = W2 at *
      obtain ⟨⟨c0, c1, c2, c3, c4, c5, c6⟩, -⟩ := hm.seven
      obtain ⟨q0, -⟩ := hs.one
      gi_wp2
      refine wpIn_region_quiet_lit rfl (by kernel_rfl) (by kernel_rfl) ?_
      repeat (gi_big_quiet_step (fail))
      refine BigFrame.wpQuietIn_want (fun _ _ _ _ => trivial) (by rfl) ?_
      intro K hK
      gi_big_quiet_op
      gi_big_quiet_call ((gi_at_call 37; with_reducible exact callsIn_wide.2 (Calls.quiet_of_same (pure_quiet (HBI.out _)))))
      repeat (gi_big_quiet_step (fail))
      refine BigFrame.wpQuietIn_want (fun _ _ _ _ => trivial) (by rfl) ?_
      intro K hK
      gi_big_quiet_op
      gi_big_quiet_call ((gi_at_call 37; with_reducible exact callsIn_wide.2 (Calls.quiet_of_same (pure_quiet (HBR.out _)))))
      repeat (gi_big_quiet_step (fail))
      refine wpQuietIn_nil ?_
      rintro _ ⟨nq, rfl⟩
      clear c0 c1 c2 c3 c4 c5 c6 q0
      have hd := below_drewN (Below.refl W2.heap.size W2) nq
      have h1 := HJ.out _ _ _ none H1.out (only_of_below hd none) (fun r e => by cases e)
      replace hm := hm.on hd; replace hs := hs.on hd; clear hd H1
      have H1 := Lib.hid h1; clear h1
      generalize W2.drewN nq = W3 at *
      obtain ⟨⟨c0, c1, c2, c3, c4, c5, c6⟩, -⟩ := hm.seven
      obtain ⟨q0, -⟩ := hs.one
      obtain ⟨fn, tmps, assign, body, hy, hR⟩ := HY.out (n - 1) [] (0, bits .or .i64 (bits .or .i64 S (pw s)) (pw I)) W3 H1.out (by decide)
      replace hy : (Instr.yield lp #[.int .i64 0, .int .i64 (bits .or .i64 (bits .or .i64 S (pw s)) (pw I))]).run Try.prog W3 = .ok (.round lp fn tmps assign body) W3 := hy
      gi_wp2_with fail
      refine hR.mono ?_
      rintro e W4 (⟨rfl, hJ4⟩ | ⟨rfl, hJ4⟩)
      · have HJ4 := Lib.hid hJ4; clear hJ4 hy
        gi_wp2
        go_end0
        exact ⟨⟨_, rfl⟩, .inl ⟨_, rfl, HJ4.out⟩⟩
      · have HJ4 := Lib.hid hJ4; clear hJ4 hy
        gi_wp2
        go_end0
        exact ⟨⟨_, rfl⟩, .inr ⟨_, ⟨1, by simp, rfl⟩, HJ4.out⟩⟩
    · rw [if_neg g2]
      have e2 : (s == R) = false := by simpa using g2
      clear g2
      show CallsIn Fence.wide n Try.prog 35 _ W fun e W' => (∃ v, e = .returned v) ∧ ((∃ ys, ys = upZ [bits .andNot .i64 (bits .or .i64 (bits .or .i64 S (pw s)) (pw I)) (pw R), bits .andNot .i64 (bits .or .i64 (bits .or .i64 S (pw s)) (pw R)) (pw I)] 2 ∧ J ys W') ∨ (∃ pre, (∃ k, k ≤ 2 ∧ pre = upZ [bits .andNot .i64 (bits .or .i64 (bits .or .i64 S (pw s)) (pw I)) (pw R), bits .andNot .i64 (bits .or .i64 (bits .or .i64 S (pw s)) (pw R)) (pw I)] k) ∧ Jx pre W'))
      refine callsIn_of_wp Try.func35 rfl trivial ?_ rfl
      simp only [Try.ntmps35, List.size_toArray, List.length_cons, List.length_nil, Nat.reduceAdd, Nat.reduceSub, Array.replicate_succ, Array.replicate_zero, List.push_toArray, List.append_toArray, List.nil_append, List.cons_append]
      obtain ⟨⟨c0, c1, c2, c3, c4, c5, c6⟩, -⟩ := hm.seven
      obtain ⟨q0, -⟩ := hs.one
      gi_wp2_with fail
      clear c0 c1 c2 c3 c4 c5 c6 q0
      refine ⟨trivial, ?_⟩
      refine (callsIn_wide.2 (HCK.out _)).mono ?_
      rintro e W1 ⟨rfl, hB⟩
      dsimp only
      have h1 := HJ.out _ _ _ none H0.out (only_of_below hB none) (fun r e => by cases e)
      replace hm := hm.on hB; replace hs := hs.on hB; clear hB H0
      have H1 := Lib.hid h1; clear h1
      obtain ⟨⟨c0, c1, c2, c3, c4, c5, c6⟩, -⟩ := hm.seven
      obtain ⟨q0, -⟩ := hs.one
      gi_wp2
      refine wpIn_region_quiet_lit rfl (by kernel_rfl) (by kernel_rfl) ?_
      repeat (gi_big_quiet_step (fail))
      refine BigFrame.wpQuietIn_want (fun _ _ _ _ => trivial) (by rfl) ?_
      intro K hK
      gi_big_quiet_op
      gi_big_quiet_call ((gi_at_call 37; with_reducible exact callsIn_wide.2 (Calls.quiet_of_same (pure_quiet (HBS.out _)))))
      repeat (gi_big_quiet_step (fail))
      refine wpQuietIn_nil ?_
      rintro _ ⟨nq, rfl⟩
      clear c0 c1 c2 c3 c4 c5 c6 q0
      have hd := below_drewN (Below.refl W1.heap.size W1) nq
      have h1 := HJ.out _ _ _ none H1.out (only_of_below hd none) (fun r e => by cases e)
      replace hm := hm.on hd; replace hs := hs.on hd; clear hd H1
      have H1 := Lib.hid h1; clear h1
      generalize W1.drewN nq = W2 at *
      obtain ⟨⟨c0, c1, c2, c3, c4, c5, c6⟩, -⟩ := hm.seven
      obtain ⟨q0, -⟩ := hs.one
      gi_wp2
      refine wpIn_region_quiet_lit rfl (by kernel_rfl) (by kernel_rfl) ?_
      repeat (gi_big_quiet_step (fail))
      refine BigFrame.wpQuietIn_want (fun _ _ _ _ => trivial) (by rfl) ?_
      intro K hK
      gi_big_quiet_op
      gi_big_quiet_call ((gi_at_call 37; with_reducible exact callsIn_wide.2 (Calls.quiet_of_same (pure_quiet (HBI.out _)))))
      repeat (gi_big_quiet_step (fail))
      refine BigFrame.wpQuietIn_want (fun _ _ _ _ => trivial) (by rfl) ?_
      intro K hK
      gi_big_quiet_op
      gi_big_quiet_call ((gi_at_call 37; with_reducible exact callsIn_wide.2 (Calls.quiet_of_same (pure_quiet (HBR.out _)))))
      repeat (gi_big_quiet_step (fail))
      refine wpQuietIn_nil ?_
      rintro _ ⟨nq, rfl⟩
      clear c0 c1 c2 c3 c4 c5 c6 q0
      have hd := below_drewN (Below.refl W2.heap.size W2) nq
      have h1 := HJ.out _ _ _ none H1.out (only_of_below hd none) (fun r e => by cases e)
      replace hm := hm.on hd; replace hs := hs.on hd; clear hd H1
      have H1 := Lib.hid h1; clear h1
      generalize W2.drewN nq = W3 at *
      obtain ⟨⟨c0, c1, c2, c3, c4, c5, c6⟩, -⟩ := hm.seven
      obtain ⟨q0, -⟩ := hs.one
      gi_wp2_with fail
      clear c0 c1 c2 c3 c4 c5 c6 q0
      refine ⟨trivial, ?_⟩
      refine (two_in _ lp _ _ J Jx _ HY.out H1.out).mono ?_
      rintro e W4 ⟨⟨v, rfl⟩, h⟩
      have HH := Lib.hid h; clear h
      gi_wp2
      go_end0
      exact ⟨⟨_, rfl⟩, HH.out⟩
  · have hv : viewsV m s = [] := if_neg hask
    rw [hv]
    have e0 : (askV m s != 0) = true := by simpa using hask
    clear hv hask
    generalize askV m s = r at *
    obtain ⟨I, N, S, A, F, G, R⟩ := m
    unfold MV.cells at *
    dsimp only at *
    have HCK := Lib.hid hck; clear hck
    refine callsIn_of_wp Try.func35 rfl trivial ?_ rfl
    simp only [Try.ntmps35, List.size_toArray, List.length_cons, List.length_nil, Nat.reduceAdd, Nat.reduceSub, Array.replicate_succ, Array.replicate_zero, List.push_toArray, List.append_toArray, List.nil_append, List.cons_append]
    obtain ⟨⟨c0, c1, c2, c3, c4, c5, c6⟩, -⟩ := hm.seven
    obtain ⟨q0, -⟩ := hs.one
    gi_wp2_with fail
    clear c0 c1 c2 c3 c4 c5 c6 q0
    refine ⟨trivial, ?_⟩
    refine (callsIn_wide.2 (HCK.out _)).mono ?_
    rintro e W1 ⟨rfl, hB⟩
    dsimp only
    have h1 := HJ.out _ _ _ none H0.out (only_of_below hB none) (fun r e => by cases e)
    replace hm := hm.on hB; replace hs := hs.on hB; clear hB H0
    have H1 := Lib.hid h1; clear h1
    gi_wp2
    refine bodyPost_ret (results_none rfl _ _ _) rfl ?_
    exact ⟨⟨_, rfl⟩, .inl ⟨_, rfl, H1.out⟩⟩
end Go.Proofs.Ytffbhdllepjdeaa
