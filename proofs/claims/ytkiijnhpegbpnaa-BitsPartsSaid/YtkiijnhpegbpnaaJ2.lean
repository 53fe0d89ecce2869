/-
  All of package bits tells the places and bits, each place among those that there are. No condition but that the bytes can be read.
-/
import Derived.Test.YtkiijnhpegbpnaaJ1
namespace Go.Proofs.Ytkiijnhpegbpnaa
open Go.RowKit Go.Shelf
attribute [local go_sem] Oper.semAt_some

set_option maxRecDepth 100000 in
set_option maxHeartbeats 2000000 in
theorem all2S_in (n lp g ob m : Nat) (hn : 1 ≤ n) (l : List Bool) (bs : List UInt8) (his : IsBits l bs) (hl : l.length ≤ 4096) (hm : m = bs.length) (J Jx : List (Nat × Bool) → World → Prop) (W : World)
    (hJ : AbidesFrom W.heap.size J)
    (hY : ∀ pre x W1, J pre W1 → pre.length < l.length → x.1 < l.length → YieldAt Fence.wide (n - 1) Try.prog lp #[.int .i64 (x.1 : Int), .bool x.2] W1 fun e W' =>
      (e = .returned (.bool true) ∧ J (pre ++ [x]) W' ∧ Keeps2 g ob W1 W') ∨ (e = .returned (.bool false) ∧ Jx (pre ++ [x]) W'))
    (hrow : Blk W g 5 (encB bs)) (hbox : Blk W ob 24 #[.int .i64 (l.length : Int), .slice (some ⟨g, 0, none⟩) m m]) (h0 : J [] W) :
    CallsIn Fence.wide n Try.prog 42 #[.func (.yield lp) #[] #[], .pointer (some ⟨ob, 0, none⟩)] W fun e W' => (∃ v, e = .returned v) ∧
      ((∃ ys, ys = upto l l.length ∧ J ys W') ∨ (∃ pre, (∃ k, k ≤ l.length ∧ pre = upto l k) ∧ Jx pre W')) := by
  have HIS := Lib.hid his; clear his
  have HM := Lib.hid hm; clear hm
  have HJ := Lib.hid hJ; clear hJ
  have HY := Lib.hid hY; clear hY
  have H0 := Lib.hid h0; clear h0
  obtain ⟨c1, c2, f1, f2⟩ := hbox.two
  refine callsIn_of_wp Try.func42 rfl trivial ?_ rfl
  simp only [Try.ntmps42, List.size_toArray, List.length_cons, List.length_nil, Nat.reduceAdd, Nat.reduceSub, Array.replicate_succ, Array.replicate_zero, List.push_toArray, List.append_toArray, List.nil_append, List.cons_append]
  gi_wp2
  gi_loopw [6] (fun i wr => ∃ k : Nat, k ≤ l.length ∧ i = .int .i64 k ∧ J (upto l k) wr ∧ Blk wr g 5 (encB bs) ∧ Blk wr ob 24 #[.int .i64 (l.length : Int), .slice (some ⟨g, 0, none⟩) m m])
    (fun i _ => l.length - (intOf i).toNat)
  case atStart => exact ⟨0, Nat.zero_le _, rfl, H0.out, hrow, hbox⟩
  case round =>
    obtain ⟨k, hk, rfl, hJs, r1, r2⟩ := hrel
    obtain ⟨c3, c4, f3, f4⟩ := r2.two
    by_cases hlt : k < l.length
    · have hone := isOne_any l.length k (some ⟨g, 0, none⟩) m m bs wr (by omega) (by omega) HM.out (by have := HIS.out.1; omega) (byt_of_blk r1)
      rw [Int.toNat_natCast, HIS.out.2] at hone
      obtain ⟨bk, hbk⟩ : ∃ bk, bk = l[k]?.getD false := ⟨_, rfl⟩
      rw [← hbk] at hone
      have HO := Lib.hid hone; have HBK := Lib.hid hbk; clear hone hbk
      gi_wp2_with (refine ⟨trivial, ?_⟩; gi_at_call 43; refine (callsIn_wide.2 HO.out).mono ?_; rintro e w3 ⟨rfl, hb3⟩; obtain ⟨fn, tmps, assign, body, hy, hR⟩ := HY.out (upto l k) (k, bk) w3 (HJ.out _ _ _ none hJs (only_of_below hb3 none) (fun r e => by cases e)) (by rw [upto_length]; exact hlt) hlt; dsimp only at hy)
      refine hR.mono ?_
      rintro e W3 (⟨rfl, hJ3, hk3⟩ | ⟨rfl, hJx3⟩)
      · gi_wp2
        go_roundw
        case rel =>
          refine ⟨k + 1, by omega, by go_num, by rw [upto_succ, ← HBK.out]; exact hJ3, ?_, ?_⟩
          · exact hk3.1.trans (r1.below hb3 r1.lt)
          · exact hk3.2.trans (r2.below hb3 r2.lt)
        case measure => simp [intOf]; omega
      · gi_wp2
        refine bodyPost_ret (results_none rfl _ _ _) rfl ?_
        exact ⟨⟨_, rfl⟩, .inr ⟨_, ⟨k + 1, by omega, by rw [upto_succ, ← HBK.out]⟩, hJx3⟩⟩
    · obtain rfl : k = l.length := by omega
      gi_wp2
      go_end0
      exact ⟨⟨_, rfl⟩, .inl ⟨_, rfl, hJs⟩⟩

/-- A place among n, and a bit. -/
abbrev At (n : Nat) := { x : Nat × Bool // x.1 < n }
abbrev encS {n : Nat} (x : At n) : Array Value := #[Value.int .i64 (x.1.1 : Int), .bool x.1.2]
/-- A sequence that tells l, each place among its own. -/
abbrev TellsS (n gf : Nat) (lb : Array Value) (g ob : Nat) (l : List Bool) (w : World) : Prop :=
  SeqStopsK Fence.wide n Try.prog gf lb (encS (n := l.length)) (Keeps2 g ob) (fun ys => ys.map (·.1) = upto l l.length) (fun pre => ∃ k, k ≤ l.length ∧ pre.map (·.1) = upto l k) l.length w

theorem allS_stops (n g ob m : Nat) (hn : 1 ≤ n) (l : List Bool) (bs : List UInt8) (his : IsBits l bs) (hl : l.length ≤ 4096) (hm : m = bs.length) (w : World) (hrow : Blk w g 5 (encB bs)) (hbox : Blk w ob 24 #[.int .i64 (l.length : Int), .slice (some ⟨g, 0, none⟩) m m]) :
    TellsS n 42 #[.pointer (some ⟨ob, 0, none⟩)] g ob l w := fun lp J Jx W hW hJ hJx hY h0 => by
  refine (all2S_in n lp g ob m hn l bs his hl hm (fun pre W' => ∃ pre' : List (At l.length), pre'.map (·.1) = pre ∧ J pre' W') (fun pre W' => ∃ pre' : List (At l.length), pre'.map (·.1) = pre ∧ Jx pre' W') W ?_ ?_ (hrow.below hW hrow.lt) (hbox.below hW hbox.lt) ⟨[], rfl, h0⟩).mono ?_
  · rintro s X Y row ⟨pre', hp, hj⟩ hg hr
    exact ⟨pre', hp, hJ pre' X Y row hj hg hr⟩
  · rintro pre x W1 ⟨pre', rfl, hj⟩ hlen hx
    refine (hY pre' ⟨x, hx⟩ W1 hj (by simpa using hlen)).mono ?_
    rintro e W' (⟨he, hj', hk⟩ | ⟨he, hj'⟩)
    · exact .inl ⟨he, ⟨_, by simp, hj'⟩, hk⟩
    · exact .inr ⟨he, ⟨_, by simp, hj'⟩⟩
  · rintro e W' ⟨he, ⟨ys, rfl, pre', hp, hj⟩ | ⟨pre, ⟨k, hk, rfl⟩, pre', hp, hj⟩⟩
    · exact ⟨he, .inl ⟨pre', hp, hj⟩⟩
    · exact ⟨he, .inr ⟨pre', ⟨k, hk, hp⟩, hj⟩⟩

set_option maxHeartbeats 1000000 in
theorem noneS_stops (n g ob : Nat) (w : World) : TellsS n 40 #[] g ob [] w := fun lp J Jx W _ _ _ _ h0 => by
  refine callsIn_of_wp Try.func40 rfl trivial ?_ rfl
  simp only [Try.ntmps40, List.size_toArray, List.length_cons, List.length_nil, Nat.reduceAdd, Nat.reduceSub, Array.replicate_succ, Array.replicate_zero, List.push_toArray, List.append_toArray, List.nil_append, List.cons_append]
  gi_wp2
  go_end0
  exact ⟨⟨_, rfl⟩, .inl ⟨[], rfl, h0⟩⟩

/-- What All answers: a sequence that tells the truths. -/
def AllGivesS (w : World) (l : List Bool) (e : Ending) (w' : World) : Prop :=
  ∃ (gf : Nat) (lb : Array Value) (g ob : Nat), e = .returned (.func (.func gf) #[] lb) ∧ (∀ args w, (callFunc gf args).run Try.prog w = .ok (.enter gf args) w) ∧ (∀ n, 1 ≤ n → TellsS n gf lb g ob l w') ∧
    w.heap.size ≤ g ∧ w.heap.size ≤ ob ∧ g < w'.heap.size ∧ ob < w'.heap.size ∧ Below w.heap.size w w'

set_option maxHeartbeats 1000000 in
theorem allS_any (N : Int) (A : Option Addr) (n c : Nat) (bs : List UInt8) (w : World) (hn : n = bs.length) (hm : n ≤ maxLen) (hA : Byt w.heap.size w A bs) :
    Calls Try.prog 12 #[.agg #[.int .i64 N, .slice A n c]] w (AllGivesS w (lst N bs)) := by
  have hck := fun w1 (h : Below w.heap.size w w1) => check_any N A n c bs w1 hn hm ((hA.below h).mono h.size)
  by_cases hgood : goodB N bs = true
  · obtain ⟨hg0, hg1, hg2, hg3⟩ := (good_iff N bs).1 hgood
    rw [chk_yes hgood] at hck
    have hgr := fun w1 (h : Below w.heap.size w w1) => grown_any N 0 A n c bs w1 hg0 hg1 (by omega) (by omega) hn (by omega) ((hA.below h).mono h.size)
    have hls : lst N bs = listOf N bs := by simp [lst, hgood]
    rw [hls]
    have hib := good_isBits hgood
    have hgl := good_length hgood
    have HCK := Lib.hid hck; have HGR := Lib.hid hgr; have HL := Lib.hid hg2; have HIB := Lib.hid hib; have HGL := Lib.hid hgl
    clear hck hgr hg2 hg3 hgood hA hn hls hib hgl
    unfold maxLen at hm
    go_enter Try.func12, Try.ntmps12
    go_wp2_with (first
      | (go_at_call 14; refine (HCK.out _ ((Below.refl _ _).alloc (Nat.le_refl _) _)).mono ?_; rintro e w1 ⟨rfl, hB⟩; obtain ⟨k1, hs, hBw⟩ := boxes1 hB; obtain ⟨c1, c2, f1, f2⟩ := k1.two)
      | (go_at_call 41; refine (HGR.out _ hBw).mono ?_; rintro e w2 ⟨g, m, hmm, rfl, hgg, hgb, hgB⟩; have HM := Lib.hid hmm; clear hmm))
    go_ret
    have hgl := hgb.lt
    have e1 : (N.toNat + Int.toNat 0 + 7) / 8 - bs.length = 0 := by have := HL.out; omega
    rw [e1, List.replicate_zero, List.append_nil] at hgb
    refine ⟨42, _, g, w2.heap.size, rfl, enters_of Try.func42 (by kernel_rfl) rfl, fun q hq => ?_, by omega, by have := hgB.size; omega, by simp; omega, by simp, (hBw.trans (hgB.mono hBw.size)).alloc (by have := hgB.size; omega) _⟩
    refine allS_stops q g w2.heap.size m hq _ bs HIB.out ?_ (by have := HM.out; have := HL.out; omega) _ (hgb.alloc _) ?_
    · have := HGL.out; omega
    · rw [HGL.out]; exact Blk.new w2 24 _
  · have hls : lst N bs = [] := by simp [lst, hgood]
    rw [chk_no (by simpa using hgood)] at hck
    rw [hls]
    have HCK := Lib.hid hck
    clear hck hgood hA hn hls
    unfold maxLen at hm
    go_enter Try.func12, Try.ntmps12
    go_wp2_with (go_at_call 14; refine (HCK.out _ ((Below.refl _ _).alloc (Nat.le_refl _) _)).mono ?_; rintro e w1 ⟨rfl, hB⟩; obtain ⟨k1, hs, hBw⟩ := boxes1 hB; obtain ⟨c1, c2, f1, f2⟩ := k1.two)
    go_ret
    exact ⟨40, #[], w.heap.size, w.heap.size, rfl, enters_of Try.func40 (by kernel_rfl) rfl, fun q _ => noneS_stops q _ _ _, Nat.le_refl _, Nat.le_refl _, by omega, by omega, hBw⟩
end Go.Proofs.Ytkiijnhpegbpnaa
