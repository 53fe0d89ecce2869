/-
  Nexts of the document of layer 10, what is told of a sequence of modes, and slices.Equal over numbers. Conditions: those that each theorem names.
  begun of the statements of layer 10: a list of two modes, a change that is asked for and taken. No condition. (Printed by tools/gen10j.py.)
  How a state that came in is read, beside a list. No condition.
-/
import Derived.Test.YtaooonajfdbfhaaQA
import Derived.Test.YtaooonajfdbfhaaMZ
import Derived.Test.YtaooonajfdbfhaaMM
import Derived.Test.YtaooonajfdbfhaaMX
import Derived.Test.YtaooonajfdbfhaaB3
namespace Go.Proofs.Ytaooonajfdbfhaa
open Go.RowKit Go.Shelf
attribute [local go_sem] Oper.semAt_some

theorem own_on10 {w w' : World} {b : Nat} {e : TypeId} {size : Nat} {v : Value} {n : Nat} {xs : List Value} (h : w.ownsRow b e size v n xs) (hb : Below w.heap.size w w') : w'.ownsRow b e size v n xs :=
  h.kept (only_of_below hb none) (by
    rcases h.2 with ⟨h1, _⟩ | ⟨g, cap, cur, h1, _⟩
    · rw [h1]; exact .inl rfl
    · exact .inr (by rw [h1]; simp [Value.ownBlock]))
theorem Try.info3n : (Try.prog.info? 3).map (fun i => (i.zero, i.size, i.bytes)) = some (some (.int .i64 0), 1, 8) := by kernel_rfl
/-- Numbers as cells. -/
def valsN (l : List Nat) : List Value := l.map fun (x : Nat) => Value.int .i64 (x : Int)
/-- Nodes as places. -/
def intsN (l : List Nat) : List Int := l.map fun (x : Nat) => (x : Int)
theorem ints_ownN {w : World} {base : Nat} {v : Value} {k : Nat} {l : List Nat} (h : w.ownsRow base 3 1 v k (valsN l)) : ∃ A c, v = .slice A l.length c ∧ l.length ≤ c ∧ c ≤ maxLen ∧ (A = none → c = 0) ∧ Ints w.heap.size w A (intsN l) := by
  have hk : l.length = k := by have := h.1; simpa [valsN] using this
  rcases h.2 with ⟨rfl, h0⟩ | ⟨g, cap, cur, rfl, _, hh, hcap, hm, _⟩
  · exact ⟨none, 0, by rw [hk, h0], by omega, by unfold maxLen; omega, fun _ => rfl, fun hne => absurd (by have := hk.trans h0; simpa [intsN] using this) hne⟩
  · refine ⟨some ⟨g, 0, none⟩, cap, by rw [hk], by omega, hm, (fun e => by cases e), fun _ => ⟨g, 0, rfl, (Array.getElem?_eq_some_iff.1 hh).1, fun j hj => ?_⟩⟩
    have hj' : j < l.length := by simpa [intsN] using hj
    have := h.cells (g := g) rfl j (.int .i64 ((intsN l)[j]?.getD 0)) (by simp [intsN, valsN, hj'])
    rwa [addr_add] at this

set_option maxRecDepth 100000 in
set_option maxHeartbeats 4000000 in
theorem rnexts_any (m : ML) (c s : Slc) (st : CS) (w : World) (hM : Med w m c s) : Calls Try.prog 16 #[vM m c s, .agg st.cells] w fun e w' => ∃ v, e = .returned v ∧ w'.ownsRow w.heap.size 3 1 v (nextsS m st).length (valsN (nextsS m st)) ∧ Below w.heap.size w w' := by
  have hall := fun U (h : Below w.heap.size w U) (k : Nat) => rmay_any m c s st (k : Int) U (hM.on h)
  have hms := fun (k : Nat) (h : mayN m st (k : Int) = true) => mayTo_yes h
  have hmn := fun (k : Nat) (h : mayN m st (k : Int) = false) => mayTo_no h
  have hml := mayTo_length m st
  have hM0 : mayTo m st 0 = [] := rfl
  have hMa := mayTo_all m st
  have hM4 : ∀ k, (mayTo m st k).length ≤ 4 := fun k => by
    rcases Nat.le_total k 4 with h | h
    · have := hml k; omega
    · obtain ⟨d, rfl⟩ : ∃ d, k = 4 + d := ⟨k - 4, by omega⟩
      have key : ∀ d, mayTo m st (4 + d) = mayTo m st 4 := by
        intro d
        induction d with
        | zero => rfl
        | succ d ih => rw [← Nat.add_assoc, mayTo_no (may_no (fun hh => by have := (asked_ok hh.1).2.2.1.2; have := hh.2.1.2; omega)), ih]
      rw [key d]; exact hml 4
  have hsn := hM.sn
  have hsm := hM.sm
  unfold maxLen at hsm
  rw [← hsn] at hMa
  rw [← hMa]
  clear hMa hM hml hsn
  generalize mayTo m st = MT at *
  generalize mayN m st = hc at *
  have HALL := Lib.hid hall; have HMS := Lib.hid hms; have HMN := Lib.hid hmn; have HM4 := Lib.hid hM4; have HM0 := Lib.hid hM0; clear hall hms hmn hM4 hM0
  obtain ⟨N, S, G, W, D, L, cold, ms⟩ := m
  obtain ⟨Ac, nc, cc⟩ := c
  obtain ⟨As, ns, cs⟩ := s
  obtain ⟨T, P, Mo, Nx, Me⟩ := st
  dsimp only [vM, CS.cells] at *
  obtain ⟨i0, hi, hz0, hz1, hz2⟩ := info_parts Try.info3n
  obtain ⟨kb, kc, bc⟩ := bx2 w #[.int .i64 N, .int .i64 S, .int .i64 G, .int .i64 W, .int .i64 D, .int .i64 L, .slice Ac nc cc, .slice As ns cs] #[.int .i64 T, .int .i64 P, .int .i64 Mo, .int .i64 Nx, .int .i64 Me] 25 27
  go_enter Try.func16, Try.ntmps16
  go_wp2_with fail
  generalize (w.alloc (.cells #[.int .i64 N, .int .i64 S, .int .i64 G, .int .i64 W, .int .i64 D, .int .i64 L, .slice Ac nc cc, .slice As ns cs] 25)).alloc (.cells #[.int .i64 T, .int .i64 P, .int .i64 Mo, .int .i64 Nx, .int .i64 Me] 27) = u1 at *
  go_loopw [5, 6] (fun v i wr => ∃ k : Nat, k ≤ ns ∧ i = .int .i64 k ∧ wr.ownsRow (w.heap.size + 2) 3 1 v (MT k).length (valsN (MT k)) ∧ Blk wr w.heap.size 25 #[.int .i64 N, .int .i64 S, .int .i64 G, .int .i64 W, .int .i64 D, .int .i64 L, .slice Ac nc cc, .slice As ns cs] ∧ Blk wr (w.heap.size + 1) 27 #[.int .i64 T, .int .i64 P, .int .i64 Mo, .int .i64 Nx, .int .i64 Me] ∧ Below w.heap.size w wr)
    (fun _ i _ => ns - (intOf i).toNat)
  case atStart => exact ⟨0, by omega, rfl, by rw [HM0.out]; exact World.ownsRow_nil _ _ _ _, kb, kc, bc⟩
  case round =>
    clear kb kc bc
    obtain ⟨k, hk, rfl, hrow, kb, kc, bc⟩ := hrel
    obtain ⟨p0, p1, p2, p3, p4, p5, p6, p7⟩ := kb.eight
    obtain ⟨⟨q0, q1, q2, q3, q4⟩, -⟩ := kc.five
    have hlen := HM4.out k
    by_cases hlt : k < ns
    · have hlt2 : (k : Int) < (ns : Int) := by omega
      have hH := HALL.out wr bc k
      have hlc := kc.lt
      by_cases hb : hc (k : Int) = true
      · rw [hb] at hH
        have HH := Lib.hid hH; have HB := Lib.hid hb; clear hH hb
        go_wp2_with fail
        refine HH.out.mono ?_
        rintro e w3 ⟨rfl, hb3⟩
        dsimp only
        have hrow3 := own_on10 hrow hb3
        replace kb := kb.on hb3; replace kc := kc.on hb3
        replace bc := bc.trans (hb3.mono bc.size)
        have hs3 := hb3.size
        clear hrow hb3 p0 p1 p2 p3 p4 p5 p6 p7 q0 q1 q2 q3 q4
        go_wp2_with (at_builtin; refine wpList_append_own _ rfl _ _ 37 rfl (w.heap.size + 2) 3 i0 (.int .i64 0) 1 8 Try.underlying37 hi hz0 hz1 hz2 rfl (by decide) u5 _ _ rfl (hrow3.alloc _) ⟨w3.heap.size, 0, none⟩ 1 1 [.int .i64 (k : Int)] rfl rfl (cell_one_new _ _ _) (by simp [Value.oneCell']) (by unfold maxLen; omega) (by omega) (by simp; omega) ?_; intro v' w2 hown' hgrow _; have hq1 := own_grown_low hrow3 hgrow w.heap.size (by omega) kb.lt; have hq2 := own_grown_low hrow3 hgrow (w.heap.size + 1) (by omega) kc.lt)
        go_roundw
        case rel =>
          refine ⟨k + 1, by omega, by go_num, ?_, hq1.trans kb, hq2.trans kc, own_below hrow3 hgrow bc (by omega) bc.size⟩
          rw [HMS.out k HB.out, valsN, List.map_append, List.length_append]
          exact hown'
        case measure => simp [intOf]; omega
      · rw [Bool.not_eq_true] at hb
        rw [hb] at hH
        have HH := Lib.hid hH; have HB := Lib.hid hb; clear hH hb
        go_wp2_with fail
        refine HH.out.mono ?_
        rintro e w3 ⟨rfl, hb3⟩
        dsimp only
        go_wp2
        go_roundw
        case rel => exact ⟨k + 1, by omega, by go_num, by rw [HMN.out k HB.out]; exact own_on10 hrow hb3, kb.on hb3, kc.on hb3, bc.trans (hb3.mono bc.size)⟩
        case measure => simp [intOf]; omega
    · obtain rfl : k = ns := by omega
      go_wp2
      go_ret
      exact ⟨_, rfl, own_mono hrow (by omega), bc⟩

theorem run_equalIn_seq_nil (d gf : Nat) (lb : Array Value) (W : World) : (Op.equalIn (d + 1) 42 (.func (.func gf) #[] lb) .nilFunc).run Try.prog W = .ok false W := by
  simp [Op.equalIn, run_underlying Try.underlying42]
theorem run_eql_seq_nil (gf : Nat) (lb : Array Value) (W : World) : (binOp .eql 42 (.func (.func gf) #[] lb) .nilFunc).run Try.prog W = .ok (.bool false) W := by
  simp only [binOp]
  simp [Op.equal, Op.maxDepth, run_equalIn_seq_nil 9999 gf lb W]

/-- What lies in told's own variables. -/
def ToldN (w : World) (most k : Nat) (xs : List Value) (W : World) : Prop :=
  (∃ v, Boxed W (w.heap.size + 1) 37 v ∧ W.ownsRow (w.heap.size + 2) 3 1 v k xs ∧ True) ∧ Boxed W w.heap.size 3 (.int .i64 most) ∧ Below w.heap.size w W ∧ w.heap.size + 2 ≤ W.heap.size
theorem toldN_kept {w : World} {most k : Nat} {xs : List Value} {X Y : World} {row : Option Nat} (h : ToldN w most k xs X) (hg : X.grownBy Y row) (hr : ∀ r, row = some r → w.heap.size + 2 ≤ r ∧ ∃ o : Obj, X.heap[r]? = some o ∧ o.isCells = false) : ToldN w most k xs Y := by
  obtain ⟨h1, h2, h5, h6⟩ := h
  have hr' : ∀ r, row = some r → ∃ o : Obj, X.heap[r]? = some o ∧ o.isCells = false := fun r e => (hr r e).2
  refine ⟨holdsRow_own (w.heap.size + 2) (w.heap.size + 1) 37 3 1 (fun _ : Unit => k) (fun _ => xs) (fun _ _ => True) () X Y row h1 hg hr', boxed_own _ _ (fun _ : Unit => _) () X Y row h2 hg hr', ?_, Nat.le_trans h6 hg.size⟩
  exact h5.grown hg (by omega) (fun q e => by have := (hr q e).1; omega)

set_option maxRecDepth 100000 in
set_option maxHeartbeats 2000000 in
theorem told10_any (gf : Nat) (lb : Array Value) (most : Nat) (bs : Nat → Bool) (w : World) (hmost : most ≤ 9999)
    (hent : ∀ args w, (callFunc gf args).run Try.prog w = .ok (.enter gf args) w) (htells : ∀ w'', Below w.heap.size w w'' → ∀ n, 1 ≤ n → TellsB n gf lb bs w'') :
    Calls Try.prog 18 #[.func (.func gf) #[] lb, .int .i64 most] w fun e w' => ∃ v, e = .returned v ∧ w'.ownsRow w.heap.size 3 1 v ((upB bs 4).take most).length (valsN ((upB bs 4).take most)) ∧ Below w.heap.size w w' := by
  have HT := Lib.hid htells; have HE := Lib.hid hent; clear htells hent
  obtain ⟨tk, htk⟩ : ∃ tk, tk = (upB bs 4).take most := ⟨_, rfl⟩
  rw [← htk]
  have HTK := Lib.hid htk; clear htk
  refine (callsIn_wide (n := 5)).1 ?_
  refine callsIn_of_wp_marks Try.func18 rfl trivial ?_ rfl
  simp only [Try.ntmps18, List.size_toArray, List.length_cons, List.length_nil, Nat.reduceAdd, Nat.reduceSub, Array.replicate_succ, Array.replicate_zero, List.push_toArray, List.append_toArray, List.nil_append, List.cons_append]
  have hnil := run_eql_seq_nil gf lb
  gi_wp2
  clear hnil
  obtain ⟨i0, hi, hz0, hz1, hz2⟩ := info_parts Try.info3n
  have hW0 : ToldN w most 0 [] ((w.alloc (.cells #[.int .i64 most] 3)).alloc (.cells #[.slice none 0 0] 37)) := by
    refine ⟨⟨_, ?_, World.ownsRow_nil _ _ _ _, trivial⟩, ?_, ?_, by simp⟩
    · simpa using Boxed.new (w.alloc (.cells #[.int .i64 most] 3)) 37 (.slice none 0 0)
    · exact (Boxed.new w 3 (.int .i64 most)).alloc _
    · exact ((Below.refl _ _).alloc (Nat.le_refl _) _).alloc (by simp) _
  have hsz : ((w.alloc (.cells #[.int .i64 most] 3)).alloc (.cells #[.slice none 0 0] 37)).heap.size = w.heap.size + 2 := by simp
  generalize (w.alloc (.cells #[.int .i64 most] 3)).alloc (.cells #[.slice none 0 0] 37) = W0 at *
  refine wpIn_rangeFunc_ownG rfl (by omega) (gf := gf) (lb := lb) rfl trivial HE.out (HT.out W0 hW0.2.2.1 (5 - 1) (by omega)) (fun _ _ => trivial) (fun _ _ _ _ _ _ _ _ => trivial) (Below.refl _ _) (fun _ => rfl)
    (fun pre W => ToldN w most pre.length (pre.map (fun (x : Nat) => Value.int .i64 (x : Int))) W ∧ pre.length ≤ most)
    (fun cd pre W => cd = .exit 0 ∧ ToldN w most most ((pre.take most).map (fun (x : Nat) => Value.int .i64 (x : Int))) W ∧ pre.length = most + 1)
    (fun s X Y row hs hgr hr => ⟨toldN_kept hs.1 hgr (fun r e => by rw [← hsz]; exact hr r e), hs.2⟩)
    (fun cd s X Y row hs hgr hr => ⟨hs.1, toldN_kept hs.2.1 hgr (fun r e => by rw [← hsz]; exact hr r e), hs.2.2⟩)
    ⟨hW0, Nat.zero_le _⟩
    (fun x => { tmps := #[.func (.func gf) #[] lb, .int .i64 most, undef, .pointer (some ⟨w.heap.size, 0, none⟩), .slice none 0 0, .pointer (some ⟨w.heap.size + 1, 0, none⟩), .int .i64 (x : Int), .func (.func gf) #[] lb, .bool false, .func (.func gf) #[] lb, .int .i64 (x : Int), undef, undef, undef, undef, undef, undef, undef, undef, undef], defers := [] }) ?assign ?body ?done ?stop
  case assign =>
    intro l x W K hK
    gi_wp2
    exact hK
  case body =>
    rintro lp pre x W ⟨⟨⟨v, hv, hrow, _⟩, hb1, hBb, hsW⟩, hle⟩ hlt
    obtain ⟨VA, vc, rfl, hVA⟩ : ∃ A c, v = .slice A pre.length c ∧ True := by
      rcases hrow.2 with ⟨rfl, h0⟩ | ⟨g', cap', cur', rfl, _⟩
      · exact ⟨none, 0, by rw [h0], trivial⟩
      · exact ⟨_, _, rfl, trivial⟩
    have hc := hv.cell
    have hcm := hb1.cell
    by_cases hge : most ≤ pre.length
    · obtain rfl : most = pre.length := by omega
      gi_wp2
      refine ⟨(KeepsOthers.refl _).from _, rfl, ⟨⟨_, hv, ?_, trivial⟩, hb1, hBb, hsW⟩, by simp⟩
      rw [List.take_left']
      · exact hrow
      · rfl
    · have hlt2 : pre.length < most := by omega
      gi_wp2_with (gi_at_builtin; refine wpListIn_append_own _ rfl _ _ 37 rfl (w.heap.size + 2) 3 i0 (.int .i64 0) 1 8 Try.underlying37 hi hz0 hz1 hz2 rfl (by decide) _ _ _ rfl (hrow.alloc _) ⟨W.heap.size, 0, none⟩ 1 1 [.int .i64 (x : Int)] rfl rfl (cell_one_new _ _ _) (by simp [Value.oneCell']) (by unfold maxLen; omega) (by omega) (by simp; omega) ?_; intro v' w2 hown' hgrow _; obtain ⟨g', cap', rfl⟩ := ownsRow_succ hown'; obtain ⟨hv1, hv2, hr2, hk2, hbb2, hq2⟩ := appended2 (n₀ := w.heap.size) hv (by decide) hrow hsW (by omega) (by omega) hown' hgrow; have hc1 := hv1.cell; have hf1 := hv1.frozen)
      refine ⟨hk2.from _, trivial, ⟨⟨_, hv2, ?_, trivial⟩, (hq2 _ (by omega) (by omega)).trans hb1, hBb.trans hbb2, Nat.le_trans hsW hk2.size⟩, by simp; omega⟩
      rw [List.map_append, List.length_append]
      exact hr2
  case done =>
    rintro D ys W hD rfl ⟨⟨⟨v, hv, hrow, _⟩, hb1, hBb, hsW⟩, hle⟩ hK
    have htk : tk = upB bs 4 := by rw [HTK.out]; exact List.take_of_length_le hle
    rw [← htk] at hrow
    clear htk hle
    have hc := hv.cell
    gi_wp2
    refine ⟨by simp, .inl ⟨_, _, rfl, run_takeDeferred hK, ?_⟩⟩
    exact ⟨_, results_tmp rfl _ _ _, _, rfl, own_mono (ownsRow_putObj hrow _ hK rfl) (by omega), hBb.trans (belowK_b (w := w) (Nat.le_refl _) W D _ _ (by omega) hK rfl rfl)⟩
  case stop =>
    rintro D cd pre W hD ⟨k, hk, rfl⟩ ⟨rfl, ⟨⟨v, hv, hrow, _⟩, hb1, hBb, hsW⟩, hle⟩ hK
    have htk : tk = (upB bs k).take most := by
      obtain ⟨r, hr⟩ := upB_pre bs hk
      rw [HTK.out]
      show (upB bs 4).take most = _
      rw [hr, List.take_append_of_le_length (by omega)]
    have htl : tk.length = most := by rw [htk]; simp; omega
    rw [← htk, ← htl] at hrow
    clear htk htl hle
    have hc := hv.cell
    gi_wp2
    refine ⟨by simp, .inl ⟨_, _, rfl, run_takeDeferred hK, ?_⟩⟩
    exact ⟨_, results_tmp rfl _ _ _, _, rfl, own_mono (ownsRow_putObj hrow _ hK rfl) (by omega), hBb.trans (belowK_b (w := w) (Nat.le_refl _) W D _ _ (by omega) hK rfl rfl)⟩


set_option maxHeartbeats 1000000 in
/-- slices.Equal, of two lists of numbers that are the same. -/
theorem isame_yes (A A' : Option Addr) (c c' n : Nat) (l : List Int) (w : World) (hn : n = l.length) (hm : n ≤ maxLen) (hA : Ints w.heap.size w A l) (hA' : Ints w.heap.size w A' l) :
    Calls Try.prog 17 #[.slice A n c, .slice A' n c'] w fun e w' => e = .returned (.bool true) ∧ Below w.heap.size w w' := by
  unfold maxLen at hm
  have HN := Lib.hid hn; clear hn
  go_enter Try.func17, Try.ntmps17
  go_wp2
  go_loopw [13] (fun i wr => ∃ (k q : Nat), k ≤ n ∧ i = .int .i64 k ∧ wr = w.drewN q)
    (fun i _ => n - (intOf i).toNat)
  case atStart => exact ⟨0, 0, by omega, rfl, rfl⟩
  case round =>
    obtain ⟨k, q, hk, rfl, rfl⟩ := hrel
    by_cases hlt : k < n
    · obtain ⟨b, off, rfl, _, hcell⟩ := hA.at_ (k := k) (by have := HN.out; omega)
      obtain ⟨b', off', rfl, _, hcell'⟩ := hA'.at_ (k := k) (by have := HN.out; omega)
      have hki : (k : Int) < (n : Int) := by omega
      generalize l[k]?.getD 0 = x at *
      go_wp2
      go_quiet (fail)
      go_wp2
      go_roundw
      case rel => exact ⟨k + 1, _, by omega, by go_num, rfl⟩
      case measure => simp [intOf]; omega
    · go_wp2
      go_ret
      exact ⟨rfl, below_drewN (Below.refl _ _) _⟩
end Go.Proofs.Ytaooonajfdbfhaa

namespace Go.Proofs.Ytaooonajfdbfhaa
open Go.RowKit

def two2 : List Md := [⟨[2, 2, 2, 2], [true, true, true, true], [true, true]⟩, ⟨[2, 2, 2, 2], [true, true, true, true], [true, true]⟩]
def twoM : ML := ⟨4, 138, 38, 16, 0, 1, [true, true, true, true], two2⟩
theorem two_ok : okM twoM := by decide
theorem two_ask : askS twoM zeroC 1 = (0, 2) := by decide
theorem two_take : takeS twoM zeroC 2 = (0, ⟨0, 0, 0, 2, 0⟩) := by
  rw [take_in (by decide) (by decide), if_pos (by decide)]
  rfl
theorem two_may : mayN twoM zeroC 1 = true := by decide
theorem two_not : mayN twoM ⟨0, 0, 0, 2, 0⟩ 1 = false := by decide
/-- The list of two modes, in memory. -/
theorem med_two {w : World} {Ac As : Option Addr} {nc cc ns cs gt gn : Nat} {d x : Slc} (hM : Med w smallM ⟨Ac, nc, cc⟩ ⟨As, ns, cs⟩) (hd : Ints w.heap.size w d.A [2, 2, 2, 2]) (hdn : d.n = 4) (hx : Bools w.heap.size w x.A [true, true, true, true]) (hxn : x.n = 4)
    (kt : Blk w gt 4 #[.bool true, .bool true]) (kn : Blk w gn 53 #[.slice d.A d.n d.c, .slice x.A x.n x.c, .slice (some ⟨gt, 0, none⟩) 2 2, .slice d.A d.n d.c, .slice x.A x.n x.c, .slice (some ⟨gt, 0, none⟩) 2 2]) :
    Med w twoM ⟨Ac, nc, cc⟩ ⟨some ⟨gn, 0, none⟩, 2, 2⟩ := by
  have hb : (4 : Nat) ≤ maxLen := by unfold maxLen; omega
  have hb2 : (2 : Nat) ≤ maxLen := by unfold maxLen; omega
  have hok : MdOk w.heap.size w ⟨[2, 2, 2, 2], [true, true, true, true], [true, true]⟩ ⟨d, x, ⟨some ⟨gt, 0, none⟩, 2, 2⟩⟩ :=
    ⟨hd, hdn, by show d.n ≤ maxLen; omega, hx, hxn, by show x.n ≤ maxLen; omega, fun _ => ⟨gt, 0, rfl, kt.lt, fun j hj => by
      obtain rfl | rfl : j = 0 ∨ j = 1 := by simp at hj; omega
      · rw [kt.cell]; rfl
      · rw [kt.cell]; rfl⟩, rfl, hb2⟩
  refine ⟨hM.cb, hM.cn, hM.cm, fun _ => ⟨gn, 0, rfl, kn.lt, fun j o hj => ?_⟩, rfl, hb2⟩
  obtain rfl | rfl : j = 0 ∨ j = 1 := by
    have : j < 2 := (List.getElem?_eq_some_iff.1 hj).1
    omega
  · obtain rfl : _ = o := Option.some.inj hj
    refine ⟨_, ?_, ?_, ?_, hok⟩
    · rw [kn.cell]; rfl
    · rw [kn.cell]; rfl
    · rw [kn.cell]; rfl
  · obtain rfl : _ = o := Option.some.inj hj
    refine ⟨_, ?_, ?_, ?_, hok⟩
    · rw [kn.cell]; rfl
    · rw [kn.cell]; rfl
    · rw [kn.cell]; rfl

set_option maxRecDepth 100000 in
set_option maxHeartbeats 4000000 in
theorem begun10_any (w : World) : Calls Try.prog 13 #[] w fun e w' => e = .returned (.bool true) ∧ Below w.heap.size w w' := by
  have hp := rplain_good 4 0 w (by decide) (by decide) (by decide) (by decide)
  rw [plain_small, show ((4 : Nat) : Int) = 4 from rfl] at hp
  have h1 := fun c s W h => ask_any twoM c s zeroC 1 W h
  have h2 := fun c s W h => take_any twoM c s zeroC 2 W h
  have h3 := fun c s W h => may_any twoM c s zeroC 1 W h
  have h4 := fun c s W h => may_any twoM c s ⟨0, 0, 0, 2, 0⟩ 1 W h
  rw [two_ask] at h1; rw [two_take] at h2; rw [two_may] at h3; rw [two_not] at h4
  unfold ResK at h1; unfold ResC at h2
  have hmo : ∀ c s W, Med W smallM c s → ∃ b off, s.A = some ⟨b, off, none⟩ ∧ b < W.heap.size ∧ ∃ v : MdV, W.cell? ⟨b, off, none⟩ = some (.slice v.d.A v.d.n v.d.c) ∧ W.cell? ⟨b, off + 1, none⟩ = some (.slice v.x.A v.x.n v.x.c) ∧ W.cell? ⟨b, off + 2, none⟩ = some (.slice v.n.A v.n.n v.n.c) ∧ Ints W.heap.size W v.d.A [2, 2, 2, 2] ∧ v.d.n = 4 ∧ Bools W.heap.size W v.x.A [true, true, true, true] ∧ v.x.n = 4 ∧ s.n = 1 := fun c s W h => by
    obtain ⟨b, off, e1, hb, v, c0, c1, c2, hv⟩ := h.sb.at_ (k := 0) (o := ⟨List.replicate 4 2, List.replicate 4 true, [true]⟩) rfl
    simp only [Nat.zero_mul, Nat.add_zero] at c0 c1 c2
    exact ⟨b, off, e1, hb, v, c0, c1, c2, hv.d, hv.dn, hv.x, hv.xn, h.sn⟩
  dsimp only [smallM, twoM, vM, zeroC, CS.cells] at hp h1 h2 h3 h4
  have HP := Lib.hid hp; have H1 := Lib.hid h1; have H2 := Lib.hid h2; have H3 := Lib.hid h3; have H4 := Lib.hid h4; have HMO := Lib.hid hmo
  clear hp h1 h2 h3 h4 hmo
  go_enter Try.func13, Try.ntmps13
  go_wp2_with fail
  refine HP.out.mono ?_
  rintro e w1 ⟨⟨Ac, nc, cc⟩, ⟨As, ns, cs⟩, rfl, hM, bc⟩
  dsimp only at hM ⊢
  clear HP
  obtain ⟨b, off, e1, hb, ⟨⟨Ad, nd, cd⟩, ⟨Ax, nx, cx⟩, ⟨An, nn, cn⟩⟩, c0, c1, c2, hd, hdn, hx, hxn, hs1⟩ := HMO.out _ _ _ hM
  dsimp only at e1 c0 c1 c2 hd hdn hx hxn hs1
  subst e1 hs1
  clear HMO
  have HM := Lib.hid hM; have HD := Lib.hid hd; have HX := Lib.hid hx; have HDN := Lib.hid hdn; have HXN := Lib.hid hxn; clear hM hd hx hdn hxn
  have km := Blk.new w1 25 #[.int .i64 4, .int .i64 138, .int .i64 38, .int .i64 16, .int .i64 0, .int .i64 1, .slice Ac nc cc, .slice (some ⟨b, off, none⟩) 1 cs]
  have al := Below.al w1 (.cells #[.int .i64 4, .int .i64 138, .int .i64 38, .int .i64 16, .int .i64 0, .int .i64 1, .slice Ac nc cc, .slice (some ⟨b, off, none⟩) 1 cs] 25)
  have b1 := Below.refl w1.heap.size w1
  replace b1 := b1.trans (al.mono b1.size); clear al
  have zm := bc.size
  go_upto_region 2 with fail
  generalize w1.alloc (.cells #[.int .i64 4, .int .i64 138, .int .i64 38, .int .i64 16, .int .i64 0, .int .i64 1, .slice Ac nc cc, .slice (some ⟨b, off, none⟩) 1 cs] 25) = u1 at *
  generalize hgm : w1.heap.size = gm at *
  have m0 := (b1.cell (p := ⟨b, off, none⟩) hb).trans c0
  have m1 := (b1.cell (p := ⟨b, off + 1, none⟩) hb).trans c1
  have m2 := (b1.cell (p := ⟨b, off + 2, none⟩) hb).trans c2
  obtain ⟨p0, p1, p2, p3, p4, p5, p6, p7⟩ := km.eight
  go_upto_region 3 with fail
  clear m0 m1 m2 p0 p1 p2 p3 p4 p5 p6 p7
  have ko := Blk.new u1 53 #[.slice Ad nd cd, .slice Ax nx cx, .slice An nn cn]
  have al := Below.al u1 (.cells #[.slice Ad nd cd, .slice Ax nx cx, .slice An nn cn] 53)
  have zo := km.lt
  replace km := km.on al; replace b1 := b1.trans (al.mono (by have := b1.size; omega)); clear al
  generalize u1.alloc (.cells #[.slice Ad nd cd, .slice Ax nx cx, .slice An nn cn] 53) = u2 at *
  generalize u1.heap.size = go at *
  clear u1
  obtain ⟨p0, p1, p2, f0, f1, f2⟩ := ko.three
  have zk := ko.lt
  go_upto_region 4 with fail
  clear p0 p1 p2 f0 f1 f2
  have ko2 : Blk (u2.setCell ⟨go, 2, none⟩ (.slice (some ⟨u2.heap.size, 0, none⟩) 2 2)) go 53 #[.slice Ad nd cd, .slice Ax nx cx, .slice (some ⟨u2.heap.size, 0, none⟩) 2 2] := ko.set_ 2 _
  have km2 := km.far (p := ⟨go, 2, none⟩) (by dsimp only; omega) (.slice (some ⟨u2.heap.size, 0, none⟩) 2 2)
  have b2 := b1.setCell (p := ⟨go, 2, none⟩) (by dsimp only; omega) (.slice (some ⟨u2.heap.size, 0, none⟩) 2 2)
  have zg : gm < u2.heap.size ∧ go < u2.heap.size := by have := km.lt; omega
  have hz3 : (u2.setCell ⟨go, 2, none⟩ (.slice (some ⟨u2.heap.size, 0, none⟩) 2 2)).heap.size = u2.heap.size := by simp
  clear ko km b1
  generalize u2.setCell ⟨go, 2, none⟩ (.slice (some ⟨u2.heap.size, 0, none⟩) 2 2) = u3 at *
  have kt := Blk.new u3 4 #[.bool true, .bool true]
  have al := Below.al u3 (.cells #[.bool true, .bool true] 4)
  replace km2 := km2.on al; replace ko2 := ko2.on al; replace b2 := b2.trans (al.mono (by have := b2.size; omega)); clear al
  rw [hz3] at kt
  clear hz3
  generalize u3.alloc (.cells #[.bool true, .bool true] 4) = u4 at *
  generalize u2.heap.size = gt at *
  clear u3 u2
  obtain ⟨p0, p1, p2, -⟩ := ko2.three
  obtain ⟨q0, q1, q2, q3, q4, q5, q6, q7⟩ := km2.eight
  obtain ⟨g0, g1, g2, g3, g4, g5, g6, g7⟩ := km2.eightF
  have zm4 := km2.lt
  go_upto_region 5 with fail
  clear p0 p1 p2 q0 q1 q2 q3 q4 q5 q6 q7 g0 g1 g2 g3 g4 g5 g6 g7
  have km3 := km2.set_ 7 (.slice (some ⟨u4.heap.size, 0, none⟩) 2 2)
  have kt3 := kt.far (p := ⟨gm, 7, none⟩) (by dsimp only; omega) (.slice (some ⟨u4.heap.size, 0, none⟩) 2 2)
  have b3 := b2.setCell (p := ⟨gm, 7, none⟩) (by dsimp only; omega) (.slice (some ⟨u4.heap.size, 0, none⟩) 2 2)
  have hz5 : (u4.setCell ⟨gm, 7, none⟩ (.slice (some ⟨u4.heap.size, 0, none⟩) 2 2)).heap.size = u4.heap.size := by simp
  clear ko2 km2 kt b2
  generalize u4.setCell ⟨gm, 7, none⟩ (.slice (some ⟨u4.heap.size, 0, none⟩) 2 2) = u5 at *
  have kn := Blk.new u5 53 #[.slice Ad nd cd, .slice Ax nx cx, .slice (some ⟨gt, 0, none⟩) 2 2, .slice Ad nd cd, .slice Ax nx cx, .slice (some ⟨gt, 0, none⟩) 2 2]
  have al := Below.al u5 (.cells #[.slice Ad nd cd, .slice Ax nx cx, .slice (some ⟨gt, 0, none⟩) 2 2, .slice Ad nd cd, .slice Ax nx cx, .slice (some ⟨gt, 0, none⟩) 2 2] 53)
  replace km3 := km3.on al; replace kt3 := kt3.on al; replace b3 := b3.trans (al.mono (by have := b3.size; omega)); clear al
  rw [hz5] at kn
  clear hz5
  generalize u5.alloc (.cells #[.slice Ad nd cd, .slice Ax nx cx, .slice (some ⟨gt, 0, none⟩) 2 2, .slice Ad nd cd, .slice Ax nx cx, .slice (some ⟨gt, 0, none⟩) 2 2] 53) = u6 at *
  generalize u4.heap.size = gn at *
  clear zm4
  clear u5 u4
  have km : Blk u6 gm 25 #[.int .i64 4, .int .i64 138, .int .i64 38, .int .i64 16, .int .i64 0, .int .i64 1, .slice Ac nc cc, .slice (some ⟨gn, 0, none⟩) 2 2] := km3
  clear km3
  have b4 : Below w1.heap.size w1 u6 := by rw [hgm]; exact b3
  have hM2 := med_two (d := ⟨Ad, nd, cd⟩) (x := ⟨Ax, nx, cx⟩) (HM.out.on b4) ((HD.out.below b3).mono (by have := b3.size; omega)) HDN.out ((HX.out.below b3).mono (by have := b3.size; omega)) HXN.out kt3 kn
  replace bc := bc.trans (b4.mono bc.size)
  clear kt3 kn b3 b4 HM HD HX HDN HXN
  obtain ⟨p0, p1, p2, p3, p4, p5, p6, p7⟩ := km.eight
  go_wp2_with fail
  refine (H1.out ⟨Ac, nc, cc⟩ ⟨some ⟨gn, 0, none⟩, 2, 2⟩ _ hM2).mono ?_
  rintro e w5 ⟨rfl, hC⟩
  dsimp only
  replace km := km.on hC; replace hM2 := hM2.on hC; replace bc := bc.trans (hC.mono bc.size); clear hC p0 p1 p2 p3 p4 p5 p6 p7
  obtain ⟨p0, p1, p2, p3, p4, p5, p6, p7⟩ := km.eight
  go_wp2_with fail
  refine (H2.out ⟨Ac, nc, cc⟩ ⟨some ⟨gn, 0, none⟩, 2, 2⟩ _ hM2).mono ?_
  rintro e w6 ⟨rfl, hC⟩
  dsimp only
  replace km := km.on hC; replace hM2 := hM2.on hC; replace bc := bc.trans (hC.mono bc.size); clear hC p0 p1 p2 p3 p4 p5 p6 p7
  have kx := Blk.new w6 27 #[.int .i64 0, .int .i64 0, .int .i64 0, .int .i64 2, .int .i64 0]
  have al := Below.al w6 (.cells #[.int .i64 0, .int .i64 0, .int .i64 0, .int .i64 2, .int .i64 0] 27)
  have zx := km.lt
  replace km := km.on al; replace hM2 := hM2.on al; replace bc := bc.trans (al.mono bc.size); clear al
  go_upto_region 7 with fail
  generalize w6.alloc (.cells #[.int .i64 0, .int .i64 0, .int .i64 0, .int .i64 2, .int .i64 0] 27) = u7 at *
  generalize w6.heap.size = gx at *
  obtain ⟨p0, p1, p2, p3, p4, p5, p6, p7⟩ := km.eight
  obtain ⟨⟨q0, q1, q2, q3, q4⟩, -⟩ := kx.five
  go_wp2_with (first
    | (go_at_call 14; with_reducible refine (H3.out ⟨Ac, nc, cc⟩ ⟨some ⟨gn, 0, none⟩, 2, 2⟩ _ hM2).mono ?_; rintro e w7 ⟨rfl, hC⟩; dsimp only; replace km := km.on hC; replace kx := kx.on hC; replace hM2 := hM2.on hC; replace bc := bc.trans (hC.mono bc.size); clear hC p0 p1 p2 p3 p4 p5 p6 p7 q0 q1 q2 q3 q4; obtain ⟨p0, p1, p2, p3, p4, p5, p6, p7⟩ := km.eight; obtain ⟨⟨q0, q1, q2, q3, q4⟩, -⟩ := kx.five)
    | (go_at_call 14; with_reducible refine (H4.out ⟨Ac, nc, cc⟩ ⟨some ⟨gn, 0, none⟩, 2, 2⟩ _ hM2).mono ?_; rintro e w8 ⟨rfl, hC⟩; dsimp only; replace bc := bc.trans (hC.mono bc.size); clear hC))
  go_ret
  exact ⟨rfl, bc⟩
end Go.Proofs.Ytaooonajfdbfhaa

namespace Go.Proofs.Ytaooonajfdbfhaa
open Go.ChangeShapes Go.WideShapes Go.ChangeAt Go.RowKit Go.Joins

theorem Try.cells27 : Try.prog.cellsOf 27 = 5 := by kernel_rfl
theorem array5 {α : Type} {a : Array α} (h : a.size = 5) : ∃ x0 x1 x2 x3 x4, a = #[x0, x1, x2, x3, x4] := by
  obtain ⟨l⟩ := a
  match l, h with
  | [x0, x1, x2, x3, x4], _ => exact ⟨x0, x1, x2, x3, x4, rfl⟩
section
variable {H : Type} {enc : TypeId × Value → H} {W : World} {base : Nat} {spare : Nat → Bool} {held : Bool}
set_option maxRecDepth 8000 in
theorem open_cstate {r : Reach} {b0 : Nat} {v : Value} {d : DataW H} {p : List MemPlace} (hv : Value.okWide Try.prog W r b0 27 v) (h : DataW.Trod enc Try.prog W base spare held 27 v d p) :
    ∃ c : CS, v = .agg c.cells := by
  obtain ⟨cs, rfl, hsz⟩ := okWide_struct Try.underlying27 hv
  obtain ⟨c0, c1, c2, c3, c4, rfl⟩ := array5 (hsz.trans Try.cells27)
  obtain ⟨fuel, hf⟩ := h
  obtain ⟨xs, n, _, _, hl, hlen, hf⟩ := DataW.trod_struct Try.underlying27 hf
  have h3 : Try.prog.cellsOf 3 = 1 := by kernel_rfl
  obtain ⟨y0, y1, y2, y3, y4, rfl⟩ : ∃ y0 y1 y2 y3 y4, xs = [y0, y1, y2, y3, y4] := by
    match xs, hlen with
    | [y0, y1, y2, y3, y4], _ => exact ⟨y0, y1, y2, y3, y4, rfl⟩
  obtain ⟨N0, e0, _⟩ := DataW.trod_int Try.underlying3 (by simpa [h3, Value.cells] using hf 0 _ rfl)
  obtain ⟨N1, e1, _⟩ := DataW.trod_int Try.underlying3 (by simpa [h3, Value.cells] using hf 1 _ rfl)
  obtain ⟨N2, e2, _⟩ := DataW.trod_int Try.underlying3 (by simpa [h3, Value.cells] using hf 2 _ rfl)
  obtain ⟨N3, e3, _⟩ := DataW.trod_int Try.underlying3 (by simpa [h3, Value.cells] using hf 3 _ rfl)
  obtain ⟨N4, e4, _⟩ := DataW.trod_int Try.underlying3 (by simpa [h3, Value.cells] using hf 4 _ rfl)
  simp at e0 e1 e2 e3 e4
  subst e0 e1 e2 e3 e4
  exact ⟨⟨N0, N1, N2, N3, N4⟩, rfl⟩
end
end Go.Proofs.Ytaooonajfdbfhaa
