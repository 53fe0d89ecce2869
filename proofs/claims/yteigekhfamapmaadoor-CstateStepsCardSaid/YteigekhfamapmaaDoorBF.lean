/-
  Members and Count of package cstate: the nodes that are members are told, rising. No condition.
-/
import Derived.Test.YteigekhfamapmaaDoorB8
namespace Go.Proofs.YteigekhfamapmaaDoor
open Go.RowKit Go.Shelf
attribute [local go_sem] Oper.semAt_some

/-- The members below k. -/
def memTo (c : CS) (k : Nat) : List Nat := (List.range k).filter fun j => hasC c (j : Int)
def memC (c : CS) : List Nat := memTo c 8
theorem memTo_yes {c : CS} {k : Nat} (h : hasC c (k : Int) = true) : memTo c (k + 1) = memTo c k ++ [k] := by simp [memTo, List.range_succ, h]
theorem memTo_no {c : CS} {k : Nat} (h : hasC c (k : Int) = false) : memTo c (k + 1) = memTo c k := by simp [memTo, List.range_succ, h]
theorem memTo_length (c : CS) (k : Nat) : (memTo c k).length ≤ k := by
  have := List.length_filter_le (fun j => hasC c ((j : Nat) : Int)) (List.range k)
  simpa [memTo] using this
theorem memTo_pre (c : CS) {k m : Nat} (h : k ≤ m) : ∃ r, memTo c m = memTo c k ++ r := by
  obtain ⟨d, rfl⟩ : ∃ d, m = k + d := ⟨m - k, by omega⟩
  exact ⟨((List.range d).map (k + ·)).filter fun j => hasC c (j : Int), by unfold memTo; rw [List.range_add, List.filter_append]⟩

set_option maxRecDepth 100000 in
set_option maxHeartbeats 2000000 in
theorem members1_in (n lp ob : Nat) (hn : 1 ≤ n) (c : CS) (J Jx : List Nat → World → Prop) (W : World)
    (hJ : AbidesFrom W.heap.size J)
    (hY : ∀ (pre : List Nat) (x : Nat) (W1 : World), J pre W1 → pre.length < 8 → YieldAt Fence.wide (n - 1) Tryd.prog lp #[.int .i64 (x : Int)] W1 fun e W' =>
      (e = .returned (.bool true) ∧ J (pre ++ [x]) W' ∧ Keeps2 ob ob W1 W') ∨ (e = .returned (.bool false) ∧ Jx (pre ++ [x]) W'))
    (hbox : Blk W ob 23 c.cells) (h0 : J [] W) :
    CallsIn Fence.wide n Tryd.prog 43 #[.func (.yield lp) #[] #[], .pointer (some ⟨ob, 0, none⟩)] W fun e W' => (∃ v, e = .returned v) ∧
      ((∃ ys, ys = memC c ∧ J ys W') ∨ (∃ pre, (∃ k, k ≤ 8 ∧ pre = memTo c k) ∧ Jx pre W')) := by
  have hall := fun (k : Nat) (W : World) => hasC_any c (k : Int) W
  obtain ⟨c', hc'⟩ : ∃ c', c' = c := ⟨_, rfl⟩
  rw [← hc']
  have hms := fun (k : Nat) (h : hasC c (k : Int) = true) => memTo_yes h
  have hmn := fun (k : Nat) (h : hasC c (k : Int) = false) => memTo_no h
  have hml := memTo_length c
  generalize hMT : memTo c = MT at *
  have hM8 : memC c' = MT 8 := by rw [hc', ← hMT]; rfl
  have hMk : memTo c' = MT := by rw [hc', ← hMT]
  have hM0 : MT 0 = [] := by rw [← hMT]; rfl
  rw [hM8, hMk]
  clear hM8 hMk hMT hc'
  generalize hasC c = hc at *
  have HALL := Lib.hid hall; have HMS := Lib.hid hms; have HMN := Lib.hid hmn; have HML := Lib.hid hml; have HM0 := Lib.hid hM0; clear hall hms hmn hml hM0
  obtain ⟨s0, s1, s2, s3, s4⟩ := c
  unfold CS.cells at *
  dsimp only at *
  have HJ := Lib.hid hJ; clear hJ
  have HY := Lib.hid hY; clear hY
  have H0 := Lib.hid h0; clear h0
  refine callsIn_of_wp Tryd.func43 rfl trivial ?_ rfl
  simp only [Tryd.ntmps43, List.size_toArray, List.length_cons, List.length_nil, Nat.reduceAdd, Nat.reduceSub, Array.replicate_succ, Array.replicate_zero, List.push_toArray, List.append_toArray, List.nil_append, List.cons_append]
  gi_wp2
  gi_loopw [4] (fun i wr => ∃ k : Nat, k ≤ 8 ∧ i = .int .i64 k ∧ J (MT k) wr ∧ Blk wr ob 23 #[.int .i64 s0, .int .i64 s1, .int .i64 s2, .int .i64 s3, .int .i64 s4])
    (fun i _ => 8 - (intOf i).toNat)
  case atStart => exact ⟨0, Nat.zero_le _, rfl, by rw [HM0.out]; exact H0.out, hbox⟩
  case round =>
    obtain ⟨k, hk, rfl, hJs, r2⟩ := hrel
    obtain ⟨⟨p0, p1, p2, p3, p4⟩, -⟩ := r2.five
    by_cases hlt : k < 8
    · have hH := HALL.out k wr
      by_cases hb : hc (k : Int) = true
      · rw [hb] at hH
        have HH := Lib.hid hH; have HB := Lib.hid hb; clear hH hb
        gi_wp2_with fail
        refine ⟨trivial, ?_⟩
        refine (callsIn_wide.2 HH.out).mono ?_
        rintro e w3 ⟨rfl, hb3⟩
        dsimp only
        obtain ⟨fn, tmps, assign, body, hy, hR⟩ := HY.out (MT k) k w3 (HJ.out _ _ _ none hJs (only_of_below hb3 none) (fun r e => by cases e)) (by have := HML.out k; omega)
        gi_wp2_with fail
        refine hR.mono ?_
        rintro e W3 (⟨rfl, hJ3, hk3⟩ | ⟨rfl, hJx3⟩)
        · gi_wp2
          go_roundw
          case rel => exact ⟨k + 1, by omega, by go_num, by rw [HMS.out k HB.out]; exact hJ3, hk3.1.trans (r2.below hb3 r2.lt)⟩
          case measure => simp [intOf]; omega
        · gi_wp2
          refine bodyPost_ret (results_none rfl _ _ _) rfl ?_
          exact ⟨⟨_, rfl⟩, .inr ⟨_, ⟨k + 1, by omega, (HMS.out k HB.out).symm⟩, hJx3⟩⟩
      · rw [Bool.not_eq_true] at hb
        rw [hb] at hH
        have HH := Lib.hid hH; have HB := Lib.hid hb; clear hH hb
        gi_wp2_with fail
        refine ⟨trivial, ?_⟩
        refine (callsIn_wide.2 HH.out).mono ?_
        rintro e w3 ⟨rfl, hb3⟩
        dsimp only
        gi_wp2_with fail
        refine ⟨(fun f e => by cases e), ?_⟩
        gi_wp2
        go_roundw
        case rel => exact ⟨k + 1, by omega, by go_num, by rw [HMN.out k HB.out]; exact HJ.out _ _ _ none hJs (only_of_below hb3 none) (fun r e => by cases e), r2.below hb3 r2.lt⟩
        case measure => simp [intOf]; omega
    · obtain rfl : k = 8 := by omega
      gi_wp2
      go_end0
      exact ⟨⟨_, rfl⟩, .inl ⟨_, rfl, hJs⟩⟩

abbrev enc1 (x : Nat) : Array Value := #[Value.int .i64 (x : Int)]
/-- A sequence that tells the members of a state. -/
abbrev TellsM (n gf : Nat) (lb : Array Value) (ob : Nat) (c : CS) (w : World) : Prop :=
  SeqStopsK Fence.wide n Tryd.prog gf lb enc1 (Keeps2 ob ob) (fun ys => ys = memC c) (fun pre => ∃ k, k ≤ 8 ∧ pre = memTo c k) 8 w
theorem members_stops (n ob : Nat) (hn : 1 ≤ n) (c : CS) (w : World) (hbox : Blk w ob 23 c.cells) : TellsM n 43 #[.pointer (some ⟨ob, 0, none⟩)] ob c w :=
  fun lp J Jx W hW hJ _ hY h0 => members1_in n lp ob hn c J Jx W hJ hY (hbox.below hW hbox.lt) h0
/-- What Members answers: a sequence that tells the members. -/
def MemGives (w : World) (c : CS) (e : Ending) (w' : World) : Prop :=
  ∃ (gf : Nat) (lb : Array Value) (ob : Nat), e = .returned (.func (.func gf) #[] lb) ∧ (∀ args w, (callFunc gf args).run Tryd.prog w = .ok (.enter gf args) w) ∧ (∀ n, 1 ≤ n → TellsM n gf lb ob c w') ∧ w.heap.size ≤ ob ∧ ob < w'.heap.size ∧ Below w.heap.size w w'

set_option maxRecDepth 8000 in
set_option maxHeartbeats 1000000 in
theorem members_any (c : CS) (w : World) : Calls Tryd.prog 29 #[.agg c.cells] w (MemGives w c) := by
  have hbx := Blk.new w 23 c.cells
  have HBX := Lib.hid hbx; clear hbx
  obtain ⟨c', hc'⟩ : ∃ c', c' = c := ⟨_, rfl⟩
  rw [← hc'] at HBX
  have hG : MemGives w c = MemGives w c' := by rw [hc']
  rw [hG]
  have hcc : c'.cells = c.cells := by rw [hc']
  have HCC := Lib.hid hcc
  clear hG hc' hcc
  obtain ⟨s0, s1, s2, s3, s4⟩ := c
  unfold CS.cells at HCC
  unfold CS.cells
  dsimp only at *
  go_enter Tryd.func29, Tryd.ntmps29
  go_wp2
  go_ret
  refine ⟨43, _, w.heap.size, rfl, enters_of Tryd.func43 (by kernel_rfl) rfl, fun q hq => ?_, Nat.le_refl _, by simp, (Below.refl _ _).alloc (Nat.le_refl _) _⟩
  refine members_stops q _ hq c' _ ?_
  have := HBX.out
  have hcc : c'.cells = #[.int .i64 s0, .int .i64 s1, .int .i64 s2, .int .i64 s3, .int .i64 s4] := HCC.out
  rw [hcc] at this ⊢
  exact this
end Go.Proofs.YteigekhfamapmaaDoor
