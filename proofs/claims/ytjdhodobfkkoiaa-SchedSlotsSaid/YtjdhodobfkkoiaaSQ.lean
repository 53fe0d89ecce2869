/-
  Next of package sched: the first slot of a place that begins no earlier than a moment. No condition.
-/
import Derived.Test.YtjdhodobfkkoiaaSN
import Derived.RangeFuncNested
import Derived.RangeFuncBox
import Derived.Sort.BigQuietIn
namespace Go.Proofs.Ytjdhodobfkkoiaa
open Go.RowKit Go.Shelf
attribute [local go_sem] Oper.semAt_some

/-- How many slots lie between, and Next, by the document. -/
def hop (k0 n pos : Int) : Int := (pos - k0) % n
def nextS (g : Gr) (t pos : Int) : Int × Int := if okG g then (if pos < 0 then (2, 0) else if g.2.2 ≤ pos then (2, 0) else if t < 0 then (2, 0) else if 1099511627776 < t then (2, 0) else (0, firstS g t + hop (firstS g t) g.2.2 pos)) else (61, 0)
theorem hop_in {k0 n pos : Int} (hn : 1 ≤ n) : 0 ≤ hop k0 n pos ∧ hop k0 n pos < n := ⟨Int.emod_nonneg _ (by omega), Int.emod_lt_of_pos _ (by omega)⟩
theorem hop_hit {k0 n pos : Int} (h0 : 0 ≤ pos) (h1 : pos < n) : (k0 + hop k0 n pos) % n = pos := by
  unfold hop
  rw [Int.add_emod_emod, show k0 + (pos - k0) = pos by omega]
  exact Int.emod_eq_of_lt h0 h1
theorem hop_first {k0 n pos j : Int} (hn : 1 ≤ n) (hj0 : 0 ≤ j) (h : (k0 + j) % n = pos) : hop k0 n pos ≤ j := by
  have hj : hop k0 n pos = j % n := by
    unfold hop
    rw [← h, Int.emod_sub_emod, show k0 + j - k0 = j by omega]
  rw [hj]
  have h5 := Int.emod_add_mul_ediv j n
  have h6 : 0 ≤ n * (j / n) := Int.mul_nonneg (by omega) (Int.ediv_nonneg hj0 (by omega))
  omega
theorem blk_kept {X Y : World} {g : Nat} {t : TypeId} {cs : Array Value} {row : Option Nat} (h : Blk X g t cs) (hg : X.grownBy Y row) (hr : ∀ r, row = some r → ∃ o : Obj, X.heap[r]? = some o ∧ o.isCells = false) : Blk Y g t cs :=
  h.grown hg (fun e => by
    obtain ⟨o, ho, hc⟩ := hr g e.symm
    have : o = .cells cs t (0, 0) := Option.some.inj (ho.symm.trans h)
    subst this
    cases hc)

set_option maxRecDepth 8000 in
set_option maxHeartbeats 1000000 in
theorem since_any (a b n t : Int) (w : World) : Calls Try.prog 46 #[vG a b n, .int .i64 t] w fun e w' => ∃ gb tb, e = .returned (.func (.func 52) #[] #[.pointer (some ⟨gb, 0, none⟩), .pointer (some ⟨tb, 0, none⟩)]) ∧ Blk w' gb 41 #[.int .i64 a, .int .i64 b, .int .i64 n] ∧ Blk w' tb 2 #[.int .i64 t] ∧ w.heap.size ≤ gb ∧ w.heap.size ≤ tb ∧ Below w.heap.size w w' := by
  obtain ⟨k1, k2, bc⟩ := bx2 w #[.int .i64 a, .int .i64 b, .int .i64 n] #[.int .i64 t] 41 2
  have K1 := Lib.hid k1; have K2 := Lib.hid k2; have BC := Lib.hid bc; clear k1 k2 bc
  go_enter Try.func46, Try.ntmps46
  go_wp2
  go_ret
  exact ⟨_, _, rfl, K1.out, K2.out, Nat.le_refl _, by omega, BC.out⟩

/-- What is so between two rounds of Next, and when it is left. -/
def NextI (w : World) (fb : Nat) (a b n pos k0 : Int) (pre : List Nat) (W : World) : Prop :=
  Blk W w.heap.size 41 #[.int .i64 a, .int .i64 b, .int .i64 n] ∧ Blk W (w.heap.size + 1) 3 #[.int .i64 pos] ∧ Blk W fb 3 #[.int .i64 0] ∧ Below w.heap.size w W ∧ ∀ x ∈ pre, (k0 + (x : Nat)) % n ≠ pos
def NextX (w : World) (fb : Nat) (n pos k0 : Int) (c : Code) (pre : List Nat) (W : World) : Prop :=
  c = .exit 0 ∧ ∃ (p : List Nat) (x : Nat), pre = p ++ [x] ∧ Blk W fb 3 #[.int .i64 (k0 + x)] ∧ Below w.heap.size w W ∧ (k0 + (x : Nat)) % n = pos ∧ ∀ y ∈ p, (k0 + (y : Nat)) % n ≠ pos
theorem nextI_own {w : World} {fb B : Nat} {a b n pos k0 : Int} (hB : w.heap.size ≤ B) : OwnFrom B (NextI w fb a b n pos k0) := fun s X Y row ⟨h1, h2, h3, h4, h5⟩ hg hr => by
  have hr' : ∀ r, row = some r → ∃ o : Obj, X.heap[r]? = some o ∧ o.isCells = false := fun r e => (hr r e).2
  exact ⟨blk_kept h1 hg hr', blk_kept h2 hg hr', blk_kept h3 hg hr', h4.grown hg h4.size (fun q e => by have := (hr q e).1; omega), h5⟩
theorem nextX_own {w : World} {fb B : Nat} {n pos k0 : Int} (hB : w.heap.size ≤ B) (c : Code) : OwnFrom B (NextX w fb n pos k0 c) := fun s X Y row ⟨h0, p, x, h1, h2, h3, h4, h5⟩ hg hr => by
  have hr' : ∀ r, row = some r → ∃ o : Obj, X.heap[r]? = some o ∧ o.isCells = false := fun r e => (hr r e).2
  exact ⟨h0, p, x, h1, blk_kept h2 hg hr', h3.grown hg h3.size (fun q e => by have := (hr q e).1; omega), h4, h5⟩
theorem next_bound {k0 n pos : Int} {m : Nat} (hn : 1 ≤ n) (hn8 : n ≤ 8) (h0 : 0 ≤ pos) (h1 : pos < n) (h : ∀ x ∈ List.range m, (k0 + (x : Nat)) % n ≠ pos) : m < 8 := by
  obtain ⟨j, hj⟩ := Int.eq_ofNat_of_zero_le (hop_in (k0 := k0) (pos := pos) hn).1
  have hl := (hop_in (k0 := k0) (pos := pos) hn).2
  have hh := hop_hit (k0 := k0) h0 h1
  rw [hj] at hl hh
  have : ¬ j < m := fun hjm => h j (List.mem_range.2 hjm) hh
  omega

set_option maxRecDepth 100000 in
set_option maxHeartbeats 4000000 in
theorem next_yes (a b n t pos : Int) (w : World) (hg : okG (a, b, n)) (hp : 0 ≤ pos ∧ pos < n) (ht : 0 ≤ t ∧ t ≤ 1099511627776) :
    Calls Try.prog 31 #[vG a b n, .int .i64 t, .int .i64 pos] w fun e w' => e = .returned (.tuple #[.int .i64 (firstS (a, b, n) t + hop (firstS (a, b, n) t) n pos), .int .i64 0]) ∧ Below w.heap.size w w' := by
  obtain ⟨k0, hk0⟩ : ∃ k0, k0 = firstS (a, b, n) t := ⟨_, rfl⟩
  rw [← hk0]
  have HK0 := Lib.hid hk0; clear hk0
  have h1 := fun W => checkG_any a b n W
  simp only [chkG_if, hg, if_true] at h1
  have h2 := fun W => isMoment_any t W
  have ht2 : (decide (0 ≤ t) && decide (t ≤ 1099511627776)) = true := by simp; omega
  rw [ht2] at h2
  have h3 := fun W => since_any a b n t W
  obtain ⟨⟨o0, o1⟩, ⟨o2, o3⟩, o4, o5⟩ := hg
  dsimp only at o0 o1 o2 o3 o4 o5
  have d1 : decide (pos < 0) = false := by simp; omega
  have d2 : decide (n ≤ pos) = false := by simp; omega
  have H1 := Lib.hid h1; have H2 := Lib.hid h2; have H3 := Lib.hid h3; clear h1 h2 h3 ht2
  obtain ⟨k1, k2, bc⟩ := bx2 w #[.int .i64 a, .int .i64 b, .int .i64 n] #[.int .i64 pos] 41 3
  refine (callsIn_wide (n := 5)).1 ?_
  refine callsIn_of_wp_marks Try.func31 rfl trivial ?_ rfl
  simp only [Try.ntmps31, List.size_toArray, List.length_cons, List.length_nil, Nat.reduceAdd, Nat.reduceSub, Array.replicate_succ, Array.replicate_zero, List.push_toArray, List.append_toArray, List.nil_append, List.cons_append]
  gi_wp2_with fail
  generalize (w.alloc _).alloc _ = u1 at *
  refine ⟨trivial, ?_⟩
  refine (callsIn_wide.2 (H1.out _)).mono ?_
  rintro e w1 ⟨rfl, hC⟩
  dsimp only
  replace k1 := k1.on hC; replace k2 := k2.on hC; replace bc := below_then bc hC; clear hC
  obtain ⟨p0, p1, p2, -, -, -⟩ := k1.three
  obtain ⟨p3, -⟩ := k2.one
  gi_wp2_with fail
  refine ⟨trivial, ?_⟩
  refine (callsIn_wide.2 (H2.out _)).mono ?_
  rintro e w2 ⟨rfl, rfl⟩
  dsimp only
  have kf := Blk.new w1 3 #[.int .i64 0]
  have hz1 : w.heap.size + 2 ≤ w1.heap.size := k2.lt
  have HZ1 := Lib.hid hz1; clear hz1
  have al := Below.al w1 (.cells #[.int .i64 0] 3)
  replace k1 := k1.on al; replace k2 := k2.on al
  replace bc := below_then bc al; clear al p0 p1 p2 p3
  obtain ⟨p0, p1, p2, -, -, -⟩ := k1.three
  gi_wp2_with fail
  clear p0 p1 p2
  generalize w1.alloc _ = w2 at *
  refine ⟨trivial, ?_⟩
  refine (callsIn_wide.2 (H3.out _)).mono ?_
  rintro e w3 ⟨gb, tb, rfl, kg, kt, hgb, htb, hC⟩
  dsimp only
  replace k1 := k1.on hC; replace k2 := k2.on hC; replace kf := kf.on hC; replace bc := below_then bc hC; clear hC
  gi_wp2_with fail
  have hfb : w.heap.size + 2 ≤ w1.heap.size := HZ1.out
  generalize w1.heap.size = fb at *
  have hk0 := HK0.out
  have hleft : SeqLeft Fence.wide (5 - 1) Try.prog 52 #[.pointer (some ⟨gb, 0, none⟩), .pointer (some ⟨tb, 0, none⟩)] (encSl (a, b, n) k0) (Keeps2 gb tb) (NextI w fb a b n pos k0) (fun pre => ∃ m, pre = List.range (m + 1)) w3 := by
    rw [hk0]
    exact since_left (5 - 1) gb tb 8 (by omega) a b n t ⟨o0, o1⟩ ⟨o2, o3⟩ ht.2 (by omega) _ (fun m W h => next_bound (by omega) o5 hp.1 hp.2 h.2.2.2.2) w3 kg kt
  have hk00 : 0 ≤ k0 ∧ k0 ≤ 1099511627776 := by rw [hk0]; have := first_bound (n := n) o0 o2 ht.2; omega
  have kgl := kg.lt; have ktl := kt.lt
  have HL := Lib.hid hleft; clear hleft hk0 kg kt
  have hI0 : NextI w fb a b n pos k0 [] w3 := ⟨k1, k2, kf, bc, fun x hx => by cases hx⟩
  have hb3 := bc.size
  refine wpIn_range_left rfl (by omega) (gf := 52) (lb := #[.pointer (some ⟨gb, 0, none⟩), .pointer (some ⟨tb, 0, none⟩)]) rfl trivial (enters_of Try.func52 (by kernel_rfl) rfl)
    (NextI w fb a b n pos k0) (NextX w fb n pos k0) HL.out Keeps2.trans (keeps2_b kgl ktl) (fun _ => rfl) (nextI_own hb3) (nextX_own hb3) hI0
    (fun x => { tmps := #[vG a b n, .int .i64 t, .int .i64 pos, .pointer (some ⟨w.heap.size, 0, none⟩), undef, .pointer (some ⟨w.heap.size + 1, 0, none⟩), .int .i64 0, .int .i64 0, .int .i64 0, .pointer (some ⟨fb, 0, none⟩), .int .i64 (k0 + x),
      .agg #[.int .i64 a, .int .i64 b, .int .i64 n], .int .i64 0, .int .i64 0, .bool false, undef, .int .i64 pos, .bool false, .bool false, .int .i64 pos, .pointer (some ⟨w.heap.size, 2, none⟩), .int .i64 n, .bool false, .bool false, .bool false, .int .i64 t, .bool true, .bool false, .bool false,
      .agg #[.int .i64 a, .int .i64 b, .int .i64 n], .int .i64 t, .func (.func 52) #[] #[.pointer (some ⟨gb, 0, none⟩), .pointer (some ⟨tb, 0, none⟩)], .int .i64 (k0 + x), vS (slotAt (a, b, n) (k0 + x)).1 (slotAt (a, b, n) (k0 + x)).2, undef, undef, undef, undef, undef, undef, undef, undef], defers := [] }) ?assign ?body ?stop
  case assign =>
    intro l x W K hK
    gi_wp2
    exact hK
  case body =>
    rintro lp pre x W ⟨i1, i2, i3, i4, i5⟩
    obtain ⟨p0, p1, p2, -, -, -⟩ := i1.three
    obtain ⟨p3, -⟩ := i2.one
    obtain ⟨p4, p5⟩ := i3.one
    have hd : (k0 + (x : Nat)).tmod n = (k0 + (x : Nat)) % n := Int.tmod_eq_emod_of_nonneg (by omega)
    have hi5 := i5
    generalize slotAt (a, b, n) (k0 + (x : Nat)) = sl at *
    obtain ⟨y, hy⟩ : ∃ y, y = k0 + (x : Nat) := ⟨_, rfl⟩
    rw [← hy] at hd
    dsimp only
    simp only [← hy]
    have hn0 : n ≠ 0 := by omega
    have hm1 : 0 ≤ y % n ∧ y % n < n := ⟨Int.emod_nonneg _ hn0, Int.emod_lt_of_pos _ (by omega)⟩
    have hwr : IntKind.i64.wrap (y % n) = y % n := IntWalk.i64_in _ (by omega)
    have HI5 := Lib.hid hi5; have HY := Lib.hid hy; have HB := Lib.hid i4; clear hi5 i5 hy i4
    by_cases hx : y % n = pos
    · have HX := Lib.hid hx
      rw [hx] at hd hwr
      clear hx hm1
      gi_wp2
      gi_region
      all_goals
        gi_wp2
        refine ⟨?_, rfl, pre, x, rfl, ?_, ?_, ?_, HI5.out⟩
        · exact (fun h => ⟨h.size, h.same⟩ : KeepsFrom w3.heap.size W.drew _ → KeepsFrom w3.heap.size W _) ((KeepsOthers.setCell _ _ _).from _)
        · rw [← HY.out]; exact Blk.put1 (W := W.drew) i3 _
        · exact (HB.out.drew).setCell (by dsimp only; omega) _
        · rw [← HY.out]; exact HX.out
    · have hb1 : (y % n == pos) = false := by simpa using hx
      have hx2 : (k0 + (x : Nat)) % n ≠ pos := by rw [← HY.out]; exact hx
      have HX := Lib.hid hx2; clear hx hx2
      generalize y % n = r at *
      gi_wp2
      gi_region
      all_goals
        gi_wp2
        refine ⟨(fun h => ⟨h.size, h.same⟩ : KeepsFrom w3.heap.size W.drew W.drew → KeepsFrom w3.heap.size W W.drew) (KeepsFrom.refl _ _), ⟨rfl, rfl⟩, i1, i2, i3, HB.out.drew, fun z hz => ?_⟩
        rcases List.mem_append.1 hz with hz | hz
        · exact HI5.out z hz
        · have hzx : z = x := by simpa using hz
          subst hzx
          exact HX.out
  case stop =>
    rintro D c pre W hD ⟨m, rfl⟩ ⟨rfl, p, x, hpx, x1, x2, x3, x4⟩ hK
    rw [List.range_succ] at hpx
    obtain ⟨rfl, hx⟩ := List.append_inj' hpx rfl
    have hx2 : m = x := by simpa using hx
    subst hx2
    have hres : k0 + hop k0 n pos = k0 + (m : Int) := by
      have h1 := hop_first (k0 := k0) (n := n) (pos := pos) (j := (m : Int)) (by omega) (by omega) x3
      obtain ⟨j, hj⟩ := Int.eq_ofNat_of_zero_le (hop_in (k0 := k0) (pos := pos) (n := n) (by omega)).1
      have hh := hop_hit (k0 := k0) hp.1 hp.2
      rw [hj] at h1 hh
      have h2 : ¬ j < m := fun hjm => x4 j (List.mem_range.2 hjm) hh
      rw [hj]; omega
    have HR := Lib.hid hres; have HB := Lib.hid x2; clear hres hpx hx x3 x4 x2
    obtain ⟨p4, p5⟩ := x1.one
    gi_wp2
    refine ⟨by simp, .inl ⟨_, _, rfl, run_takeDeferred hK, ?_⟩⟩
    exact ⟨_, results_tmp2 rfl _ _ _, by rw [HR.out]; rfl, HB.out.trans (belowK_b (w := w) (Nat.le_refl _) W D _ _ (by omega) hK rfl rfl)⟩
end Go.Proofs.Ytjdhodobfkkoiaa
