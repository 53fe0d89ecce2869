/-
  Slots of package sched: the slots that begin within a span and end no later than MaxTick are told, rising. Conditions: a grid and a span that may be; as many as there are.
-/
import Derived.Test.YtjdhodobfkkoiaaTA
import Derived.Test.YtjdhodobfkkoiaaSW
namespace Go.Proofs.Ytjdhodobfkkoiaa
open Go.RowKit Go.Shelf
attribute [local go_sem] Oper.semAt_some

/-- Is the slot j behind the first one told? -/
def isIn (g : Gr) (k0 to : Int) (j : Nat) : Prop := (slotAt g (k0 + j)).1 < to ∧ (slotAt g (k0 + j)).2 ≤ 1099511627776
theorem isIn_down {g : Gr} {k0 to : Int} (hb : 1 ≤ g.2.1) {i j : Nat} (hij : i ≤ j) (h : isIn g k0 to j) : isIn g k0 to i := by
  unfold isIn slotAt at *
  dsimp only at *
  have : (k0 + (i : Int)) * g.2.1 ≤ (k0 + (j : Int)) * g.2.1 := Int.mul_le_mul_of_nonneg_right (by omega) (by omega)
  omega
theorem least_not (p : Nat → Prop) : ∀ n, ¬ p n → ∃ c, (∀ j, j < c → p j) ∧ ¬ p c := by
  intro n
  induction n using Nat.strongRecOn with
  | _ n ih =>
    intro h
    by_cases h2 : ∃ m, m < n ∧ ¬ p m
    · obtain ⟨m, hm, hp⟩ := h2
      exact ih m hm hp
    · exact ⟨n, fun j hj => Classical.byContradiction fun hn => h2 ⟨j, hj, hn⟩, h⟩
/-- How many are told. -/
theorem in_count (g : Gr) (k0 to : Int) (ha : 0 ≤ g.1) (hb : 1 ≤ g.2.1) (hb2 : g.2.1 ≤ 16777216) (hk : 0 ≤ k0) : ∃ C : Nat, (∀ j, isIn g k0 to j ↔ j < C) ∧ (C : Int) * g.2.1 ≤ 1099511627776 := by
  have hno : ¬ isIn g k0 to 1099511627776 := by
    unfold isIn slotAt; dsimp only
    have : (1099511627776 : Int) * 1 ≤ (k0 + ((1099511627776 : Nat) : Int)) * g.2.1 := Int.mul_le_mul (by omega) hb (by omega) (by omega)
    omega
  obtain ⟨C, h1, h2⟩ := least_not (isIn g k0 to) _ hno
  refine ⟨C, fun j => ⟨fun h => Classical.byContradiction fun hn => h2 (isIn_down hb (by omega) h), h1 j⟩, ?_⟩
  rcases Nat.eq_zero_or_pos C with h0 | h0
  · subst h0; simp
  · have h3 := h1 (C - 1) (by omega)
    unfold isIn slotAt at h3; dsimp only at h3
    have e : (k0 + ((C - 1 : Nat) : Int)) * g.2.1 + g.2.1 = (k0 + (C : Int)) * g.2.1 := by
      rw [show ((C - 1 : Nat) : Int) = (C : Int) - 1 by omega, show k0 + (C : Int) = (k0 + ((C : Int) - 1)) + 1 by omega, Int.add_mul (k0 + ((C : Int) - 1)) 1, Int.one_mul]
    have h4 : (C : Int) * g.2.1 ≤ (k0 + (C : Int)) * g.2.1 := Int.mul_le_mul_of_nonneg_right (by omega) (by omega)
    omega

set_option maxRecDepth 100000 in
set_option maxHeartbeats 2000000 in
theorem since_own (q gb tb M : Nat) (hq : 1 ≤ q) (a b n t : Int) (ha : 0 ≤ a ∧ a ≤ 1099511627776) (hb : 1 ≤ b ∧ b ≤ 16777216) (ht : t ≤ 1099511627776) (hM : (M : Int) * b ≤ 1099511627776 + 16777216 * 16)
    (I : List Nat → World → Prop) (hbd : ∀ m W, I (List.range m) W → m < M) (w : World)
    (hg : Blk w gb 41 #[.int .i64 a, .int .i64 b, .int .i64 n]) (ht2 : Blk w tb 2 #[.int .i64 t]) :
    SeqOwn Fence.wide q Try.prog 52 #[.pointer (some ⟨gb, 0, none⟩), .pointer (some ⟨tb, 0, none⟩)] (encSl (a, b, n) (firstS (a, b, n) t)) (Keeps2 gb tb) (fun pre x => pre = List.range x) I (fun _ => False) (fun pre => ∃ m, pre = List.range (m + 1)) w := by
  intro lp J Jx W hW hJ _ hIJ hY h0
  have HJ := Lib.hid hJ; have HY := Lib.hid hY; have H0 := Lib.hid h0; have HI := Lib.hid hIJ; have HBD := Lib.hid hbd
  clear hJ hY h0 hIJ hbd
  have kg := hg.below hW hg.lt
  have kt := ht2.below hW ht2.lt
  obtain ⟨f1, f2, f3⟩ := first_bound (n := n) ha.1 hb.1 ht
  have hfs := fun (W : World) => firstSince_any a b n t W ha.1 hb.1 ht
  have hsp := fun (j : Nat) (W : World) (h : j ≤ M) => spanOf_any a b n (firstS (a, b, n) t + j) W ha hb (slot_in hb.1 hb.2 f1 f2 h hM)
  have hM2 : (M : Int) ≤ 1099511627776 + 16777216 * 16 := by
    have : (M : Int) * 1 ≤ (M : Int) * b := Int.mul_le_mul_of_nonneg_left hb.1 (by omega)
    omega
  generalize firstS (a, b, n) t = k0 at *
  obtain ⟨K, hK⟩ := Int.eq_ofNat_of_zero_le f1
  subst hK
  have HFS := Lib.hid hfs; have HSP := Lib.hid hsp
  clear hfs hsp hg ht2 ha hb ht hM hW f1 f2
  obtain ⟨p0, p1, p2, -, -, -⟩ := kg.three
  obtain ⟨p3, -⟩ := kt.one
  refine callsIn_of_wp Try.func52 rfl trivial ?_ rfl
  simp only [Try.ntmps52, List.size_toArray, List.length_cons, List.length_nil, Nat.reduceAdd, Nat.reduceSub, Array.replicate_succ, Array.replicate_zero, List.push_toArray, List.append_toArray, List.nil_append, List.cons_append]
  gi_wp2_with fail
  refine ⟨trivial, ?_⟩
  refine (callsIn_wide.2 (HFS.out _)).mono ?_
  rintro e w1 ⟨rfl, hC⟩
  dsimp only
  have k1 := kg.on hC
  have k2 := kt.on hC
  have hJ1 := HJ.out _ _ _ none H0.out (only_of_below hC none) (fun r e => by cases e)
  clear p0 p1 p2 p3 kg kt H0 hC
  gi_wp2
  gi_loopw [4] (fun i wr => ∃ m : Nat, i = .int .i64 ((K : Int) + (m : Int)) ∧ J (List.range m) wr ∧ Blk wr gb 41 #[.int .i64 a, .int .i64 b, .int .i64 n] ∧ Blk wr tb 2 #[.int .i64 t])
    (fun i _ => K + M - (intOf i).toNat)
  case atStart => exact ⟨0, by simp, hJ1, k1, k2⟩
  case round =>
    clear hJ1 k1 k2
    obtain ⟨m, rfl, hJs, k1, k2⟩ := hrel
    have hmM := HBD.out m _ (HI.out _ _ hJs)
    obtain ⟨p0, p1, p2, -, -, -⟩ := k1.three
    have hsp := HSP.out m
    have hyy := fun W1 => HY.out (List.range m) m W1 rfl
    simp only [encSl] at hyy
    generalize (slotAt (a, b, n) (↑K + ↑m)).1 = s1 at *
    generalize (slotAt (a, b, n) (↑K + ↑m)).2 = s2 at *
    have HSM := Lib.hid hsp; have HYY := Lib.hid hyy; clear hsp hyy HSP
    have hw1 : IntKind.i64.wrap ((K : Int) + (m : Int) + 1) = (K : Int) + (m : Int) + 1 := IntWalk.i64_in _ (by omega)
    gi_wp2_with fail
    refine ⟨trivial, ?_⟩
    refine (callsIn_wide.2 (HSM.out _ (by omega))).mono ?_
    rintro e w3 ⟨rfl, hb3⟩
    dsimp only
    obtain ⟨fn, tmps, assign, body, hy, hR⟩ := HYY.out w3 (HJ.out _ _ _ none hJs (only_of_below hb3 none) (fun r e => by cases e))
    gi_wp2_with fail
    refine hR.mono ?_
    rintro e W3 (⟨rfl, hJ3, hk3, -⟩ | ⟨rfl, hJx3, -⟩)
    · gi_wp2
      go_roundw
      case rel => exact ⟨m + 1, by go_num, by rw [List.range_succ]; exact hJ3, hk3.1.trans (k1.on hb3), hk3.2.trans (k2.on hb3)⟩
      case measure => simp [intOf]; omega
    · gi_wp2
      go_end0
      exact ⟨⟨_, rfl⟩, .inr ⟨_, ⟨m, by rw [List.range_succ]⟩, hJx3⟩⟩

/-- What a round keeps: the span's own box, and each box of a grid, of a moment and of a function. -/
def KeepB (sb : Nat) (W W' : World) : Prop := W'.heap[sb]? = W.heap[sb]? ∧ ∀ (x : Nat) (t : TypeId) (cs : Array Value), (t = 41 ∨ t = 2 ∨ t = 66) → Blk W x t cs → Blk W' x t cs
theorem KeepB.trans {sb : Nat} {A B C : World} (h : KeepB sb A B) (k : KeepB sb B C) : KeepB sb A C := ⟨k.1.trans h.1, fun x t cs ht hb => k.2 x t cs ht (h.2 x t cs ht hb)⟩

/-- A round is one in whatever round of the wide fence. -/
theorem round_wide {m m' l0 lp : Nat} {P : Program} {fn : FuncId} {tmps : Array Value} {assign body : Code} {W : World} {R : Ending → World → Prop} (h : RoundIn Fence.wide m P lp fn tmps assign body W R) : RoundIn (Fence.wide.inRound l0) m' P lp fn tmps assign body W R :=
  ⟨h.1, fun c cs _ => h.2 c cs (fun d hd => by cases hd)⟩
/-- What is so between two rounds of Slots' own loop; how it is left; what a round begins with. -/
def SlI (J : List Nat → World → Prop) (sb yb gc tc lp : Nat) (a b n fr to k0 : Int) (pre : List Nat) (V : World) : Prop :=
  J pre V ∧ Blk V sb 23 #[.int .i64 fr, .int .i64 to] ∧ Blk V yb 66 #[.func (.yield lp) #[] #[]] ∧ Blk V gc 41 #[.int .i64 a, .int .i64 b, .int .i64 n] ∧ Blk V tc 2 #[.int .i64 fr] ∧ ∀ x ∈ pre, isIn (a, b, n) k0 to x
def SlX (J Jx : List Nat → World → Prop) (g : Gr) (k0 to : Int) (c : Code) (pre : List Nat) (V : World) : Prop :=
  c = .ret ∧ ((Jx pre V ∧ ∀ x ∈ pre, isIn g k0 to x) ∨ ∃ (p : List Nat) (x : Nat), pre = p ++ [x] ∧ J p V ∧ ¬ isIn g k0 to x ∧ ∀ y ∈ p, isIn g k0 to y)
theorem slI_own {J : List Nat → World → Prop} {sb yb gc tc lp B B' : Nat} {a b n fr to k0 : Int} (hJ : OwnFrom B J) (hB : B ≤ B') : OwnFrom B' (SlI J sb yb gc tc lp a b n fr to k0) := fun s X Y row ⟨h1, h2, h3, h4, h5, h6⟩ hg hr => by
  have hr' : ∀ r, row = some r → ∃ o : Obj, X.heap[r]? = some o ∧ o.isCells = false := fun r e => (hr r e).2
  exact ⟨hJ s X Y row h1 hg (fun r e => ⟨Nat.le_trans hB (hr r e).1, (hr r e).2⟩), blk_kept h2 hg hr', blk_kept h3 hg hr', blk_kept h4 hg hr', blk_kept h5 hg hr', h6⟩
theorem slX_own {J Jx : List Nat → World → Prop} {B B' : Nat} {g : Gr} {k0 to : Int} (hJ : OwnFrom B J) (hJx : OwnFrom B Jx) (hB : B ≤ B') (c : Code) : OwnFrom B' (SlX J Jx g k0 to c) := fun s X Y row ⟨h0, h⟩ hg hr => by
  have hr' : ∀ r, row = some r → B ≤ r ∧ ∃ o : Obj, X.heap[r]? = some o ∧ o.isCells = false := fun r e => ⟨Nat.le_trans hB (hr r e).1, (hr r e).2⟩
  refine ⟨h0, ?_⟩
  rcases h with ⟨h1, h2⟩ | ⟨p, x, h1, h2, h3⟩
  · exact .inl ⟨hJx s X Y row h1 hg hr', h2⟩
  · exact .inr ⟨p, x, h1, hJ p X Y row h2 hg hr', h3⟩
/-- The activation of a round, its span boxed. -/
def SlA (tm : Nat → Nat → Array Value) (g : Gr) (k0 : Int) (x : Nat) (a' : Act) (V : World) : Prop :=
  ∃ xb, a' = { tmps := tm x xb, defers := [] } ∧ Blk V xb 23 #[.int .i64 (slotAt g (k0 + x)).1, .int .i64 (slotAt g (k0 + x)).2]
theorem slA_own {B : Nat} {tm : Nat → Nat → Array Value} {g : Gr} {k0 : Int} (x : Nat) : OwnFrom B (SlA tm g k0 x) := fun _ _ _ _ ⟨xb, h0, h⟩ hg hr => ⟨xb, h0, blk_kept h hg fun r e => (hr r e).2⟩

set_option maxRecDepth 100000 in
set_option maxHeartbeats 4000000 in
theorem slots2_own (q gb sb C : Nat) (a b n fr to : Int) (hg : okG (a, b, n)) (hfr : fr ≤ 1099511627776) (hC : ∀ j, isIn (a, b, n) (firstS (a, b, n) fr) to j ↔ j < C) (hCb : (C : Int) * b ≤ 1099511627776) (w : World)
    (kg : Blk w gb 41 #[.int .i64 a, .int .i64 b, .int .i64 n]) (ks : Blk w sb 23 #[.int .i64 fr, .int .i64 to]) :
    SeqOwn Fence.wide (q + 3) Try.prog 48 #[.pointer (some ⟨gb, 0, none⟩), .pointer (some ⟨sb, 0, none⟩)] (encSl (a, b, n) (firstS (a, b, n) fr)) (KeepB sb) (fun pre x => pre = List.range x) (fun _ _ => True) (fun ys => ys = List.range C) (fun pre => ∃ m, m < C ∧ pre = List.range (m + 1)) w := by
  intro lp J Jx W hW hJ hJx _ hY h0
  replace kg := kg.below hW kg.lt
  replace ks := ks.below hW ks.lt
  have hsi := fun W => since_any a b n fr W
  have hleft := fun (gb tb : Nat) (I : List Nat → World → Prop) (hbd : ∀ m W, I (List.range m) W → m < C + 1) (w : World) (k1 : Blk w gb 41 #[.int .i64 a, .int .i64 b, .int .i64 n]) (k2 : Blk w tb 2 #[.int .i64 fr]) =>
    (since_own (q + 2) gb tb (C + 1) (by omega) a b n fr hg.1 hg.2.1 hfr (by rw [Int.natCast_add, Int.add_mul]; have := hg.2.1; dsimp only at this; omega) I hbd w k1 k2)
  generalize firstS (a, b, n) fr = k0 at *
  have HSI := Lib.hid hsi; have HL := Lib.hid hleft; have HY := Lib.hid hY; have HJ := Lib.hid hJ; have HJX := Lib.hid hJx; have H0 := Lib.hid h0; have HC := Lib.hid hC
  clear hsi hleft hY hJ hJx h0 hC hCb hg hfr hW
  have ky := Blk.new W 66 #[.func (.yield lp) #[] #[]]
  have al := Below.al W (.cells #[.func (.yield lp) #[] #[]] 66)
  have kg1 := kg.on al; have ks1 := ks.on al
  refine callsIn_of_wp_marks Try.func48 rfl trivial ?_ rfl
  simp only [Try.ntmps48, List.size_toArray, List.length_cons, List.length_nil, Nat.reduceAdd, Nat.reduceSub, Array.replicate_succ, Array.replicate_zero, List.push_toArray, List.append_toArray, List.nil_append, List.cons_append]
  obtain ⟨p0, p1, p2, -, -, -⟩ := kg1.three
  obtain ⟨p3, p4, -, -⟩ := ks1.two
  gi_wp2_with fail
  clear p0 p1 p2 p3 p4
  generalize W.alloc _ = W1 at *
  refine ⟨trivial, ?_⟩
  refine (callsIn_wide.2 (HSI.out _)).mono ?_
  rintro e w1 ⟨gc, tc, rfl, kgc, ktc, hgc, htc, hC1⟩
  dsimp only
  replace ky := ky.on hC1; replace kg1 := kg1.on hC1; replace ks1 := ks1.on hC1
  have bw := below_then al hC1
  gi_wp2_with fail
  have hwz := bw.size
  have hl := HL.out gc tc (SlI J sb W.heap.size gc tc lp a b n fr to k0) (fun m V h => by
    by_cases hm : m = 0
    · omega
    · have := (HC.out (m - 1)).1 (h.2.2.2.2.2 (m - 1) (List.mem_range.2 (by omega)))
      omega) w1 kgc ktc
  have hI0 : SlI J sb W.heap.size gc tc lp a b n fr to k0 [] w1 := ⟨HJ.out _ _ _ none H0.out (only_of_below bw none) (fun r e => by cases e), ks1, ky, kgc, ktc, fun x hx => by cases hx⟩
  have kgl := kgc.lt; have ktl := ktc.lt
  have HLL := Lib.hid hl; have HI0 := Lib.hid hI0; clear hl hI0 HL kg1 H0
  refine wpIn_range_own rfl (by omega) (gf := 52) (lb := #[.pointer (some ⟨gc, 0, none⟩), .pointer (some ⟨tc, 0, none⟩)]) rfl trivial (enters_of Try.func52 (by kernel_rfl) rfl)
    (SlI J sb W.heap.size gc tc lp a b n fr to k0) (SlX J Jx (a, b, n) k0 to)
    (SlA (fun x xb => #[.func (.yield lp) #[] #[], .pointer (some ⟨gb, 0, none⟩), .pointer (some ⟨sb, 0, none⟩), .pointer (some ⟨W.heap.size, 0, none⟩), .int .i64 (k0 + x), .pointer (some ⟨xb, 0, none⟩), .agg #[.int .i64 a, .int .i64 b, .int .i64 n], .pointer (some ⟨sb, 0, none⟩), .int .i64 fr,
      .func (.func 52) #[] #[.pointer (some ⟨gc, 0, none⟩), .pointer (some ⟨tc, 0, none⟩)], .int .i64 (k0 + x), vS (slotAt (a, b, n) (k0 + x)).1 (slotAt (a, b, n) (k0 + x)).2, undef, undef, undef, undef, undef, undef, undef, undef, undef, undef, undef, undef, undef, undef, undef, undef, undef]) (a, b, n) k0)
    HLL.out Keeps2.trans (keeps2_b kgl ktl) (fun _ => rfl) (slI_own HJ.out hwz) (slX_own HJ.out HJX.out hwz) (fun x => slA_own x) HI0.out ?assign ?body ?done ?stop
  case done => exact fun D xs V hD h => h.elim
  case assign =>
    intro l pre x V K _ hI hK
    have kx := Blk.new V 23 #[.int .i64 (slotAt (a, b, n) (k0 + x)).1, .int .i64 (slotAt (a, b, n) (k0 + x)).2]
    have HKX := Lib.hid kx; have HII := Lib.hid hI; have HKK := Lib.hid hK; clear kx hI hK
    gi_wp2
    obtain ⟨-, -, -, i4, i5, -⟩ := HII.out
    exact HKK.out _ _ (KeepsFrom.of_grownBy (World.grownBy_alloc V _ none) (fun j e => by cases e)) ⟨Below.heap_alloc V _ _ i4.lt, Below.heap_alloc V _ _ i5.lt⟩ ((slI_own HJ.out hwz).alloc _ HII.out) ⟨_, rfl, HKX.out⟩
  case body =>
    rintro l pre x _ V hok ⟨i1, i2, i3, i4, i5, i6⟩ ⟨xb, rfl, kx⟩
    have hyy := HY.out pre x V hok i1
    simp only [encSl] at hyy
    have hin : isIn (a, b, n) k0 to x ↔ (slotAt (a, b, n) (k0 + x)).1 < to ∧ (slotAt (a, b, n) (k0 + x)).2 ≤ 1099511627776 := Iff.rfl
    have HIN := Lib.hid hin
    generalize (slotAt (a, b, n) (k0 + x)).1 = s1 at *
    generalize (slotAt (a, b, n) (k0 + x)).2 = s2 at *
    obtain ⟨x0, x1, -, -⟩ := kx.two
    obtain ⟨y0, y1, -, -⟩ := i2.two
    obtain ⟨z0, -⟩ := i3.one
    have I1 := Lib.hid i1; have I6 := Lib.hid i6; have HYY := Lib.hid hyy; clear i1 i6 hyy hin
    dsimp only
    by_cases c1 : s1 < to
    · have d1 : decide (to ≤ s1) = false := by simpa using c1
      by_cases c2 : s2 ≤ 1099511627776
      · have d2 : decide (1099511627776 < s2) = false := by simpa using c2
        have hin := HIN.out.2 ⟨c1, c2⟩
        have HIN2 := Lib.hid hin; clear hin c1 c2
        obtain ⟨fn, tmps, assign, body, hy, hR⟩ := HYY.out
        have hall : ∀ y ∈ pre ++ [x], isIn (a, b, n) k0 to y := fun y hy => by
          rcases List.mem_append.1 hy with hy | hy
          · exact I6.out y hy
          · have : y = x := by simpa using hy
            subst this; exact HIN2.out
        have HA := Lib.hid hall; clear hall
        gi_wp2_with fail
        refine (round_wide hR).mono ?_
        rintro e W3 (⟨rfl, hJ3, hk3, hkf⟩ | ⟨rfl, hJx3, hkf⟩)
        · gi_wp2
          exact ⟨keepsFrom_low hkf hwz, ⟨(hk3.2 _ _ _ (.inl rfl) i4).trans i4.symm, (hk3.2 _ _ _ (.inr (.inl rfl)) i5).trans i5.symm⟩, hJ3, hk3.1.trans i2, hk3.2 _ _ _ (.inr (.inr rfl)) i3, hk3.2 _ _ _ (.inl rfl) i4, hk3.2 _ _ _ (.inr (.inl rfl)) i5, HA.out⟩
        · gi_wp2
          exact ⟨keepsFrom_low hkf hwz, rfl, .inl ⟨hJx3, HA.out⟩⟩
      · have d2 : decide (1099511627776 < s2) = true := by simp; omega
        have hno : ¬ isIn (a, b, n) k0 to x := fun h => c2 (HIN.out.1 h).2
        have HNO := Lib.hid hno; clear hno c1 c2
        gi_wp2
        refine ⟨(fun f e => by cases e), ?_⟩
        gi_wp2
        exact ⟨KeepsFrom.refl _ _, rfl, .inr ⟨pre, x, rfl, I1.out, HNO.out, I6.out⟩⟩
    · have d1 : decide (to ≤ s1) = true := by simp; omega
      have hno : ¬ isIn (a, b, n) k0 to x := fun h => c1 (HIN.out.1 h).1
      have HNO := Lib.hid hno; clear hno c1
      gi_wp2
      refine ⟨(fun f e => by cases e), ?_⟩
      gi_wp2
      exact ⟨KeepsFrom.refl _ _, rfl, .inr ⟨pre, x, rfl, I1.out, HNO.out, I6.out⟩⟩
  case stop =>
    rintro D c pre V hD ⟨m, rfl⟩ ⟨rfl, hx⟩ hK
    have hend : (∃ xs, xs = List.range C ∧ J xs (V.putObj D (.deferred none))) ∨ ∃ pre, (∃ m, m < C ∧ pre = List.range (m + 1)) ∧ Jx pre (V.putObj D (.deferred none)) := by
      rcases hx with ⟨hJx, hall⟩ | ⟨p, x, hpx, hJp, hno, hall⟩
      · exact .inr ⟨_, ⟨m, (HC.out m).1 (hall m (List.mem_range.2 (by omega))), rfl⟩, HJX.out.putObj _ hJx (Nat.le_trans hwz hD) hK rfl⟩
      · rw [List.range_succ] at hpx
        obtain ⟨rfl, hx2⟩ := List.append_inj' hpx rfl
        have hxm : m = x := by simpa using hx2
        subst hxm
        have h1 : ¬ m < C := fun h => hno ((HC.out m).2 h)
        have h2 : m ≤ C := by
          rcases Nat.eq_zero_or_pos m with h0 | h0
          · omega
          · have := (HC.out (m - 1)).1 (hall (m - 1) (List.mem_range.2 (by omega)))
            omega
        have : m = C := by omega
        subst this
        exact .inl ⟨_, rfl, HJ.out.putObj _ hJp (Nat.le_trans hwz hD) hK rfl⟩
    have HE := Lib.hid hend; clear hend hx
    gi_wp2
    refine ⟨by simp, .inl ⟨_, _, rfl, run_takeDeferred hK, ?_⟩⟩
    exact ⟨_, results_none rfl _ _ _, ⟨_, rfl⟩, HE.out⟩
end Go.Proofs.Ytjdhodobfkkoiaa
