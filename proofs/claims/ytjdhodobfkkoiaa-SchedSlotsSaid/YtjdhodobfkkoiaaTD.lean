/-
  What is told of a sequence of slots, up to so many. Conditions: those that the theorem names.
-/
import Derived.Test.YtjdhodobfkkoiaaTC
namespace Go.Proofs.Ytjdhodobfkkoiaa
open Go.RowKit Go.Shelf
attribute [local go_sem] Oper.semAt_some

theorem run_equalIn_seq2_nil (d gf : Nat) (lb : Array Value) (W : World) : (Op.equalIn (d + 1) 50 (.func (.func gf) #[] lb) .nilFunc).run Try.prog W = .ok false W := by
  simp [Op.equalIn, run_underlying Try.underlying50]
theorem run_eql_seq2_nil (gf : Nat) (lb : Array Value) (W : World) : (binOp .eql 50 (.func (.func gf) #[] lb) .nilFunc).run Try.prog W = .ok (.bool false) W := by
  simp only [binOp]
  simp [Op.equal, Op.maxDepth, run_equalIn_seq2_nil 9999 gf lb W]

theorem keepB_b {sb : Nat} {w : World} (hs : sb < w.heap.size) (W : World) (l : Nat) (o o' : Obj) (hl : w.heap.size ≤ l) (ho : W.heap[l]? = some o) (hc : o.isCells = false) (_ : o.isWalk = false) : KeepB sb W (W.putObj l o') := by
  refine ⟨(keeps2_b hs hs W l o o' hl ho hc (by assumption)).1, fun x t cs _ hb => ?_⟩
  exact blk_kept hb (grownBy_putObj' W l o') (fun r e => by cases e; exact ⟨o, ho, hc⟩)
/-- A type that no box of told's own has. -/
theorem keepB_set {W : World} {B sb : Nat} {t' : TypeId} {cs' : Array Value} (v : Value) (hb : Blk W B t' cs') (hs : sb ≠ B) (h1 : t' ≠ 41) (h2 : t' ≠ 2) (h3 : t' ≠ 66) : KeepB sb W (W.setCell ⟨B, 0, none⟩ v) := by
  refine ⟨Below.heap_setCell _ _ _ _ hs, fun x t cs ht hx => ?_⟩
  have hne : x ≠ B := fun e => by
    subst e
    have h4 : some (Obj.cells cs t) = some (Obj.cells cs' t') := hx.symm.trans hb
    injection h4 with h4; injection h4 with _ h4
    subst h4
    rcases ht with h | h | h <;> contradiction
  exact hx.far (p := ⟨B, 0, none⟩) hne v
theorem keepB_app {W w1 : World} {n₁ B sb : Nat} {v v' : Value} {k : Nat} {xs : List Value} {tmp : Obj} (hv : Boxed W B 31 v) (hrow : W.ownsRow n₁ 23 2 v k xs) (hsb : sb < n₁) (hne : sb ≠ B) (hn : n₁ ≤ W.heap.size) (hgrow : (W.alloc tmp).grownBy w1 v.ownBlock) : KeepB sb W (w1.setCell ⟨B, 0, none⟩ v') := by
  have go : ∀ x, x < W.heap.size → x ≠ B → v.ownBlock ≠ some x → (w1.setCell ⟨B, 0, none⟩ v').heap[x]? = W.heap[x]? := fun x hx h1 h2 =>
    (Below.heap_setCell w1 ⟨B, 0, none⟩ v' x h1).trans ((hgrow.block x (by simp; omega) (fun e => h2 e.symm)).trans (Below.heap_alloc W tmp x hx))
  refine ⟨go sb (by omega) hne fun e => by have := (hrow.lt sb e).1; omega, fun x t cs ht hx => ?_⟩
  refine (go x hx.lt (fun e => ?_) (fun e => ?_)).trans hx
  · subst e
    have h4 : some (Obj.cells cs t) = some (Obj.cells #[v] 31) := hx.symm.trans hv
    injection h4 with h4; injection h4 with _ h4
    subst h4
    rcases ht with h | h | h <;> exact absurd h (by decide)
  · rcases hrow.2 with ⟨rfl, _⟩ | ⟨g, cap, cur, rfl, _, hh, _⟩
    · simp [Value.ownBlock] at e
    · obtain rfl : g = x := by simpa [Value.ownBlock] using e
      have h4 : some (Obj.cells cs t) = some (Obj.cells cur 23) := hx.symm.trans hh
      injection h4 with h4; injection h4 with _ h4
      subst h4
      rcases ht with h | h | h <;> exact absurd h (by decide)

/-- The first k slots from k0 on. -/
def slS (g : Gr) (k0 : Int) (k : Nat) : List Sp := (List.range k).map fun (j : Nat) => slotAt g (k0 + (j : Int))
theorem slS_length (g : Gr) (k0 : Int) (k : Nat) : (slS g k0 k).length = k := by simp [slS]
theorem slS_succ (g : Gr) (k0 : Int) (k : Nat) : slS g k0 (k + 1) = slS g k0 k ++ [slotAt g (k0 + k)] := by simp [slS, List.range_succ]
/-- What lies in told's own variables. -/
def ToldSl (w : World) (most : Nat) (g : Gr) (k0 : Int) (k : Nat) (W : World) : Prop :=
  (∃ v, Boxed W (w.heap.size + 1) 31 v ∧ W.ownsRow (w.heap.size + 4) 23 2 v k (cellsS (slS g k0 k)) ∧ True) ∧ Blk W w.heap.size 3 #[.int .i64 (most : Int)] ∧ Blk W (w.heap.size + 1 + 1) 3 #[.int .i64 (if k = 0 then 0 else k0)] ∧ Blk W (w.heap.size + 1 + 1 + 1) 4 #[.bool true] ∧ Below w.heap.size w W ∧ w.heap.size + 4 ≤ W.heap.size
theorem toldSl_kept {w : World} {most : Nat} {g : Gr} {k0 : Int} {k : Nat} {X Y : World} {row : Option Nat} (h : ToldSl w most g k0 k X) (hg : X.grownBy Y row) (hr : ∀ r, row = some r → w.heap.size + 4 ≤ r ∧ ∃ o : Obj, X.heap[r]? = some o ∧ o.isCells = false) : ToldSl w most g k0 k Y := by
  obtain ⟨h1, h2, h3, h4, h5, h6⟩ := h
  have hr' : ∀ r, row = some r → ∃ o : Obj, X.heap[r]? = some o ∧ o.isCells = false := fun r e => (hr r e).2
  refine ⟨holdsRow_own (w.heap.size + 4) (w.heap.size + 1) 31 23 2 (fun _ : Unit => k) (fun _ => cellsS (slS g k0 k)) (fun _ _ => True) () X Y row h1 hg hr', blk_kept h2 hg hr', blk_kept h3 hg hr', blk_kept h4 hg hr', ?_, Nat.le_trans h6 hg.size⟩
  exact h5.grown hg (by omega) (fun q e => by have := (hr q e).1; omega)
def ToldI (w : World) (most : Nat) (g : Gr) (k0 : Int) (pre : List Nat) (W : World) : Prop := ∃ k, pre = List.range k ∧ k ≤ most ∧ ToldSl w most g k0 k W
def ToldX (w : World) (most : Nat) (g : Gr) (k0 : Int) (c : Code) (pre : List Nat) (W : World) : Prop := c = .exit 0 ∧ pre = List.range (most + 1) ∧ ToldSl w most g k0 most W

theorem seqOwn_true {n gf : Nat} {lb : Array Value} {α : Type} {encs : α → Array Value} {Kp : World → World → Prop} {Ok : List α → α → Prop} {S Sp : List α → Prop} {w : World} (I : List α → World → Prop) (h : SeqOwn Fence.wide n Try.prog gf lb encs Kp Ok (fun _ _ => True) S Sp w) : SeqOwn Fence.wide n Try.prog gf lb encs Kp Ok I S Sp w :=
  fun l J Jx W h1 h2 h3 _ h5 h6 => h l J Jx W h1 h2 h3 (fun _ _ _ => trivial) h5 h6

set_option maxRecDepth 100000 in
set_option maxHeartbeats 2000000 in
theorem told_sl (gf sb most C : Nat) (lb : Array Value) (g : Gr) (k0 : Int) (w : World) (hmost : most ≤ 255) (hk0 : 0 ≤ k0 ∧ k0 ≤ 1099511627776 + 16777216)
    (hent : ∀ args w, (callFunc gf args).run Try.prog w = .ok (.enter gf args) w) (htells : ∀ w', Below w.heap.size w w' → TellsSl gf lb sb g k0 C w') (ho : sb < w.heap.size) :
    Calls Try.prog 35 #[.func (.func gf) #[] lb, .int .i64 most] w fun e w' => ∃ v, e = .returned (.tuple #[.int .i64 (if min C most = 0 then 0 else k0), v, .bool true]) ∧ w'.ownsRow w.heap.size 23 2 v (min C most) (cellsS (slS g k0 (min C most))) ∧ Below w.heap.size w w' := by
  have HT := Lib.hid htells; have HE := Lib.hid hent; clear htells hent
  obtain ⟨M, hM⟩ : ∃ M, M = min C most := ⟨_, rfl⟩
  obtain ⟨FK, hFK⟩ : ∃ FK : Int, FK = if M = 0 then 0 else k0 := ⟨_, rfl⟩
  rw [← hM, ← hFK]
  have HM := Lib.hid hM; have HFK := Lib.hid hFK; clear hM hFK
  obtain ⟨i0, hi, hz0, hz1, hz2⟩ := info_parts Try.infoSp
  refine (callsIn_wide (n := 5)).1 ?_
  refine callsIn_of_wp_marks Try.func35 rfl trivial ?_ rfl
  simp only [Try.ntmps35, List.size_toArray, List.length_cons, List.length_nil, Nat.reduceAdd, Nat.reduceSub, Array.replicate_succ, Array.replicate_zero, List.push_toArray, List.append_toArray, List.nil_append, List.cons_append]
  have hnil := run_eql_seq2_nil gf lb
  gi_wp2
  clear hnil
  rename_i Q' K hK0
  have HK := Lib.hid hK0; clear hK0
  obtain ⟨e0, e1, e2, e3, bw⟩ := bx4 w #[.int .i64 (most : Int)] #[.slice none 0 0] #[.int .i64 0] #[.bool true] 3 31 3 4
  have hsz : ((((w.alloc (.cells #[.int .i64 (most : Int)] 3)).alloc (.cells #[.slice none 0 0] 31)).alloc (.cells #[.int .i64 0] 3)).alloc (.cells #[.bool true] 4)).heap.size = w.heap.size + 4 := by simp
  generalize (((w.alloc _).alloc _).alloc _).alloc _ = W0 at *
  have hW0 : ToldSl w most g k0 0 W0 := ⟨⟨_, e1, World.ownsRow_nil _ _ _ _, trivial⟩, e0, e2, e3, bw, by omega⟩
  have hseq := HT.out W0 bw 1
  clear e0 e1 e2 e3
  have HS := Lib.hid (seqOwn_true (ToldI w most g k0) hseq); have HW := Lib.hid hW0; clear hseq hW0 HT
  refine wpIn_range_own rfl (by omega) (gf := gf) (lb := lb) rfl trivial HE.out (ToldI w most g k0) (ToldX w most g k0)
    (SlA (fun x xb => #[.func (.func gf) #[] lb, .int .i64 (most : Int), undef, .pointer (some ⟨w.heap.size, 0, none⟩), .int .i64 0, .slice none 0 0, .bool false, .pointer (some ⟨w.heap.size + 1, 0, none⟩), .pointer (some ⟨w.heap.size + 1 + 1, 0, none⟩), .pointer (some ⟨w.heap.size + 1 + 1 + 1, 0, none⟩),
      .int .i64 (k0 + x), .pointer (some ⟨xb, 0, none⟩), .func (.func gf) #[] lb, .bool false, .func (.func gf) #[] lb, .int .i64 (k0 + x), vS (slotAt g (k0 + x)).1 (slotAt g (k0 + x)).2, undef, undef, undef, undef, undef, undef, undef, undef, undef, undef, undef, undef, undef, undef, undef, undef, undef, undef, undef, undef, undef, undef, undef, undef]) g k0)
    HS.out KeepB.trans (keepB_b (by omega)) (fun _ => rfl)
    (fun s X Y row ⟨k, h1, h2, h3⟩ hg hr => ⟨k, h1, h2, toldSl_kept h3 hg (fun r e => by rw [← hsz]; exact hr r e)⟩)
    (fun c s X Y row ⟨h1, h2, h3⟩ hg hr => ⟨h1, h2, toldSl_kept h3 hg (fun r e => by rw [← hsz]; exact hr r e)⟩)
    (fun x => slA_own x) ⟨0, rfl, by omega, HW.out⟩ ?assign ?body ?done ?stop
  case assign =>
    intro l pre x V K _ hI hK
    have kx := Blk.new V 23 #[.int .i64 (slotAt g (k0 + x)).1, .int .i64 (slotAt g (k0 + x)).2]
    have HKX := Lib.hid kx; have HII := Lib.hid hI; have HKK := Lib.hid hK; clear kx hI hK
    gi_wp2
    refine HKK.out _ _ (KeepsFrom.of_grownBy (World.grownBy_alloc V _ none) (fun j e => by cases e)) ⟨Below.heap_alloc V _ _ ?_, fun b t cs _ hb => hb.alloc _⟩ ?_ ⟨_, rfl, HKX.out⟩
    · obtain ⟨k, -, -, h⟩ := HII.out
      have := h.2.2.2.2.2
      omega
    · obtain ⟨k, h1, h2, h3⟩ := HII.out
      exact ⟨k, h1, h2, toldSl_kept h3 (World.grownBy_alloc V _ none) (fun r e => by cases e)⟩
  case body =>
    rintro l pre x _ V hok ⟨k, hpk, hkm, ⟨v, hv, hrow, -⟩, b0, b2, b3, bwV, hsV⟩ ⟨xb, rfl, kx⟩
    obtain rfl : x = k := by have h := congrArg List.length (hok.symm.trans hpk); simpa using h
    clear hpk
    subst hok
    obtain ⟨VA, vc, rfl⟩ : ∃ A c, v = .slice A x c := by
      rcases hrow.2 with ⟨rfl, h0⟩ | ⟨g', cap', cur', rfl, _⟩
      · exact ⟨none, 0, by rw [h0]⟩
      · exact ⟨_, _, rfl⟩
    have hc := hv.cell
    have hf := hv.frozen
    obtain ⟨p0, -⟩ := b0.one
    obtain ⟨p2, f2⟩ := b2.one
    obtain ⟨p3, f3⟩ := b3.one
    obtain ⟨x0, x1, -, -⟩ := kx.two
    have hss := slS_succ g k0 x
    by_cases hge : most ≤ x
    · obtain rfl : x = most := by omega
      clear hss kx x0 x1
      gi_wp2
      exact ⟨KeepsFrom.refl _ _, rfl, by rw [List.range_succ], ⟨_, hv, hrow, trivial⟩, b0, b2, b3, bwV, hsV⟩
    · have hlt : x < most := by omega
      have hd : decide ((most : Int) ≤ (x : Int)) = false := by simp; omega
      generalize hs1 : (slotAt g (k0 + x)).1 = s1 at *
      generalize hs2 : (slotAt g (k0 + x)).2 = s2 at *
      have hne2 : xb ≠ w.heap.size + 1 + 1 := fun e => by
        subst e
        have h4 := kx.symm.trans b2
        cases h4
      have hne3 : xb ≠ w.heap.size + 1 + 1 + 1 := fun e => by
        subst e
        have h4 := kx.symm.trans b3
        cases h4
      have hsl : slotAt g (k0 + x) = (s1, s2) := Prod.ext hs1 hs2
      rw [hsl] at hss
      clear hs1 hs2 hsl
      by_cases h0 : x = 0
      · subst h0
        have hrow2 : ∀ u1 u2, ((V.setCell ⟨w.heap.size + 1 + 1, 0, none⟩ u1).setCell ⟨w.heap.size + 1 + 1 + 1, 0, none⟩ u2).ownsRow (w.heap.size + 4) 23 2 (.slice VA 0 vc) 0 (cellsS (slS g k0 0)) := fun u1 u2 => (hrow.kept (grownBy_setCell' _ _ _) (.inr fun e => by have := (hrow.lt _ e).1; omega)).kept (grownBy_setCell' _ _ _) (.inr fun e => by have := (hrow.lt _ e).1; omega)
        have hvv : ∀ u1 u2, Boxed ((V.setCell ⟨w.heap.size + 1 + 1, 0, none⟩ u1).setCell ⟨w.heap.size + 1 + 1 + 1, 0, none⟩ u2) (w.heap.size + 1) 31 (.slice VA 0 vc) := fun u1 u2 => ((show Blk V (w.heap.size + 1) 31 #[.slice VA 0 vc] from hv).far (p := ⟨w.heap.size + 1 + 1, 0, none⟩) (by dsimp only; omega) u1).far (p := ⟨w.heap.size + 1 + 1 + 1, 0, none⟩) (by dsimp only; omega) u2
        have hzz : ∀ u1 u2, ((V.setCell ⟨w.heap.size + 1 + 1, 0, none⟩ u1).setCell ⟨w.heap.size + 1 + 1 + 1, 0, none⟩ u2).heap.size = V.heap.size := fun u1 u2 => by simp
        have hw : IntKind.i64.wrap k0 = k0 := IntWalk.i64_in _ (by omega)
        have g0 := fun u1 u2 => (b0.far (p := ⟨w.heap.size + 1 + 1, 0, none⟩) (by dsimp only; omega) u1).far (p := ⟨w.heap.size + 1 + 1 + 1, 0, none⟩) (by dsimp only; omega) u2
        have g2 := fun u1 u2 => (b2.put1 u1).far (p := ⟨w.heap.size + 1 + 1 + 1, 0, none⟩) (by dsimp only; omega) u2
        have g3 := fun u1 u2 => (b3.far (p := ⟨w.heap.size + 1 + 1, 0, none⟩) (by dsimp only; omega) u1).put1 u2
        have gw := fun u1 u2 => (bwV.setCell (p := ⟨w.heap.size + 1 + 1, 0, none⟩) (by dsimp only; omega) u1).setCell (p := ⟨w.heap.size + 1 + 1 + 1, 0, none⟩) (by dsimp only; omega) u2
        have gb := fun u1 u2 => (keepB_set (sb := sb) u1 b2 (by omega) (by decide) (by decide) (by decide)).trans (keepB_set u2 (b3.far (p := ⟨w.heap.size + 1 + 1, 0, none⟩) (by dsimp only; omega) u1) (by omega) (by decide) (by decide) (by decide))
        have go := fun u1 u2 => (KeepsOthers.setCell V ⟨w.heap.size + 1 + 1, 0, none⟩ u1).trans (KeepsOthers.setCell _ ⟨w.heap.size + 1 + 1 + 1, 0, none⟩ u2)
        simp only [Int.natCast_zero] at p2 hd
        have HR := Lib.hid hrow2; have HV := Lib.hid hvv; have G0 := Lib.hid g0; have G2 := Lib.hid g2; have G3 := Lib.hid g3; have GW := Lib.hid gw; have GB := Lib.hid gb; have GO := Lib.hid go; have HSS := Lib.hid hss; have HZZ := Lib.hid hzz
        clear hrow2 hvv g0 g2 g3 gw gb go hss hzz hrow hv b0 b2 b3 bwV kx
        gi_wp2_with (gi_at_builtin; refine wpListIn_append_own _ rfl _ _ 31 rfl (w.heap.size + 4) 23 i0 (.agg #[.int .i64 0, .int .i64 0]) 2 16 Try.underlying31 hi hz0 hz1 hz2 rfl (by decide) (.slice VA 0 vc) _ _ rfl ((HR.out _ _).alloc _) ⟨V.heap.size, 0, none⟩ 1 1 [.int .i64 s1, .int .i64 s2] rfl rfl (by have h2 := cell_two_new ((V.setCell ⟨w.heap.size + 1 + 1, 0, none⟩ (.int .i64 k0)).setCell ⟨w.heap.size + 1 + 1 + 1, 0, none⟩ (.bool true)) (.int .i64 s1) (.int .i64 s2) 23; rw [HZZ.out _ _] at h2; exact h2) (by simp [Value.oneCell']) (by unfold maxLen; omega) (by omega) (by simp; omega) ?_; intro v' w2 hown' hgrow _; obtain ⟨g', cap', rfl⟩ := ownsRow_succ hown'; have hka := keepB_app (sb := sb) (v' := .slice (some ⟨g', 0, none⟩) (0 + 1) cap') (HV.out _ _) (HR.out _ _) (by omega) (by omega) (by rw [HZZ.out _ _]; omega) hgrow; obtain ⟨hv1, hv2, hr2, hk2, hbb2, hq2⟩ := appended2 (n₀ := w.heap.size) (HV.out _ _) (by decide) (HR.out _ _) (by rw [HZZ.out _ _]; omega) (by omega) (by omega) hown' hgrow; have hc1 := hv1.cell; have hf1 := hv1.frozen)
        refine ⟨((GO.out _ _).trans hk2).from _, (GB.out _ _).trans hka, 1, by rw [List.range_succ], by omega, ⟨_, hv2, ?_, trivial⟩, (hq2 _ (by omega) (by omega)).trans (G0.out _ _), ?_, (hq2 _ (by omega) (by omega)).trans (G3.out _ _), (GW.out _ _).trans hbb2, Nat.le_trans hsV ((GO.out _ _).trans hk2).size⟩
        · rw [show (1 : Nat) = 0 + 1 from rfl, HSS.out, cellsS_snoc]; exact hr2
        · exact (hq2 _ (by omega) (by omega)).trans (G2.out _ _)
      · have hrow2 : ∀ u2, (V.setCell ⟨w.heap.size + 1 + 1 + 1, 0, none⟩ u2).ownsRow (w.heap.size + 4) 23 2 (.slice VA x vc) x (cellsS (slS g k0 x)) := fun u2 => hrow.kept (grownBy_setCell' _ _ _) (.inr fun e => by have := (hrow.lt _ e).1; omega)
        have hvv : ∀ u2, Boxed (V.setCell ⟨w.heap.size + 1 + 1 + 1, 0, none⟩ u2) (w.heap.size + 1) 31 (.slice VA x vc) := fun u2 => (show Blk V (w.heap.size + 1) 31 #[.slice VA x vc] from hv).far (p := ⟨w.heap.size + 1 + 1 + 1, 0, none⟩) (by dsimp only; omega) u2
        have hzz : ∀ u2, (V.setCell ⟨w.heap.size + 1 + 1 + 1, 0, none⟩ u2).heap.size = V.heap.size := fun u2 => by simp
        rw [if_neg h0] at p2 b2
        have hw : IntKind.i64.wrap (k0 + (x : Int)) = k0 + (x : Int) := IntWalk.i64_in _ (by omega)
        have hx0 : decide ((x : Int) = 0) = false := by simp; omega
        have hx1 : ¬ (x : Int) = 0 := by omega
        have g0 := fun u2 => b0.far (p := ⟨w.heap.size + 1 + 1 + 1, 0, none⟩) (by dsimp only; omega) u2
        have g2 := fun u2 => b2.far (p := ⟨w.heap.size + 1 + 1 + 1, 0, none⟩) (by dsimp only; omega) u2
        have g3 := fun u2 => b3.put1 u2
        have gw := fun u2 => bwV.setCell (p := ⟨w.heap.size + 1 + 1 + 1, 0, none⟩) (by dsimp only; omega) u2
        have gb := fun u2 => keepB_set (sb := sb) u2 b3 (by omega) (by decide) (by decide) (by decide)
        have go := fun u2 => KeepsOthers.setCell V ⟨w.heap.size + 1 + 1 + 1, 0, none⟩ u2
        have HR := Lib.hid hrow2; have HV := Lib.hid hvv; have G0 := Lib.hid g0; have G2 := Lib.hid g2; have G3 := Lib.hid g3; have GW := Lib.hid gw; have GB := Lib.hid gb; have GO := Lib.hid go; have HSS := Lib.hid hss; have HZZ := Lib.hid hzz
        clear hrow2 hvv g0 g2 g3 gw gb go hss hzz hrow hv b0 b2 b3 bwV kx
        gi_wp2_with (gi_at_builtin; refine wpListIn_append_own _ rfl _ _ 31 rfl (w.heap.size + 4) 23 i0 (.agg #[.int .i64 0, .int .i64 0]) 2 16 Try.underlying31 hi hz0 hz1 hz2 rfl (by decide) (.slice VA x vc) _ _ rfl ((HR.out _).alloc _) ⟨V.heap.size, 0, none⟩ 1 1 [.int .i64 s1, .int .i64 s2] rfl rfl (by have h2 := cell_two_new (V.setCell ⟨w.heap.size + 1 + 1 + 1, 0, none⟩ (.bool true)) (.int .i64 s1) (.int .i64 s2) 23; rw [HZZ.out _] at h2; exact h2) (by simp [Value.oneCell']) (by unfold maxLen; omega) (by omega) (by simp; omega) ?_; intro v' w2 hown' hgrow _; obtain ⟨g', cap', rfl⟩ := ownsRow_succ hown'; have hka := keepB_app (sb := sb) (v' := .slice (some ⟨g', 0, none⟩) (x + 1) cap') (HV.out _) (HR.out _) (by omega) (by omega) (by rw [HZZ.out _]; omega) hgrow; obtain ⟨hv1, hv2, hr2, hk2, hbb2, hq2⟩ := appended2 (n₀ := w.heap.size) (HV.out _) (by decide) (HR.out _) (by rw [HZZ.out _]; omega) (by omega) (by omega) hown' hgrow; have hc1 := hv1.cell; have hf1 := hv1.frozen)
        refine ⟨((GO.out _).trans hk2).from _, (GB.out _).trans hka, x + 1, by rw [List.range_succ], by omega, ⟨_, hv2, ?_, trivial⟩, (hq2 _ (by omega) (by omega)).trans (G0.out _), ?_, (hq2 _ (by omega) (by omega)).trans (G3.out _), (GW.out _).trans hbb2, Nat.le_trans hsV ((GO.out _).trans hk2).size⟩
        · rw [HSS.out, cellsS_snoc]; exact hr2
        · rw [if_neg (by omega)]; exact (hq2 _ (by omega) (by omega)).trans (G2.out _)
  case done =>
    rintro D xs V hD rfl ⟨k, hk, hkm, hT⟩ hK
    obtain rfl : C = k := by have h := congrArg List.length hk; simpa using h
    have hmin : M = C := by have := HM.out; omega
    clear hk hkm
    obtain ⟨⟨v, hv, hrow, -⟩, -, b2, b3, bwV, hsV⟩ := hT
    have hc := hv.cell
    obtain ⟨p2, -⟩ := b2.one
    obtain ⟨p3, -⟩ := b3.one
    rw [← hmin] at p2 hrow
    rw [← HFK.out] at p2
    have HR := Lib.hid hrow; have HB := Lib.hid bwV; clear hrow bwV hv b2 b3 hmin
    refine HK.out _ _ ?_
    gi_wp2
    gi_region
    all_goals
      gi_wp2
      refine ⟨by simp, .inl ⟨_, _, rfl, run_takeDeferred (show V.drew.heap[D]? = _ from hK), ?_⟩⟩
      exact ⟨_, results_tmp3 rfl _ _ _, _, rfl, own_mono (ownsRow_putObj (own_on HR.out (Below.refl _ _).drew) _ (show V.drew.heap[D]? = _ from hK) rfl) (by omega), HB.out.drew.trans (belowK_b (w := w) (Nat.le_refl _) V.drew D _ _ (by omega) hK rfl rfl)⟩
  case stop =>
    rintro D c pre V hD ⟨m, hm, hpre⟩ ⟨rfl, hp2, hT⟩ hK
    obtain rfl : m = most := by have h := congrArg List.length (hpre.symm.trans hp2); simpa using h
    have hmin : M = m := by have := HM.out; omega
    clear hp2 hpre
    obtain ⟨⟨v, hv, hrow, -⟩, -, b2, b3, bwV, hsV⟩ := hT
    have hc := hv.cell
    obtain ⟨p2, -⟩ := b2.one
    obtain ⟨p3, -⟩ := b3.one
    rw [← hmin] at p2 hrow
    rw [← HFK.out] at p2
    have HR := Lib.hid hrow; have HB := Lib.hid bwV; clear hrow bwV hv b2 b3 hmin
    gi_wp2
    refine HK.out _ _ ?_
    gi_wp2
    gi_region
    all_goals
      gi_wp2
      refine ⟨by simp, .inl ⟨_, _, rfl, run_takeDeferred (show V.drew.heap[D]? = _ from hK), ?_⟩⟩
      exact ⟨_, results_tmp3 rfl _ _ _, _, rfl, own_mono (ownsRow_putObj (own_on HR.out (Below.refl _ _).drew) _ (show V.drew.heap[D]? = _ from hK) rfl) (by omega), HB.out.drew.trans (belowK_b (w := w) (Nat.le_refl _) V.drew D _ _ (by omega) hK rfl rfl)⟩
end Go.Proofs.Ytjdhodobfkkoiaa
