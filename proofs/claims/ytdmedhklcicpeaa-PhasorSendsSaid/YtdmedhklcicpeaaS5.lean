/-
  The document's Match. Conditions: rows that can be read, of up to 65,536 samples.
-/
import Derived.Test.YtdmedhklcicpeaaS3
import Derived.StillTailTactics
import Derived.BigRegion
namespace Go.Proofs.Ytdmedhklcicpeaa
open Go.RowKit

theorem Blk.on {w w' : World} {g : Nat} {t : TypeId} {cs : Array Value} (h : Blk w g t cs) (hb : Below w.heap.size w w') : Blk w' g t cs := h.below hb h.lt
/-- The product and the strength behind one sample more. -/
def accS (a : Int × Int × Int) (x p : Sp) : Int × Int × Int := (a.1 + (x.1 * p.1 + x.2 * p.2), a.2.1 + (x.2 * p.1 - x.1 * p.2), a.2.2 + (x.1 * x.1 + x.2 * x.2))
/-- Behind the first k samples. -/
def corrS (l : List Sp) : Nat → Int × Int × Int
  | 0 => (0, 0, 0)
  | k + 1 => accS (corrS l k) (l[k]?.getD (0, 0)) (pre[k]?.getD (0, 0))
/-- Match, by the document. -/
def matchS (l : List Sp) (at_ : Int) : Sp × Int × Bool :=
  if at_ < 0 ∨ (l.length : Int) - 8 < at_ ∨ ((l.drop at_.toNat).take 8).all mayS = false then ((0, 0), 0, false)
  else
    let r := corrS ((l.drop at_.toNat).take 8) 8
    ((r.1, r.2.1), r.2.2, decide (0 < r.2.2) && decide (16 * r.2.2 ≤ 2 * (r.1 * r.1 + r.2.1 * r.2.1)))
theorem pre_at (k : Nat) (h : k < 8) : ((pre[k]?.getD (0, 0)).1 = 1 ∨ (pre[k]?.getD (0, 0)).1 = -1) ∧ ((pre[k]?.getD (0, 0)).2 = 1 ∨ (pre[k]?.getD (0, 0)).2 = -1) := by
  match k, h with
  | 0, _ | 1, _ | 2, _ | 3, _ | 4, _ | 5, _ | 6, _ | 7, _ => decide
theorem sq_le (x : Int) (h0 : -262144 ≤ x) (h1 : x ≤ 262144) : 0 ≤ x * x ∧ x * x ≤ 68719476736 := by
  constructor
  · rcases Int.le_total 0 x with h | h
    · exact Int.mul_nonneg h h
    · have := Int.mul_nonneg (show 0 ≤ -x by omega) (show 0 ≤ -x by omega)
      rwa [Int.neg_mul_neg] at this
  · rcases Int.le_total 0 x with h | h
    · have := Int.mul_le_mul h1 h1 h (by decide : (0 : Int) ≤ 262144); omega
    · have := Int.mul_le_mul (show -x ≤ 262144 by omega) (show -x ≤ 262144 by omega) (show 0 ≤ -x by omega) (by decide : (0 : Int) ≤ 262144)
      rw [Int.neg_mul_neg] at this; omega
theorem sq_le2 (x : Int) (h0 : -4194304 ≤ x) (h1 : x ≤ 4194304) : 0 ≤ x * x ∧ x * x ≤ 17592186044416 := by
  constructor
  · rcases Int.le_total 0 x with h | h
    · exact Int.mul_nonneg h h
    · have := Int.mul_nonneg (show 0 ≤ -x by omega) (show 0 ≤ -x by omega)
      rwa [Int.neg_mul_neg] at this
  · rcases Int.le_total 0 x with h | h
    · have := Int.mul_le_mul h1 h1 h (by decide : (0 : Int) ≤ 4194304); omega
    · have := Int.mul_le_mul (show -x ≤ 4194304 by omega) (show -x ≤ 4194304 by omega) (show 0 ≤ -x by omega) (by decide : (0 : Int) ≤ 4194304)
      rw [Int.neg_mul_neg] at this; omega
theorem mul_sign (x p : Int) (h0 : -262144 ≤ x) (h1 : x ≤ 262144) (hp : p = 1 ∨ p = -1) : -262144 ≤ x * p ∧ x * p ≤ 262144 := by
  rcases hp with rfl | rfl <;> omega
theorem corr_bound (l : List Sp) (hl : l.length = 8) (hm : l.all mayS = true) : ∀ k, k ≤ 8 → (-524288 * k ≤ (corrS l k).1 ∧ (corrS l k).1 ≤ 524288 * k) ∧ (-524288 * k ≤ (corrS l k).2.1 ∧ (corrS l k).2.1 ≤ 524288 * k) ∧ 0 ≤ (corrS l k).2.2 ∧ (corrS l k).2.2 ≤ 137438953472 * k
  | 0, _ => by simp [corrS]
  | k + 1, h => by
    have ih := corr_bound l hl hm k (by omega)
    have hmy := (mayS_iff _).1 (may_at hm (k := k) (by omega))
    obtain ⟨hp1, hp2⟩ := pre_at k (by omega)
    unfold corrS accS
    generalize l[k]?.getD (0, 0) = s at *
    generalize pre[k]?.getD (0, 0) = p at *
    generalize corrS l k = a at *
    obtain ⟨x, y⟩ := s
    obtain ⟨p1, p2⟩ := p
    dsimp only at *
    have m1 := mul_sign x p1 hmy.1.1 hmy.1.2 hp1
    have m2 := mul_sign y p2 hmy.2.1 hmy.2.2 hp2
    have m3 := mul_sign y p1 hmy.2.1 hmy.2.2 hp1
    have m4 := mul_sign x p2 hmy.1.1 hmy.1.2 hp2
    have q1 := sq_le x hmy.1.1 hmy.1.2
    have q2 := sq_le y hmy.2.1 hmy.2.2
    generalize x * p1 = e1 at *
    generalize y * p2 = e2 at *
    generalize y * p1 = e3 at *
    generalize x * p2 = e4 at *
    generalize x * x = e5 at *
    generalize y * y = e6 at *
    omega
theorem i64_eq {x y : Int} (h : x = y) (h0 : -9223372036854775808 ≤ y) (h1 : y ≤ 9223372036854775807) : IntKind.i64.wrap x = y := by
  rw [h]; exact IntWalk.i64_in _ (by omega)

set_option maxRecDepth 100000 in
set_option maxHeartbeats 4000000 in
theorem rmatch_any (A : Option Addr) (n c : Nat) (l : List Sp) (at_ : Int) (w : World) (hn : n = l.length) (hm : n ≤ 65536) (hcap : n ≤ c) (hA : Smps w.heap.size w A l) :
    Calls Try.prog 25 #[.slice A n c, .int .i64 at_] w fun e w' => e = .returned (.tuple #[.agg #[.int .i64 (matchS l at_).1.1, .int .i64 (matchS l at_).1.2], .int .i64 (matchS l at_).2.1, .bool (matchS l at_).2.2]) ∧ Below w.heap.size w w' := by
  unfold matchS
  by_cases h0 : at_ < 0
  · rw [if_pos (.inl h0)]
    have hd : decide (at_ < 0) = true := by simpa using h0
    clear hA hn
    go_enter Try.func25, Try.ntmps25
    go_wp2
    exact bodyPost_ret (v := .tuple #[.agg #[.int .i64 0, .int .i64 0], .int .i64 0, .bool false]) (by simp [results, Try.results25, go_sem]) rfl ⟨rfl, (Below.refl _ _).alloc (Nat.le_refl _) _⟩
  · have hd : decide (at_ < 0) = false := by simpa using h0
    obtain ⟨a, rfl⟩ := Int.eq_ofNat_of_zero_le (show 0 ≤ at_ by omega)
    by_cases h1 : (n : Int) - 8 < a
    · rw [if_pos (.inr (.inl (by rw [← hn]; exact h1)))]
      have hd1 : decide ((n : Int) - 8 < (a : Int)) = true := by simpa using h1
      clear hA hn
      go_enter Try.func25, Try.ntmps25
      go_wp2
      exact bodyPost_ret (v := .tuple #[.agg #[.int .i64 0, .int .i64 0], .int .i64 0, .bool false]) (by simp [results, Try.results25, go_sem]) rfl ⟨rfl, (Below.refl _ _).alloc (Nat.le_refl _) _⟩
    · have hd1 : decide ((n : Int) - 8 < (a : Int)) = false := by simpa using h1
      have ha8 : a + 8 ≤ n := by omega
      have hwl : ((l.drop a).take 8).length = 8 := by simp; omega
      have hne : ((l.drop a).take 8) ≠ [] := by intro h; rw [h] at hwl; simp at hwl
      obtain ⟨b, off, rfl, hbl, hcl⟩ := hA (by rintro rfl; simp at hn; omega)
      have hW : Smps w.heap.size w (some ⟨b, off + a * 2, none⟩) ((l.drop a).take 8) := fun _ => ⟨b, off + a * 2, rfl, hbl, fun j hj => by
        have hj8 : j < 8 := by omega
        have := hcl (a + j) (by omega)
        rw [List.getElem?_take_of_lt hj8, List.getElem?_drop, show off + a * 2 + j * 2 = off + (a + j) * 2 by omega]
        exact this⟩
      have hms := fun (w1 : World) (h : Below w.heap.size w w1) (cc : Nat) => rmays_any (some ⟨b, off + a * 2, none⟩) 8 cc ((l.drop a).take 8) w1 hwl.symm (by decide) ((hW.below h).mono h.size)
      rw [Int.toNat_natCast]
      have hcor : ¬ ((a : Int) < 0 ∨ (l.length : Int) - 8 < (a : Int)) := by omega
      generalize hWd : (l.drop a).take 8 = W8 at *
      by_cases hall : W8.all mayS = true
      · rw [if_neg (by rw [hall]; rintro (h | h | h) <;> first | omega | cases h)]
        rw [hall] at hms
        have hcb := corr_bound W8 hwl hall
        have hmy := fun (k : Nat) (hk : k < 8) => (mayS_iff _).1 (may_at hall (k := k) (by omega))
        have hcells := fun (k : Nat) (hk : k < 8) (w1 : World) (h : Below w.heap.size w w1) => (show w1.cell? ⟨b, off + (a + k) * 2, none⟩ = some (.int .i64 (W8[k]?.getD (0, 0)).1) ∧ w1.cell? ⟨b, off + (a + k) * 2 + 1, none⟩ = some (.int .i64 (W8[k]?.getD (0, 0)).2) from by
          obtain ⟨b', off', e, hlt', hc'⟩ := (hW.below h) hne
          injection e with e; injection e with e1 e2; subst e1; subst e2
          have := hc' k (by omega)
          rw [show off + (a + k) * 2 = off + a * 2 + k * 2 by omega]
          exact this)
        have HMS := Lib.hid hms; have HCB := Lib.hid hcb; have HMY := Lib.hid hmy; have HCE := Lib.hid hcells
        clear hms hcb hmy hcells hW hwl hne hcl hn hWd hcor hall hA
        dsimp only
        obtain ⟨R, hR⟩ : ∃ R, R = corrS W8 8 := ⟨_, rfl⟩
        rw [← hR]
        have HR := Lib.hid hR; clear hR
        go_enter Try.func25, Try.ntmps25
        go_wp2_with fail
        have b0 : Below w.heap.size w (w.alloc (.cells #[.int .i64 0, .int .i64 0] 38)) := (Below.refl _ _).alloc (Nat.le_refl _) _
        have k0 := Blk.new w 38 #[.int .i64 0, .int .i64 0]
        refine (HMS.out _ b0 _).mono ?_
        rintro e w1 ⟨rfl, hB1⟩
        have hs1 : w.heap.size + 1 ≤ w1.heap.size := by simpa using hB1.size
        replace k0 := k0.on hB1
        replace b0 := b0.trans (hB1.mono b0.size)
        have k1 := Blk.new w1 38 #[.int .i64 0, .int .i64 0]
        have al1 : Below w1.heap.size w1 (w1.alloc (.cells #[.int .i64 0, .int .i64 0] 38)) := (Below.refl _ _).alloc (Nat.le_refl _) _
        replace k0 := k0.on al1
        replace b0 := b0.trans (al1.mono b0.size)
        go_wp2_with fail
        refine (rpreamble_any _).mono ?_
        rintro e w2 ⟨rfl, k2, hB2⟩
        have hs2 := hB2.size
        replace k0 := k0.on hB2
        replace k1 := k1.on hB2
        replace b0 := b0.trans (hB2.mono b0.size)
        simp only [World.size_alloc] at k2 hs2
        go_wp2
        go_loopw [8, 10] (fun nv i wr => ∃ k : Nat, k ≤ 8 ∧ i = .int .i64 k ∧ nv = .int .i64 (corrS W8 k).2.2 ∧ Blk wr w1.heap.size 38 #[.int .i64 (corrS W8 k).1, .int .i64 (corrS W8 k).2.1] ∧ Blk wr w.heap.size 38 #[.int .i64 0, .int .i64 0] ∧ Blk wr (w1.heap.size + 1) 38 preCells ∧ Below w.heap.size w wr)
          (fun _ i _ => 8 - (intOf i).toNat)
        case atStart => exact ⟨0, by omega, rfl, rfl, k1, k0, k2, b0⟩
        case round =>
          clear k0 k1 k2 b0
          obtain ⟨k, hk, rfl, rfl, k1, k0, k2, b0⟩ := hrel
          by_cases hlt : k < 8
          · obtain ⟨hc0, hc1⟩ := HCE.out k hlt wr b0
            have hmy := HMY.out k hlt
            have hcb := HCB.out k (by omega)
            have hcb2 := HCB.out (k + 1) (by omega)
            obtain ⟨hp1, hp2⟩ := pre_at k hlt
            obtain ⟨pb, poff, he, hpl, hq0, hq1⟩ := (pre_smps k2).at_ (k := k) hlt
            injection he with he; injection he with he1 he2; subst he1; subst he2
            rw [Nat.zero_add] at hq0 hq1
            have hcr : corrS W8 (k + 1) = accS (corrS W8 k) (W8[k]?.getD (0, 0)) (pre[k]?.getD (0, 0)) := rfl
            rw [hcr] at hcb2
            unfold accS at hcr hcb2
            generalize W8[k]?.getD (0, 0) = xs at *
            have HPR := Lib.hid (pre_smps k2)
            generalize hps : pre[k]?.getD (0, 0) = ps at *
            generalize hcc : corrS W8 k = cc at *
            obtain ⟨x, y⟩ := xs
            obtain ⟨p1, p2⟩ := ps
            obtain ⟨cI, cQ, cn⟩ := cc
            dsimp only at *
            have m1 := mul_sign x p1 hmy.1.1 hmy.1.2 hp1
            have m2 := mul_sign y p2 hmy.2.1 hmy.2.2 hp2
            have m3 := mul_sign y p1 hmy.2.1 hmy.2.2 hp1
            have m4 := mul_sign x p2 hmy.1.1 hmy.1.2 hp2
            have q1 := sq_le x hmy.1.1 hmy.1.2
            have q2 := sq_le y hmy.2.1 hmy.2.2
            have hbs : b < wr.heap.size := Nat.lt_of_lt_of_le hbl b0.size
            obtain ⟨d1, d2, e1, e2⟩ := k1.two
            have hl1 := k1.lt
            have hl2 := k2.lt
            have HCR := Lib.hid hcr; have HC2 := Lib.hid hcb2
            clear hcr hcb2 hp1 hp2 hcc HPR
            have hw1 : IntKind.i64.wrap (x * p1) = x * p1 := IntWalk.i64_in _ (by omega)
            have hw2 : IntKind.i64.wrap (y * p2) = y * p2 := IntWalk.i64_in _ (by omega)
            have hw3 : IntKind.i64.wrap (x * p1 + y * p2) = x * p1 + y * p2 := IntWalk.i64_in _ (by omega)
            have hw4 : IntKind.i64.wrap (cI + (x * p1 + y * p2)) = cI + (x * p1 + y * p2) := IntWalk.i64_in _ (by omega)
            have hw5 : IntKind.i64.wrap (y * p1) = y * p1 := IntWalk.i64_in _ (by omega)
            have hw6 : IntKind.i64.wrap (x * p2) = x * p2 := IntWalk.i64_in _ (by omega)
            have hw7 : IntKind.i64.wrap (y * p1 - x * p2) = y * p1 - x * p2 := IntWalk.i64_in _ (by omega)
            have hw8 : IntKind.i64.wrap (cQ + (y * p1 - x * p2)) = cQ + (y * p1 - x * p2) := IntWalk.i64_in _ (by omega)
            have hw9 : IntKind.i64.wrap (x * x) = x * x := IntWalk.i64_in _ (by omega)
            have hw10 : IntKind.i64.wrap (y * y) = y * y := IntWalk.i64_in _ (by omega)
            have hw11 : IntKind.i64.wrap (x * x + y * y) = x * x + y * y := IntWalk.i64_in _ (by omega)
            have hw12 : IntKind.i64.wrap (cn + (x * x + y * y)) = cn + (x * x + y * y) := IntWalk.i64_in _ (by omega)
            have alx : Below wr.heap.size wr (wr.alloc (.cells #[.int .i64 x, .int .i64 y] 38)) := (Below.refl _ _).alloc (Nat.le_refl _) _
            have kx := Blk.new wr 38 #[.int .i64 x, .int .i64 y]
            go_wp2
            clear hc0 hc1 d1 d2 e1 e2 hq0 hq1
            replace k0 := (k0.on alx).drew; replace k1 := (k1.on alx).drew; replace k2 := (k2.on alx).drew; replace kx := kx.drew
            replace b0 := (b0.trans (alx.mono b0.size)).drew
            refine wp_region_still_tail 21 (by kernel_rfl) (by kernel_rfl) ?_
            simp only [List.take_succ_cons, List.take_zero, List.drop_succ_cons, List.drop_zero]
            change wpStill _ _ ((wr.alloc (.cells #[.int .i64 x, .int .i64 y] 38)).drew) (fun a' => wpList _ _ _ _ a' ((wr.alloc (.cells #[.int .i64 x, .int .i64 y] 38)).drew)) _ _
            have hgx : wr.heap.size < ((wr.alloc (.cells #[.int .i64 x, .int .i64 y] 38)).drew).heap.size := kx.lt
            generalize (wr.alloc (.cells #[.int .i64 x, .int .i64 y] 38)).drew = wx at *
            obtain ⟨d1, d2, e1, e2⟩ := k1.two
            obtain ⟨d3, d4, e3, e4⟩ := kx.two
            obtain ⟨_, _, he, _, hq0, hq1⟩ := (pre_smps k2).at_ (k := k) hlt
            injection he with he; injection he with he1 he2; subst he1; subst he2
            rw [Nat.zero_add, hps] at hq0 hq1
            dsimp only at hq0 hq1
            repeat still_step
            refine wpStill_nil ?_
            go_wp2
            clear hq0 hq1 d1 d2 e1 e2 d3 d4 e3 e4
            have hn1 : w1.heap.size + 1 ≠ w1.heap.size := by omega
            have hn2 : w.heap.size ≠ w1.heap.size := by omega
            have hn3 : wr.heap.size ≠ w1.heap.size := by omega
            replace k1 : Blk ((wx.setCell ⟨w1.heap.size, 0, none⟩ (.int .i64 (cI + (x * p1 + y * p2)))).drew) w1.heap.size 38 #[.int .i64 (cI + (x * p1 + y * p2)), .int .i64 cQ] := by simpa using (k1.set_ 0 (.int .i64 (cI + (x * p1 + y * p2)))).drew
            replace k0 := (k0.far (p := ⟨w1.heap.size, 0, none⟩) hn2 (.int .i64 (cI + (x * p1 + y * p2)))).drew
            replace k2 := (k2.far (p := ⟨w1.heap.size, 0, none⟩) hn1 (.int .i64 (cI + (x * p1 + y * p2)))).drew
            replace kx := (kx.far (p := ⟨w1.heap.size, 0, none⟩) hn3 (.int .i64 (cI + (x * p1 + y * p2)))).drew
            replace b0 := (b0.setCell (p := ⟨w1.heap.size, 0, none⟩) (by simp; omega) (.int .i64 (cI + (x * p1 + y * p2)))).drew
            refine wp_region_still_tail 21 (by kernel_rfl) (by kernel_rfl) ?_
            simp only [List.take_succ_cons, List.take_zero, List.drop_succ_cons, List.drop_zero]
            change wpStill _ _ ((wx.setCell ⟨w1.heap.size, 0, none⟩ (.int .i64 (cI + (x * p1 + y * p2)))).drew) (fun a' => wpList _ _ _ _ a' ((wx.setCell ⟨w1.heap.size, 0, none⟩ (.int .i64 (cI + (x * p1 + y * p2)))).drew)) _ _
            have hgy : wr.heap.size < ((wx.setCell ⟨w1.heap.size, 0, none⟩ (.int .i64 (cI + (x * p1 + y * p2)))).drew).heap.size := kx.lt
            generalize (wx.setCell ⟨w1.heap.size, 0, none⟩ (.int .i64 (cI + (x * p1 + y * p2)))).drew = wy at *
            obtain ⟨d1, d2, e1, e2⟩ := k1.two
            obtain ⟨d3, d4, e3, e4⟩ := kx.two
            obtain ⟨_, _, he, _, hq0, hq1⟩ := (pre_smps k2).at_ (k := k) hlt
            injection he with he; injection he with he1 he2; subst he1; subst he2
            rw [Nat.zero_add, hps] at hq0 hq1
            dsimp only at hq0 hq1
            repeat still_step
            refine wpStill_nil ?_
            go_wp2
            go_roundw
            case rel =>
              refine ⟨k + 1, by omega, by go_num, ?_, ?_, k0.far (p := ⟨w1.heap.size, 1, none⟩) hn2 _, k2.far (p := ⟨w1.heap.size, 1, none⟩) hn1 _, b0.setCell (p := ⟨w1.heap.size, 1, none⟩) (by simp; omega) _⟩
              · rw [HCR.out]
              · rw [HCR.out]
                simpa using k1.set_ 1 (.int .i64 (cQ + (y * p1 - x * p2)))
            case measure => simp [intOf]; omega
          · obtain rfl : k = 8 := by omega
            have hcb := HCB.out 8 (by omega)
            have hr8 := HR.out
            generalize corrS W8 8 = cc at *
            subst hr8
            obtain ⟨cI, cQ, cn⟩ := R
            dsimp only at *
            have s1 := sq_le2 cI (by omega) (by omega)
            have s2 := sq_le2 cQ (by omega) (by omega)
            have hw1 : IntKind.i64.wrap (cI * cI) = cI * cI := IntWalk.i64_in _ (by omega)
            have hw2 : IntKind.i64.wrap (cQ * cQ) = cQ * cQ := IntWalk.i64_in _ (by omega)
            have hw3 : IntKind.i64.wrap (cI * cI + cQ * cQ) = cI * cI + cQ * cQ := IntWalk.i64_in _ (by omega)
            have hw4 : IntKind.i64.wrap (2 * (cI * cI + cQ * cQ)) = 2 * (cI * cI + cQ * cQ) := IntWalk.i64_in _ (by omega)
            have hw5 : IntKind.i64.wrap (16 * cn) = 16 * cn := IntWalk.i64_in _ (by omega)
            obtain ⟨d1, d2, e1, e2⟩ := k1.two
            obtain ⟨d3, d4, e3, e4⟩ := k0.two
            have hl0 := k0.lt
            have hne0 : w1.heap.size ≠ w.heap.size := by omega
            by_cases hn0 : 0 < cn
            · have hd2 : decide (0 < cn) = true := by simpa using hn0
              go_wp2
              go_region
              go_wp2
              exact bodyPost_ret (v := .tuple #[.agg #[.int .i64 cI, .int .i64 cQ], .int .i64 cn, .bool (decide (16 * cn ≤ 2 * (cI * cI + cQ * cQ)))]) (by simp [results, Try.results25, go_sem, d3, d4]) rfl ⟨by simp, ((b0.setCell (p := ⟨w.heap.size, 0, none⟩) (Nat.le_refl _) _).setCell (p := ⟨w.heap.size, 1, none⟩) (Nat.le_refl _) _).drew⟩
            · have hd2 : decide (0 < cn) = false := by simpa using hn0
              go_wp2
              go_region
              go_wp2
              exact bodyPost_ret (v := .tuple #[.agg #[.int .i64 cI, .int .i64 cQ], .int .i64 cn, .bool false]) (by simp [results, Try.results25, go_sem, d3, d4]) rfl ⟨by simp, ((b0.setCell (p := ⟨w.heap.size, 0, none⟩) (Nat.le_refl _) _).setCell (p := ⟨w.heap.size, 1, none⟩) (Nat.le_refl _) _).drew⟩
      · rw [Bool.not_eq_true] at hall
        rw [if_pos (.inr (.inr hall))]
        rw [hall] at hms
        have HMS := Lib.hid hms
        clear hms hall hW hwl hne hcl hn hWd hcor
        go_enter Try.func25, Try.ntmps25
        go_wp2_with fail
        have b0 : Below w.heap.size w (w.alloc (.cells #[.int .i64 0, .int .i64 0] 38)) := (Below.refl _ _).alloc (Nat.le_refl _) _
        have k0 := Blk.new w 38 #[.int .i64 0, .int .i64 0]
        refine (HMS.out _ b0 _).mono ?_
        rintro e w1 ⟨rfl, hB1⟩
        replace k0 := k0.on hB1
        obtain ⟨c1, c2, f1, f2⟩ := k0.two
        have hlt := k0.lt
        go_wp2
        exact bodyPost_ret (v := .tuple #[.agg #[.int .i64 0, .int .i64 0], .int .i64 0, .bool false]) (by simp [results, Try.results25, go_sem, c1, c2]) rfl ⟨rfl, ((b0.trans (hB1.mono b0.size)).setCell (p := ⟨w.heap.size, 0, none⟩) (Nat.le_refl _) _).setCell (p := ⟨w.heap.size, 1, none⟩) (Nat.le_refl _) _⟩
end Go.Proofs.Ytdmedhklcicpeaa
