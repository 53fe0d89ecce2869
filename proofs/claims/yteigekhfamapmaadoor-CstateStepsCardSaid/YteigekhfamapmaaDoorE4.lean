/-
  Put of package bits answers as the document says, for all bits, numbers and widths. No condition but that the bytes can be read.
-/
import Derived.Test.YteigekhfamapmaaDoorE3
namespace Go.Proofs.YteigekhfamapmaaDoor
open Go.RowKit

/-! ### A list that is painted from its head on -/
def paint (t : List Bool) (p : Nat) : List Bool := t.take p ++ List.replicate (t.length - p) false
theorem paint_length (t : List Bool) (p : Nat) (h : p ≤ t.length) : (paint t p).length = t.length := by simp [paint]; omega
theorem paint_get (t : List Bool) (p i : Nat) : (paint t p)[i]?.getD false = (decide (i < p) && t[i]?.getD false) := by
  unfold paint
  rw [List.getElem?_append, List.length_take]
  by_cases h : i < p
  · by_cases h2 : i < t.length
    · rw [if_pos (by omega), List.getElem?_take_of_lt h]; simp [h]
    · rw [if_neg (by omega), List.getElem?_replicate, List.getElem?_eq_none (l := t) (by omega)]
      split <;> simp
  · rw [if_neg (by omega), List.getElem?_replicate]
    split <;> simp [h]
theorem paint_full (t : List Bool) : paint t t.length = t := by simp [paint]
theorem paint_zero (t : List Bool) : paint t 0 = List.replicate t.length false := by simp [paint]
theorem paint_app (l r : List Bool) : paint (l ++ r) l.length = l ++ List.replicate r.length false := by simp [paint]
theorem paint_flip {t : List Bool} {p : Nat} {bs : List UInt8} (h : IsBits (paint t p) bs) (hp : p < t.length) (hb : t[p]?.getD false = true) : IsBits (paint t (p + 1)) (flipB bs p) := by
  have hl := paint_length t p (by omega)
  refine ⟨by rw [flipB_length, paint_length t (p + 1) (by omega), h.1, hl], fun i => ?_⟩
  rw [bitAt_flipB bs p i (by rw [h.1, hl]; omega), h.2, paint_get, paint_get]
  by_cases e : p = i
  · subst e; simp [hb]
  · have : decide (i < p + 1) = decide (i < p) := by rw [decide_eq_decide]; omega
    simp [e, this]
theorem paint_stay {t : List Bool} {p : Nat} {bs : List UInt8} (h : IsBits (paint t p) bs) (hp : p < t.length) (hb : t[p]?.getD false = false) : IsBits (paint t (p + 1)) bs := by
  have hl := paint_length t p (by omega)
  refine ⟨by rw [paint_length t (p + 1) (by omega), h.1, hl], fun i => ?_⟩
  rw [h.2, paint_get, paint_get]
  by_cases e : p = i
  · subst e; simp [hb]
  · have : decide (i < p + 1) = decide (i < p) := by rw [decide_eq_decide]; omega
    simp [this]

/-- The bytes lie in a block from B on. -/
def Fresh (B : Nat) (A : Option Addr) (bs : List UInt8) : Prop := ∀ a, A = some a → bs ≠ [] → B ≤ a.block
theorem Byt.set_low {n₀ B : Nat} {W : World} {A : Option Addr} {bs : List UInt8} (h : Byt n₀ W A bs) (hf : Fresh B A bs) {p : Addr} (hp : p.block < B) (u : Value) : Byt n₀ (W.setCell p u) A bs := fun hn => by
  obtain ⟨b, off, rfl, hlt, hc⟩ := h hn
  have hb := hf _ rfl hn
  exact ⟨b, off, rfl, hlt, fun j hj => (World.cell?_setCell_other W p _ u (fun e => by subst e; simp at hp hb; omega)).trans (hc j hj)⟩
/-- What a call answers: an error's number and bits, in memory that it may have made; all that was there stays. -/
def Res (w : World) (r : Int × List Bool) (e : Ending) (w' : World) : Prop :=
  ∃ (A : Option Addr) (n c : Nat) (bs : List UInt8), e = .returned (.tuple #[.agg #[.int .i64 r.2.length, .slice A n c], .int .i64 r.1]) ∧ n = bs.length ∧ IsBits r.2 bs ∧ r.2.length ≤ 4096 ∧ Byt w'.heap.size w' A bs ∧ Below w.heap.size w w' ∧ Fresh w.heap.size A bs
theorem res_err {w w' : World} (k : Int) (h : Below w.heap.size w w') : Res w (k, []) (.returned (.tuple #[.agg #[.int .i64 0, .slice none 0 0], .int .i64 k])) w' :=
  ⟨none, 0, 0, [], rfl, rfl, isBits_nil, by simp, fun h => absurd rfl h, h, fun _ _ h => absurd rfl h⟩

/-- A box of two cells. -/
theorem Blk.two {w : World} {g : Nat} {t : TypeId} {a b : Value} (h : Blk w g t #[a, b]) : w.cell? ⟨g, 0, none⟩ = some a ∧ w.cell? ⟨g, 1, none⟩ = some b ∧ w.frozen? ⟨g, 0, none⟩ = false ∧ w.frozen? ⟨g, 1, none⟩ = false :=
  ⟨by simpa using h.cell 0, by simpa using h.cell 1, h.frozen 0, h.frozen 1⟩
theorem Blk.put2 {w : World} {g : Nat} {t : TypeId} {a b : Value} (h : Blk w g t #[a, b]) (x y : Value) : Blk ((w.setCell ⟨g, 0, none⟩ x).setCell ⟨g, 1, none⟩ y) g t #[x, y] := by
  simpa using (h.set_ 0 x).set_ 1 y
/-- Two boxes laid by a call, behind a callee that keeps all that was there. -/
theorem boxes2 {w w1 : World} {a0 a1 b0 b1 : Value} (hB : Below ((w.alloc (.cells #[a0, a1] 26)).alloc (.cells #[b0, b1] 26)).heap.size ((w.alloc (.cells #[a0, a1] 26)).alloc (.cells #[b0, b1] 26)) w1) :
    Blk w1 w.heap.size 26 #[a0, a1] ∧ Blk w1 (w.heap.size + 1) 26 #[b0, b1] ∧ w.heap.size + 2 ≤ w1.heap.size ∧ Below w.heap.size w w1 := by
  have h1 : Blk ((w.alloc (.cells #[a0, a1] 26)).alloc (.cells #[b0, b1] 26)) w.heap.size 26 #[a0, a1] := (Blk.new w 26 _).alloc _
  have h2 : Blk ((w.alloc (.cells #[a0, a1] 26)).alloc (.cells #[b0, b1] 26)) (w.heap.size + 1) 26 #[b0, b1] := by
    simpa using Blk.new (w.alloc (.cells #[a0, a1] 26)) 26 #[b0, b1]
  exact ⟨h1.below hB h1.lt, h2.below hB h2.lt, by have := hB.size; simpa using this, (((Below.refl _ _).alloc (Nat.le_refl _) _).alloc (by simp) _).trans (hB.mono (by simp; omega))⟩

theorem bit_test (v j : Nat) (hv : v < 2 ^ 64) : (bits .and .u64 ((v : Int) / 2 ^ j) 1 == 1) = v.testBit j := by
  have e : ((v : Int) / 2 ^ j) = ((v / 2 ^ j : Nat) : Int) := by norm_cast
  have hle : v / 2 ^ j ≤ v := Nat.div_le_self _ _
  rw [e, show (1 : Int) = ((1 : Nat) : Int) from rfl, u64_and_nat _ _ (by omega) (by omega), nat_mask1, Nat.testBit_eq_decide_div_mod_eq]
  rcases Nat.mod_two_eq_zero_or_one (v / 2 ^ j) with h | h <;> rw [h] <;> rfl
theorem numBits_get (l : List Bool) (v W N k : Nat) (hl : l.length = N) (hk : k < W) : (l ++ numBits v W)[N + k]?.getD false = v.testBit (W - 1 - k) := by
  subst hl
  rw [List.getElem?_append_right (by omega)]
  simp [numBits, hk]

/-- Bits under way: the row g, its box ob, painted up to p; all that was there stays. -/
structure OutRel (w : World) (g ob m : Nat) (t : List Bool) (p : Nat) (bs : List UInt8) (wr : World) : Prop where
  is_ : IsBits (paint t p) bs
  len : bs.length = m
  row : Blk wr g 5 (encB bs)
  box : Blk wr ob 26 #[.int .i64 (t.length : Int), .slice (some ⟨g, 0, none⟩) m m]
  low : Below w.heap.size w wr
  ge : w.heap.size ≤ g
  lt : g < ob
theorem OutRel.turned {w wr wr' : World} {g ob m p : Nat} {t : List Bool} {bs : List UInt8} (h : OutRel w g ob m t p bs wr) (hp : p < t.length) (hb : t[p]?.getD false = true) (hr : Blk wr' g 5 (encB (flipB bs p))) (hg : wr.grownBy wr' (some g)) :
    OutRel w g ob m t (p + 1) (flipB bs p) wr' :=
  ⟨paint_flip h.is_ hp hb, by rw [flipB_length]; exact h.len, hr, h.box.grown hg (by have := h.lt; simp; omega), h.low.grown hg h.low.size (fun k e => by injection e with e; have := h.ge; omega), h.ge, h.lt⟩
theorem OutRel.stayed {w wr : World} {g ob m p : Nat} {t : List Bool} {bs : List UInt8} (h : OutRel w g ob m t p bs wr) (hp : p < t.length) (hb : t[p]?.getD false = false) : OutRel w g ob m t (p + 1) bs wr :=
  ⟨paint_stay h.is_ hp hb, h.len, h.row, h.box, h.low, h.ge, h.lt⟩

/-- Put, by the document. -/
def putS (N : Int) (bs : List UInt8) (v : Nat) (width : Int) : Int × List Bool :=
  if goodB N bs = true then
    if (0 ≤ width ∧ width ≤ 64) ∧ v / 2 ^ width.toNat = 0 then
      if 4096 - N < width then (3, []) else (0, listOf N bs ++ numBits v width.toNat)
    else (2, [])
  else (10, [])

set_option maxRecDepth 4000 in
set_option maxHeartbeats 1000000 in
theorem put_any (N width : Int) (v : Nat) (A : Option Addr) (n c : Nat) (bs : List UInt8) (w : World) (hn : n = bs.length) (hm : n ≤ maxLen) (hA : Byt w.heap.size w A bs) (hv : v < 2 ^ 64) :
    Calls Tryd.prog 31 #[.agg #[.int .i64 N, .slice A n c], .int .u64 v, .int .i64 width] w (Res w (putS N bs v width)) := by
  have HA := Lib.hid hA
  have HN := Lib.hid hn; clear hn
  have hck := fun w1 (h : Below w.heap.size w w1) => check_any N A n c bs w1 HN.out hm ((hA.below h).mono h.size)
  have HCK := Lib.hid hck; clear hck hA
  unfold maxLen at hm
  by_cases hgood : goodB N bs = true
  · obtain ⟨hg0, hg1, hg2, _⟩ := (good_iff N bs).1 hgood
    have hk := chk_yes hgood
    have HK := Lib.hid hk; clear hk
    by_cases hwid : 0 ≤ width ∧ width ≤ 64
    · obtain ⟨hw0, hw1⟩ := hwid
      by_cases hsh : v / 2 ^ width.toNat = 0
      · have hshb : ((v : Int) / 2 ^ width.toNat != 0) = false := by
          have : ((v : Int) / 2 ^ width.toNat) = ((v / 2 ^ width.toNat : Nat) : Int) := by norm_cast
          rw [this, hsh]; rfl
        by_cases hlong : 4096 - N < width
        · have hr : putS N bs v width = (3, []) := by simp [putS, hgood, hw0, hw1, hsh, hlong]
          rw [hr]; clear hr hgood
          have HSH := Lib.hid hsh; clear hsh
          have HG2 := Lib.hid hg2; clear hg2
          go_enter Tryd.func31, Tryd.ntmps31
          go_wp2_with (first
            | (go_at_call 33; refine (HCK.out _ (((Below.refl _ _).alloc (Nat.le_refl _) _).alloc (by simp) _)).mono ?_; rintro e w1 ⟨rfl, hB⟩; rw [HK.out]; obtain ⟨k1, k2, hs, hBw⟩ := boxes2 hB; obtain ⟨c1, c2, f1, f2⟩ := k2.two; obtain ⟨c3, c4, f3, f4⟩ := k1.two; have hl1 : w.heap.size + 1 < w1.heap.size := by omega)
            | (go_at_call 44; refine (isWidth_yes _ _ hw0 hw1).mono ?_; rintro e w2 ⟨rfl, rfl⟩))
          refine bodyPost_ret (v := .tuple #[.agg #[.int .i64 0, .slice none 0 0], .int .i64 3]) (by simp [results, Tryd.results31, go_sem, c1, c2]) rfl
            (res_err 3 ((hBw.setCell (p := ⟨w.heap.size + 1, 0, none⟩) (by simp) _).setCell (p := ⟨w.heap.size + 1, 1, none⟩) (by simp) _))
        · have hr : putS N bs v width = (0, listOf N bs ++ numBits v width.toNat) := by simp [putS, hgood, hw0, hw1, hsh, hlong]
          rw [hr]; clear hr
          have hlong' : width ≤ 4096 - N := by omega
          clear hlong
          have hib := good_isBits hgood
          have hll : (listOf N bs).length = N.toNat := listOf_length N bs
          generalize hl : listOf N bs = l at *
          have HSH := Lib.hid hsh; clear hsh
          have HG2 := Lib.hid hg2; clear hg2
          have HIB := Lib.hid hib; clear hib
          have HLL := Lib.hid hll; clear hll hl hgood
          go_enter Tryd.func31, Tryd.ntmps31
          go_wp2_with (first
            | (go_at_call 33; refine (HCK.out _ (((Below.refl _ _).alloc (Nat.le_refl _) _).alloc (by simp) _)).mono ?_; rintro e w1 ⟨rfl, hB⟩; rw [HK.out]; obtain ⟨k1, k2, hs, hBw⟩ := boxes2 hB; obtain ⟨c1, c2, f1, f2⟩ := k2.two; obtain ⟨c3, c4, f3, f4⟩ := k1.two; have hl1 : w.heap.size + 1 < w1.heap.size := by omega)
            | (go_at_call 44; refine (isWidth_yes _ _ hw0 hw1).mono ?_; rintro e w2 ⟨rfl, rfl⟩)
            | (go_at_call 45; refine (grown_any N width A n c bs _ hg0 hg1 hw0 (by omega) HN.out (by have := HG2.out; omega) ((HA.out.below hBw).mono hBw.size)).mono ?_
               rintro e w2 ⟨g, m, hmm, rfl, hgg, hgb, hgB⟩
               have HM := Lib.hid hmm; clear hmm
               have hgl := hgb.lt
               have j1 := k1.below hgB (by omega)
               have j2 := k2.below hgB (by omega)
               have hBw2 := hBw.trans (hgB.mono hBw.size)
               clear c1 c2 c3 c4 f1 f2 f3 f4 k1 k2 hl1))
          have hi0 : OutRel w g w2.heap.size m (l ++ numBits v width.toNat) (N.toNat + 0) (bs ++ List.replicate ((N.toNat + width.toNat + 7) / 8 - bs.length) 0) (w2.alloc (.cells #[.int .i64 (N + width), .slice (some ⟨g, 0, none⟩) m m] 26)) := by
            have h1 := isBits_grow HIB.out width.toNat
            rw [HLL.out] at h1
            have h2 := HM.out; have h3 := HG2.out
            refine ⟨?_, by simp; omega, hgb.alloc _, ?_, hBw2.alloc hBw2.size _, by omega, hgl⟩
            · rw [Nat.add_zero, ← HLL.out, paint_app, numBits_length, HLL.out]; exact h1
            · have e : (((l ++ numBits v width.toNat).length : Nat) : Int) = N + width := by rw [List.length_append, numBits_length, HLL.out]; omega
              rw [e]; exact Blk.new w2 26 _
          have hlt2 : w.heap.size + 2 ≤ w2.heap.size := by omega
          have hgg2 : w.heap.size + 2 ≤ g := by omega
          have j1' := j1.alloc (.cells #[.int .i64 (N + width), .slice (some ⟨g, 0, none⟩) m m] 26)
          have j2' := j2.alloc (.cells #[.int .i64 (N + width), .slice (some ⟨g, 0, none⟩) m m] 26)
          generalize w2.heap.size = ob at *
          go_loopw [34] (fun i wr => ∃ (k : Nat) (bs' : List UInt8), (k : Int) ≤ width ∧ i = .int .i64 k ∧ OutRel w g ob m (l ++ numBits v width.toNat) (N.toNat + k) bs' wr ∧
              Blk wr w.heap.size 26 #[.int .i64 N, .slice A n c] ∧ Blk wr (w.heap.size + 1) 26 #[.int .i64 0, .slice none 0 0])
            (fun i _ => width.toNat - (intOf i).toNat)
          case atStart => exact ⟨0, _, by omega, rfl, hi0, j1', j2'⟩
          case round =>
            obtain ⟨k, bs', hk, rfl, hO, q1, q2⟩ := hrel
            obtain ⟨c1, c2, f1, f2⟩ := q1.two
            obtain ⟨c3, c4, f3, f4⟩ := q2.two
            obtain ⟨c5, c6, f5, f6⟩ := hO.box.two
            have hN2 : (((l ++ numBits v width.toNat).length : Nat) : Int) = N + width := by rw [List.length_append, numBits_length, HLL.out]; omega
            rw [hN2] at c5
            have HN2 := Lib.hid hN2; clear hN2 j1 j2 j1' j2' hi0 hgb hB hgB
            by_cases hlt : (k : Int) < width
            · have hbt := bit_test v (width.toNat - 1 - k) hv
              have hgt := numBits_get l v width.toNat N.toNat k HLL.out (by omega)
              have hpl : N.toNat + k < (l ++ numBits v width.toNat).length := by have := HN2.out; omega
              by_cases hb : v.testBit (width.toNat - 1 - k) = true
              · rw [hb] at hbt hgt
                have HGT := Lib.hid hgt; clear hgt hb
                have hcall := turn_any (N + width) (N + k) g m m bs' wr (by omega) (by omega) hO.len.symm (by
                  have h1 := hO.is_.1; rw [paint_length _ _ (by omega)] at h1; have := HN2.out; omega) hO.row
                have HT := Lib.hid hcall; clear hcall
                have HP := Lib.hid hpl; clear hpl
                go_wp2_with (go_at_call 46; refine HT.out.mono ?_; rintro e w3 ⟨rfl, hr3, hg3⟩)
                go_roundw
                case rel =>
                  rw [show (N + (k : Int)).toNat = N.toNat + k by omega] at hr3
                  exact ⟨k + 1, _, by omega, by go_num, hO.turned HP.out HGT.out hr3 hg3, q1.grown hg3 (by simp; omega), q2.grown hg3 (by simp; omega)⟩
                case measure => simp [intOf]; omega
              · rw [Bool.not_eq_true] at hb
                rw [hb] at hbt hgt
                have HGT := Lib.hid hgt; clear hgt hb
                have HP := Lib.hid hpl; clear hpl
                go_wp2
                go_roundw
                case rel => exact ⟨k + 1, _, by omega, by go_num, hO.stayed HP.out HGT.out, q1, q2⟩
                case measure => simp [intOf]; omega
            · have hlw : w.heap.size < wr.heap.size := q1.lt
              go_wp2
              have hfin := hO.is_
              rw [show N.toNat + k = (l ++ numBits v width.toNat).length by have := HN2.out; omega, paint_full] at hfin
              have hrow : Blk ((wr.setCell ⟨w.heap.size + 1, 0, none⟩ (.int .i64 (N + width))).setCell ⟨w.heap.size + 1, 1, none⟩ (.slice (some ⟨g, 0, none⟩) m m)) g 5 (encB bs') := (hO.row.far (p := ⟨w.heap.size + 1, 0, none⟩) (by simp; omega) _).far (p := ⟨w.heap.size + 1, 1, none⟩) (by simp; omega) _
              refine bodyPost_ret (v := .tuple #[.agg #[.int .i64 (N + width), .slice (some ⟨g, 0, none⟩) m m], .int .i64 0]) (by simp [results, Tryd.results31, go_sem, c3, c4]) rfl
                ⟨some ⟨g, 0, none⟩, m, m, bs', by rw [HN2.out], hO.len.symm, hfin, by have := HN2.out; dsimp only; omega, byt_of_blk hrow, (hO.low.setCell (p := ⟨w.heap.size + 1, 0, none⟩) (by simp) _).setCell (p := ⟨w.heap.size + 1, 1, none⟩) (by simp) _, fun a ha _ => by injection ha with ha; subst ha; exact hO.ge⟩
      · have hr : putS N bs v width = (2, []) := by simp [putS, hgood, hsh]
        have hshb : ((v : Int) / 2 ^ width.toNat != 0) = true := by
          have : ((v : Int) / 2 ^ width.toNat) = ((v / 2 ^ width.toNat : Nat) : Int) := by norm_cast
          rw [this]; rw [bne_iff_ne]; exact_mod_cast hsh
        rw [hr]; clear hr hgood hsh
        have HG2 := Lib.hid hg2; clear hg2
        go_enter Tryd.func31, Tryd.ntmps31
        go_wp2_with (first
            | (go_at_call 33; refine (HCK.out _ (((Below.refl _ _).alloc (Nat.le_refl _) _).alloc (by simp) _)).mono ?_; rintro e w1 ⟨rfl, hB⟩; rw [HK.out]; obtain ⟨k1, k2, hs, hBw⟩ := boxes2 hB; obtain ⟨c1, c2, f1, f2⟩ := k2.two; obtain ⟨c3, c4, f3, f4⟩ := k1.two; have hl1 : w.heap.size + 1 < w1.heap.size := by omega)
            | (go_at_call 44; refine (isWidth_yes _ _ hw0 hw1).mono ?_; rintro e w2 ⟨rfl, rfl⟩))
        refine bodyPost_ret (v := .tuple #[.agg #[.int .i64 0, .slice none 0 0], .int .i64 2]) (by simp [results, Tryd.results31, go_sem, c1, c2]) rfl
            (res_err 2 ((hBw.setCell (p := ⟨w.heap.size + 1, 0, none⟩) (by simp) _).setCell (p := ⟨w.heap.size + 1, 1, none⟩) (by simp) _))
    · have hr : putS N bs v width = (2, []) := by simp [putS, hgood, hwid]
      rw [hr]; clear hr hgood
      have HG2 := Lib.hid hg2; clear hg2
      have HW := Lib.hid hwid; clear hwid
      go_enter Tryd.func31, Tryd.ntmps31
      go_wp2_with (first
            | (go_at_call 33; refine (HCK.out _ (((Below.refl _ _).alloc (Nat.le_refl _) _).alloc (by simp) _)).mono ?_; rintro e w1 ⟨rfl, hB⟩; rw [HK.out]; obtain ⟨k1, k2, hs, hBw⟩ := boxes2 hB; obtain ⟨c1, c2, f1, f2⟩ := k2.two; obtain ⟨c3, c4, f3, f4⟩ := k1.two; have hl1 : w.heap.size + 1 < w1.heap.size := by omega)
            | (go_at_call 44; refine (isWidth_no _ _ HW.out).mono ?_; rintro e w2 ⟨rfl, rfl⟩))
      refine bodyPost_ret (v := .tuple #[.agg #[.int .i64 0, .slice none 0 0], .int .i64 2]) (by simp [results, Tryd.results31, go_sem, c1, c2]) rfl
            (res_err 2 ((hBw.setCell (p := ⟨w.heap.size + 1, 0, none⟩) (by simp) _).setCell (p := ⟨w.heap.size + 1, 1, none⟩) (by simp) _))
  · have hr : putS N bs v width = (10, []) := by simp [putS, hgood]
    have hk := chk_no (N := N) (bs := bs) (by simpa using hgood)
    rw [hr]; clear hr hgood
    have HK := Lib.hid hk; clear hk
    go_enter Tryd.func31, Tryd.ntmps31
    go_wp2_with (go_at_call 33; refine (HCK.out _ (((Below.refl _ _).alloc (Nat.le_refl _) _).alloc (by simp) _)).mono ?_; rintro e w1 ⟨rfl, hB⟩; rw [HK.out]; obtain ⟨k1, k2, hs, hBw⟩ := boxes2 hB; obtain ⟨c1, c2, f1, f2⟩ := k2.two; have hl1 : w.heap.size + 1 < w1.heap.size := by omega)
    refine bodyPost_ret (v := .tuple #[.agg #[.int .i64 0, .slice none 0 0], .int .i64 10]) (by simp [results, Tryd.results31, go_sem, c1, c2]) rfl
      (res_err 10 ((hBw.setCell (p := ⟨w.heap.size + 1, 0, none⟩) (by simp) _).setCell (p := ⟨w.heap.size + 1, 1, none⟩) (by simp) _))
end Go.Proofs.YteigekhfamapmaaDoor
