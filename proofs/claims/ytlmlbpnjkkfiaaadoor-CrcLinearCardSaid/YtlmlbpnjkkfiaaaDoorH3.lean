/-
  Flip of package bits answers as the document says, for all bits and places. No condition but that the bytes and the places can be read.
-/
import Derived.Test.YtlmlbpnjkkfiaaaDoorH2
namespace Go.Proofs.YtlmlbpnjkkfiaaaDoor
open Go.RowKit

/-- The slice at A holds the places zs, in a block below n₀ (nil or empty where there are none). -/
def Ints (n₀ : Nat) (W : World) (A : Option Addr) (zs : List Int) : Prop :=
  zs ≠ [] → ∃ b off, A = some ⟨b, off, none⟩ ∧ b < n₀ ∧ ∀ j, j < zs.length → W.cell? ⟨b, off + j, none⟩ = some (.int .i64 (zs[j]?.getD 0))
theorem Ints.below {n₀ : Nat} {W W' : World} {A : Option Addr} {zs : List Int} (h : Ints n₀ W A zs) (hb : Below n₀ W W') : Ints n₀ W' A zs := fun hn => by
  obtain ⟨b, off, e, hlt, hc⟩ := h hn
  exact ⟨b, off, e, hlt, fun j hj => (hb.cell (p := ⟨b, off + j, none⟩) hlt).trans (hc j hj)⟩
theorem Ints.mono {n₀ n₁ : Nat} {W : World} {A : Option Addr} {zs : List Int} (h : Ints n₀ W A zs) (hn : n₀ ≤ n₁) : Ints n₁ W A zs := fun hb => by
  obtain ⟨b, off, e, hlt, hc⟩ := h hb
  exact ⟨b, off, e, Nat.lt_of_lt_of_le hlt hn, hc⟩
theorem Ints.at_ {n₀ : Nat} {W : World} {A : Option Addr} {zs : List Int} (h : Ints n₀ W A zs) {k : Nat} (hk : k < zs.length) :
    ∃ b off, A = some ⟨b, off, none⟩ ∧ b < n₀ ∧ W.cell? ⟨b, off + k, none⟩ = some (.int .i64 (zs[k]?.getD 0)) := by
  obtain ⟨b, off, e, hlt, hc⟩ := h (by rintro rfl; simp at hk)
  exact ⟨b, off, e, hlt, hc k hk⟩

/-- One bit turned. -/
def flip1 (l : List Bool) (i : Int) : List Bool := l.set i.toNat (!(l[i.toNat]?.getD false))
def okAt (N : Int) (zs : List Int) : Bool := zs.all fun i => decide (0 ≤ i) && decide (i < N)
def flips (l : List Bool) (zs : List Int) : List Bool := zs.foldl flip1 l
/-- Flip, by the document. -/
def flipS (N : Int) (bs : List UInt8) (zs : List Int) : Int × List Bool :=
  if goodB N bs = true then if okAt N zs = true then (0, flips (listOf N bs) zs) else (2, []) else (10, [])
theorem flip1_length (l : List Bool) (i : Int) : (flip1 l i).length = l.length := by simp [flip1]
theorem flips_length (zs : List Int) : ∀ l : List Bool, (flips l zs).length = l.length := by
  induction zs with
  | nil => intro l; rfl
  | cons z zs ih => intro l; show (flips (flip1 l z) zs).length = _; rw [ih, flip1_length]
theorem int_at (zs : List Int) (k : Nat) (h : k < zs.length) : zs.take (k + 1) = zs.take k ++ [zs[k]?.getD 0] := by
  rw [List.take_add_one, List.getElem?_eq_getElem h]; rfl
theorem flips_snoc (l : List Bool) (zs : List Int) (z : Int) : flips l (zs ++ [z]) = flip1 (flips l zs) z := by simp [flips]
theorem ok_snoc (N : Int) (zs : List Int) (z : Int) : okAt N (zs ++ [z]) = (okAt N zs && (decide (0 ≤ z) && decide (z < N))) := by simp [okAt]
theorem ok_not (N : Int) (zs : List Int) (k : Nat) (h : k < zs.length) (hb : ¬ (0 ≤ zs[k]?.getD 0 ∧ zs[k]?.getD 0 < N)) : okAt N zs = false := by
  unfold okAt
  rw [List.all_eq_false]
  refine ⟨zs[k], List.getElem_mem h, ?_⟩
  rw [List.getElem?_eq_getElem h] at hb
  simpa using hb

/-- Bits under way: the row g, its box ob hold the truths t; all that was there stays. -/
structure RowRel (w : World) (g ob m : Nat) (t : List Bool) (bs : List UInt8) (wr : World) : Prop where
  is_ : IsBits t bs
  len : bs.length = m
  row : Blk wr g 5 (encB bs)
  box : Blk wr ob 32 #[.int .i64 (t.length : Int), .slice (some ⟨g, 0, none⟩) m m]
  low : Below w.heap.size w wr
  ge : w.heap.size ≤ g
  lt : g < ob
theorem RowRel.turned {w wr wr' : World} {g ob m : Nat} {t : List Bool} {bs : List UInt8} (h : RowRel w g ob m t bs wr) (i : Int) (hi : i.toNat < t.length) (hr : Blk wr' g 5 (encB (flipB bs i.toNat))) (hg : wr.grownBy wr' (some g)) :
    RowRel w g ob m (flip1 t i) (flipB bs i.toNat) wr' :=
  ⟨isBits_flip h.is_ hi, by rw [flipB_length]; exact h.len, hr, by rw [flip1_length]; exact h.box.grown hg (by have := h.lt; simp; omega), h.low.grown hg h.low.size (fun k e => by injection e with e; have := h.ge; omega), h.ge, h.lt⟩

set_option maxHeartbeats 1000000 in
theorem flip_any (N : Int) (A Z : Option Addr) (n c zn zc : Nat) (bs : List UInt8) (zs : List Int) (w : World) (hn : n = bs.length) (hm : n ≤ maxLen) (hA : Byt w.heap.size w A bs) (hzn : zn = zs.length) (hzm : zn ≤ maxLen) (hZ : Ints w.heap.size w Z zs) :
    Calls Tryd.prog 33 #[.agg #[.int .i64 N, .slice A n c], .slice Z zn zc] w (Res w (flipS N bs zs)) := by
  have hck := fun w1 (h : Below w.heap.size w w1) => check_any N A n c bs w1 hn hm ((hA.below h).mono h.size)
  by_cases hgood : goodB N bs = true
  · obtain ⟨hg0, hg1, hg2, hg3⟩ := (good_iff N bs).1 hgood
    rw [chk_yes hgood] at hck
    have hgr := fun w1 (h : Below w.heap.size w w1) => grown_any N 0 A n c bs w1 hg0 hg1 (by omega) (by omega) hn (by omega) ((hA.below h).mono h.size)
    have hib := good_isBits hgood
    have hgl := good_length hgood
    have hr : flipS N bs zs = (if okAt N zs = true then (0, flips (listOf N bs) zs) else (2, [])) := by unfold flipS; rw [if_pos hgood]
    rw [hr]; clear hr hgood
    generalize listOf N bs = l at *
    obtain ⟨R, hR⟩ : ∃ R, R = (if okAt N zs = true then ((0 : Int), flips l zs) else (2, [])) := ⟨_, rfl⟩
    rw [← hR]
    have HRR := Lib.hid hR; clear hR
    have HCK := Lib.hid hck; have HGR := Lib.hid hgr; have HL := Lib.hid hg2; have HIB := Lib.hid hib; have HGL := Lib.hid hgl; have HZ := Lib.hid hZ; have HZN := Lib.hid hzn
    clear hck hgr hg2 hg3 hA hn hib hgl hZ hzn
    unfold maxLen at hm hzm
    go_enter Tryd.func33, Tryd.ntmps33
    go_wp2_with (first
      | (go_at_call 25; refine (HCK.out _ (((Below.refl _ _).alloc (Nat.le_refl _) _).alloc (by simp) _)).mono ?_; rintro e w1 ⟨rfl, hB⟩; obtain ⟨k1, k2, hs, hBw⟩ := boxes2 hB; obtain ⟨c1, c2, f1, f2⟩ := k2.two; obtain ⟨c3, c4, f3, f4⟩ := k1.two; have hl1 : w.heap.size + 1 < w1.heap.size := by omega)
      | (go_at_call 42; refine (HGR.out _ hBw).mono ?_
         rintro e w2 ⟨g, m, hmm, rfl, hgg, hgb, hgB⟩
         have HM := Lib.hid hmm; clear hmm
         have hgl := hgb.lt
         have j1 := k1.below hgB (by omega)
         have j2 := k2.below hgB (by omega)
         have hBw2 := hBw.trans (hgB.mono hBw.size)
         clear c1 c2 c3 c4 f1 f2 f3 f4 k1 k2 hl1))
    have e1 : (N.toNat + Int.toNat 0 + 7) / 8 - bs.length = 0 := by have := HL.out; omega
    rw [e1, List.replicate_zero, List.append_nil] at hgb
    have hi0 : RowRel w g w2.heap.size m (flips l (zs.take 0)) bs (w2.alloc (.cells #[.int .i64 N, .slice (some ⟨g, 0, none⟩) m m] 32)) := by
      refine ⟨HIB.out, by have := HM.out; have := HL.out; omega, hgb.alloc _, ?_, hBw2.alloc hBw2.size _, by omega, hgl⟩
      rw [flips_length, HGL.out]; exact Blk.new w2 32 _
    have hlt2 : w.heap.size + 2 ≤ w2.heap.size := by omega
    have hgg2 : w.heap.size + 2 ≤ g := by omega
    have j1' := j1.alloc (.cells #[.int .i64 N, .slice (some ⟨g, 0, none⟩) m m] 32)
    have j2' := j2.alloc (.cells #[.int .i64 N, .slice (some ⟨g, 0, none⟩) m m] 32)
    clear hgb hB hgB j1 j2 e1
    generalize w2.heap.size = ob at *
    go_loopw [17] (fun i wr => ∃ (k : Nat) (bs' : List UInt8), k ≤ zn ∧ i = .int .i64 k ∧ okAt N (zs.take k) = true ∧ RowRel w g ob m (flips l (zs.take k)) bs' wr ∧
        Blk wr w.heap.size 32 #[.int .i64 N, .slice A n c] ∧ Blk wr (w.heap.size + 1) 32 #[.int .i64 0, .slice none 0 0])
      (fun i _ => zn - (intOf i).toNat)
    case atStart => exact ⟨0, _, by omega, rfl, rfl, hi0, j1', j2'⟩
    case round =>
      obtain ⟨k, bs', hk, rfl, hok, hO, q1, q2⟩ := hrel
      clear hi0 j1' j2'
      have HOK := Lib.hid hok; clear hok
      obtain ⟨c1, c2, f1, f2⟩ := q1.two
      obtain ⟨c3, c4, f3, f4⟩ := q2.two
      obtain ⟨c5, c6, f5, f6⟩ := hO.box.two
      rw [flips_length, HGL.out] at c5
      by_cases hlt : k < zn
      · obtain ⟨zb, zo, rfl, hzl, hzc⟩ := (HZ.out.below hO.low).at_ (k := k) (by have := HZN.out; omega)
        have hta := int_at zs k (by have := HZN.out; omega)
        have hnot := ok_not N zs k (by have := HZN.out; omega)
        generalize zs[k]?.getD 0 = z at *
        by_cases hz : 0 ≤ z ∧ z < N
        · obtain ⟨hz0, hz1⟩ := hz
          have hd1 : decide (z < 0) = false := by simpa using hz0
          have hd2 : decide (N ≤ z) = false := by simpa using hz1
          have hok2 : okAt N (zs.take (k + 1)) = true := by rw [hta, ok_snoc, HOK.out]; simp [hz0, hz1]
          have hfl : flips l (zs.take (k + 1)) = flip1 (flips l (zs.take k)) z := by rw [hta, flips_snoc]
          have hturn := turn_any N z g m m bs' wr hz0 (by omega) hO.len.symm (by
            have h1 := hO.is_.1; rw [flips_length] at h1; have := HGL.out; omega) hO.row
          have HT := Lib.hid hturn; have HOK2 := Lib.hid hok2; have HFL := Lib.hid hfl
          clear hturn hok2 hfl hta hnot
          go_wp2_with (go_at_call 43; refine HT.out.mono ?_; rintro e w4 ⟨rfl, hr4, hg4⟩)
          go_roundw
          case rel => exact ⟨k + 1, _, by omega, by go_num, HOK2.out, by rw [HFL.out]; exact hO.turned z (by rw [flips_length]; have := HGL.out; omega) hr4 hg4, q1.grown hg4 (by simp; omega), q2.grown hg4 (by simp; omega)⟩
          case measure => simp [intOf]; omega
        · have hr : okAt N zs = false := hnot hz
          have hzz : z < 0 ∨ N ≤ z := by omega
          clear hnot hz hta
          have HR := Lib.hid hr; clear hr
          rcases hzz with hz0 | hz0
          · have hd1 : decide (z < 0) = true := by simpa using hz0
            go_wp2
            rw [HRR.out, HR.out, if_neg (by decide)]
            refine bodyPost_ret (v := .tuple #[.agg #[.int .i64 0, .slice none 0 0], .int .i64 2]) (by simp [results, Tryd.results33, go_sem, c3, c4]) rfl
              (res_err 2 ((hO.low.setCell (p := ⟨w.heap.size + 1, 0, none⟩) (by simp) _).setCell (p := ⟨w.heap.size + 1, 1, none⟩) (by simp) _))
          · have hd1 : decide (z < 0) = false := by simp; omega
            have hd2 : decide (N ≤ z) = true := by simpa using hz0
            go_wp2
            rw [HRR.out, HR.out, if_neg (by decide)]
            refine bodyPost_ret (v := .tuple #[.agg #[.int .i64 0, .slice none 0 0], .int .i64 2]) (by simp [results, Tryd.results33, go_sem, c3, c4]) rfl
              (res_err 2 ((hO.low.setCell (p := ⟨w.heap.size + 1, 0, none⟩) (by simp) _).setCell (p := ⟨w.heap.size + 1, 1, none⟩) (by simp) _))
      · have hlw : w.heap.size < wr.heap.size := q1.lt
        have htk : zs.take k = zs := List.take_of_length_le (by have := HZN.out; omega)
        have hr := HOK.out
        rw [htk] at hr hO
        have HR := Lib.hid hr
        have hN2 : (((flips l zs).length : Nat) : Int) = N := by rw [flips_length]; exact HGL.out
        have HN2 := Lib.hid hN2
        clear hr htk hN2
        go_wp2
        rw [HRR.out, HR.out, if_pos rfl]
        have hrow : Blk ((wr.setCell ⟨w.heap.size + 1, 0, none⟩ (.int .i64 N)).setCell ⟨w.heap.size + 1, 1, none⟩ (.slice (some ⟨g, 0, none⟩) m m)) g 5 (encB bs') := (hO.row.far (p := ⟨w.heap.size + 1, 0, none⟩) (by simp; omega) _).far (p := ⟨w.heap.size + 1, 1, none⟩) (by simp; omega) _
        refine bodyPost_ret (v := .tuple #[.agg #[.int .i64 N, .slice (some ⟨g, 0, none⟩) m m], .int .i64 0]) (by simp [results, Tryd.results33, go_sem, c3, c4]) rfl
          ⟨some ⟨g, 0, none⟩, m, m, bs', by rw [HN2.out], hO.len.symm, hO.is_, by have := HN2.out; dsimp only; omega, byt_of_blk hrow, (hO.low.setCell (p := ⟨w.heap.size + 1, 0, none⟩) (by simp) _).setCell (p := ⟨w.heap.size + 1, 1, none⟩) (by simp) _, fun a ha _ => by injection ha with ha; subst ha; exact hO.ge⟩
  · have hr : flipS N bs zs = (10, []) := by simp [flipS, hgood]
    rw [chk_no (by simpa using hgood)] at hck
    rw [hr]
    have HCK := Lib.hid hck
    clear hck hgood hA hn hr hZ hzn
    unfold maxLen at hm hzm
    go_enter Tryd.func33, Tryd.ntmps33
    go_wp2_with (go_at_call 25; refine (HCK.out _ (((Below.refl _ _).alloc (Nat.le_refl _) _).alloc (by simp) _)).mono ?_; rintro e w1 ⟨rfl, hB⟩; obtain ⟨k1, k2, hs, hBw⟩ := boxes2 hB; obtain ⟨c1, c2, f1, f2⟩ := k2.two; obtain ⟨c3, c4, f3, f4⟩ := k1.two; have hl1 : w.heap.size + 1 < w1.heap.size := by omega)
    refine bodyPost_ret (v := .tuple #[.agg #[.int .i64 0, .slice none 0 0], .int .i64 10]) (by simp [results, Tryd.results33, go_sem, c1, c2]) rfl
      (res_err 10 ((hBw.setCell (p := ⟨w.heap.size + 1, 0, none⟩) (by simp) _).setCell (p := ⟨w.heap.size + 1, 1, none⟩) (by simp) _))
end Go.Proofs.YtlmlbpnjkkfiaaaDoor
