/-
  Check, Of, Ones and All of package bits and the document answer alike, for all bits and truths. No condition but that the bytes and the truths can be read.
-/
import Derived.Test.YtkiijnhpegbpnaaK2
namespace Go.Proofs.Ytkiijnhpegbpnaa
open Go.RowKit

theorem near_bools {w0 : World} {A : Option Addr} {l : List Bool} (h : Bools w0.heap.size w0 A l) (n : NearW w0) : Bools n.W.heap.size n.W A l := (h.below n.h).mono n.h.size
theorem Bools.take {n₀ : Nat} {W : World} {A : Option Addr} {l : List Bool} (h : Bools n₀ W A l) (k : Nat) : Bools n₀ W A (l.take k) := fun hn => by
  have hl : l ≠ [] := by rintro rfl; simp at hn
  obtain ⟨b, off, e, hlt, hc⟩ := h hl
  refine ⟨b, off, e, hlt, fun j hj => ?_⟩
  have hj' : j < k ∧ j < l.length := by simp at hj; omega
  rw [List.getElem?_take_of_lt hj'.1]
  exact hc j hj'.2

set_option maxRecDepth 100000 in
set_option maxHeartbeats 4000000 in
theorem checks_law (N : Int) (A B : Option Addr) (n c m d most : Nat) (bs : List UInt8) (l : List Bool) (w : World) (hn : n = bs.length) (hm : n ≤ maxLen) (hA : Byt w.heap.size w A bs) (hmn : m = l.length) (hmm : m ≤ maxLen) (hB : Bools w.heap.size w B l) (hmost : most ≤ 255) :
    Calls Try.prog 3 #[.agg #[.int .i64 N, .slice A n c], .slice B m d, .int .u8 most] w fun e w' => e = .returned (.bool true) ∧ Below w.heap.size w w' := by
  have h1 := fun w1 (h : Below w.heap.size w w1) => of_any B m d l w1 hmn hmm ((hB.below h).mono h.size)
  have h2 := fun w1 (h : Below w.heap.size w w1) => rof_any B m d l w1 hmn hmm ((hB.below h).mono h.size)
  have h3 := fun w1 (h : Below w.heap.size w w1) => list_any N A n c bs w1 hn hm ((hA.below h).mono h.size)
  have h4 := fun w1 (h : Below w.heap.size w w1) => all_any N A n c bs w1 hn hm ((hA.below h).mono h.size)
  have h5 := fun w1 (h : Below w.heap.size w w1) => check_any N A n c bs w1 hn hm ((hA.below h).mono h.size)
  have h6 := fun w1 (h : Below w.heap.size w w1) => rcheck_any N A n c bs w1 hn hm ((hA.below h).mono h.size)
  have h7 := fun w1 (h : Below w.heap.size w w1) => ones_any N A n c bs w1 hn hm ((hA.below h).mono h.size)
  have h8 := fun w1 (h : Below w.heap.size w w1) => rones_any N A n c bs w1 hn hm ((hA.below h).mono h.size)
  have hll := lst_length N bs
  generalize ofS l = R at *
  obtain ⟨R1, R2⟩ := R
  generalize lst N bs = q at *
  have H1 := Lib.hid h1; have H2 := Lib.hid h2; have H3 := Lib.hid h3; have H4 := Lib.hid h4; have H5 := Lib.hid h5; have H6 := Lib.hid h6; have H7 := Lib.hid h7; have H8 := Lib.hid h8
  clear h1 h2 h3 h4 h5 h6 h7 h8 hA hB hn hmn
  unfold maxLen at hm hmm
  go_enter Try.func3, Try.ntmps3
  go_wp2_with fail
  have b0 : Below w.heap.size w (w.alloc (.cells #[.int .i64 N, .slice A n c] 24)) := (Below.refl _ _).alloc (Nat.le_refl _) _
  refine (H1.out _ b0).mono ?_
  rintro e w1 ⟨A1, n1, c1, bs1, rfl, hn1, his1, hl1, hA1, hB1, hF1⟩
  dsimp only at *
  have HN1 := Lib.hid hn1; have HI1 := Lib.hid his1; clear hn1 his1
  obtain ⟨k1, hs1, hBw1⟩ := boxes1 hB1
  have k1' := k1.alloc (.cells #[.int .i64 R2.length, .slice A1 n1 c1] 24)
  have x1 : Blk (w1.alloc (.cells #[.int .i64 R2.length, .slice A1 n1 c1] 24)) w1.heap.size 24 #[.int .i64 R2.length, .slice A1 n1 c1] := Blk.new w1 24 _
  have hBa := hBw1.alloc hBw1.size (.cells #[.int .i64 R2.length, .slice A1 n1 c1] 24)
  have y1 : Byt (w1.alloc (.cells #[.int .i64 R2.length, .slice A1 n1 c1] 24)).heap.size (w1.alloc (.cells #[.int .i64 R2.length, .slice A1 n1 c1] 24)) A1 bs1 := (hA1.below ((Below.refl _ _).alloc (Nat.le_refl _) _)).mono (by simp)
  go_wp2_with fail
  refine (H2.out _ hBa).mono ?_
  rintro e w2 ⟨A2, n2, c2, bs2, rfl, hn2, his2, hl2, hA2, hB2, hF2⟩
  dsimp only at *
  have HN2 := Lib.hid hn2; have HI2 := Lib.hid his2; clear hn2 his2
  have k2 := (k1'.below hB2 k1'.lt).alloc (.cells #[.int .i64 R2.length, .slice A2 n2 c2] 24)
  have x2 := (x1.below hB2 x1.lt).alloc (.cells #[.int .i64 R2.length, .slice A2 n2 c2] 24)
  have z2 : Blk (w2.alloc (.cells #[.int .i64 R2.length, .slice A2 n2 c2] 24)) w2.heap.size 24 #[.int .i64 R2.length, .slice A2 n2 c2] := Blk.new w2 24 _
  have hBw2 := hBa.trans (hB2.mono hBa.size)
  have hBb := hBw2.alloc hBw2.size (.cells #[.int .i64 R2.length, .slice A2 n2 c2] 24)
  have y2 : Byt (w2.alloc (.cells #[.int .i64 R2.length, .slice A2 n2 c2] 24)).heap.size (w2.alloc (.cells #[.int .i64 R2.length, .slice A2 n2 c2] 24)) A1 bs1 := ((y1.below hB2).below ((Below.refl _ _).alloc hB2.size _)).mono (by have := hB2.size; simp at *; omega)
  have y3 : Byt (w2.alloc (.cells #[.int .i64 R2.length, .slice A2 n2 c2] 24)).heap.size (w2.alloc (.cells #[.int .i64 R2.length, .slice A2 n2 c2] 24)) A2 bs2 := (hA2.below ((Below.refl _ _).alloc (Nat.le_refl _) _)).mono (by simp)
  obtain rfl : bs1 = bs2 := HI1.out.unique HI2.out
  clear k1 k1' x1 y1 hB1 hB2 hBa hBw1 hBw2 hA1 hA2
  generalize hW : w2.alloc (.cells #[.int .i64 R2.length, .slice A2 n2 c2] 24) = W at *
  obtain ⟨t1, t2, _, _⟩ := k2.two
  go_wp2_with fail
  refine (H3.out _ hBb).mono ?_
  rintro e w3 ⟨lv, rfl, hown3, hB3⟩
  have hBw3 := hBb.trans (hB3.mono hBb.size)
  have k3 := k2.below hB3 k2.lt
  clear t1 t2
  obtain ⟨t1, t2, _, _⟩ := k3.two
  go_wp2_with fail
  refine (H4.out _ hBw3).mono ?_
  rintro e w4 ⟨gf, lb, g, ob, rfl, hent, htells, _, _, hg2, ho2, hB4⟩
  have htold := told_any gf lb g ob 9999 q w4 hll (Nat.le_refl _) hent htells hg2 ho2
  rw [show q.take 9999 = q from List.take_of_length_le (by omega)] at htold
  have HT1 := Lib.hid htold; clear htold hent htells
  have hBw4 := hBw3.trans (hB4.mono hBw3.size)
  have hB34 := hB3.trans (hB4.mono hB3.size)
  have k4 := k3.below hB4 k3.lt
  clear t1 t2
  go_wp2_with fail
  refine HT1.out.mono ?_
  rintro e w5 ⟨v1, rfl, hown5, hB5⟩
  have hBw5 := hBw4.trans (hB5.mono hBw4.size)
  have hB35 := hB34.trans (hB5.mono hB34.size)
  have k5 := k4.below hB5 k4.lt
  obtain ⟨t1, t2, _, _⟩ := k5.two
  go_wp2_with fail
  refine (H4.out _ hBw5).mono ?_
  rintro e w6 ⟨gf', lb', g', ob', rfl, hent, htells, _, _, hg2', ho2', hB6⟩
  have htold := told_any gf' lb' g' ob' most q w6 hll (by omega) hent htells hg2' ho2'
  have HT2 := Lib.hid htold; clear htold hent htells
  have hBw6 := hBw5.trans (hB6.mono hBw5.size)
  have hB36 := hB35.trans (hB6.mono hB35.size)
  clear t1 t2
  go_wp2_with fail
  refine HT2.out.mono ?_
  rintro e w7 ⟨v2, rfl, hown7, hB7⟩
  have hBw7 := hBw6.trans (hB7.mono hBw6.size)
  have hB37 := hB36.trans (hB7.mono hB36.size)
  -- what is known in w7
  have k7 := k2.below hB37 k2.lt
  have x7 := x2.below hB37 x2.lt
  have z7 := z2.below hB37 z2.lt
  have Y2 := Lib.hid ((y2.below hB37).mono hB37.size)
  have Y3 := Lib.hid ((y3.below hB37).mono hB37.size)
  obtain ⟨PA, pc, rfl, hPA⟩ := bools_of_own hown5
  obtain ⟨QA, qc, rfl, hQA⟩ := bools_of_own hown7
  have hB57 : Below w5.heap.size w5 w7 := hB6.trans (hB7.mono hB6.size)
  have HP := Lib.hid ((hPA.below hB57).mono hB57.size)
  have HQ := Lib.hid hQA
  have hB37' : Below w3.heap.size w3 w7 := (hB4.trans (hB5.mono hB4.size)).trans (hB57.mono (by have := hB4.size; have := hB5.size; omega))
  obtain ⟨p1, p2⟩ := near_two k7
  obtain ⟨p5, p6⟩ := near_two x7
  obtain ⟨p7, p8⟩ := near_two z7
  have HBW := Lib.hid hBw7
  have HH5 := fun nw : NearW w7 => near_call (H5.out nw.W (hBw7.trans (nw.h.mono hBw7.size)))
  have HH6 := fun nw : NearW w7 => near_call (H6.out nw.W (hBw7.trans (nw.h.mono hBw7.size)))
  have HH7 := fun nw : NearW w7 => near_call (H7.out nw.W (hBw7.trans (nw.h.mono hBw7.size)))
  have HH8 := fun nw : NearW w7 => near_call (H8.out nw.W (hBw7.trans (nw.h.mono hBw7.size)))
  have hsame := fun nw : NearW w7 => near_call (rsame_any R2.length R2.length A1 A2 n1 n2 c1 c2 bs1 bs1 nw.W HN1.out HN2.out (near_byt Y2.out nw) (near_byt Y3.out nw))
  rw [sameB_self] at hsame
  generalize chk N bs = ck at *
  generalize onesOf q = oq at *
  obtain ⟨tl, htl⟩ : ∃ tl, tl = (q.take most).length := ⟨_, rfl⟩
  have htl2 : tl = min q.length most := by rw [htl, List.length_take, Nat.min_comm]
  have hE2 := fun (nw : NearW w7) (LA : Option Addr) (lc : Nat) (hLA : Bools w7.heap.size w7 LA q) => near_call (bsame_yes QA LA qc lc tl (q.take most) nw.W htl (by unfold maxLen; omega) (near_bools HQ.out nw) (near_bools (hLA.take most) nw))
  have hE1 := fun (nw : NearW w7) (LA : Option Addr) (lc : Nat) (hLA : Bools w7.heap.size w7 LA q) => near_call (bsame_yes PA LA pc lc q.length q nw.W rfl (by unfold maxLen; omega) (near_bools HP.out nw) (near_bools hLA nw))
  rw [← htl]
  have S5 := Lib.hid HH5; have S6 := Lib.hid HH6; have S7 := Lib.hid HH7; have S8 := Lib.hid HH8; have SS := Lib.hid hsame; have E1 := Lib.hid hE1; have E2 := Lib.hid hE2; have TL := Lib.hid htl2
  clear HH5 HH6 HH7 HH8 hsame hE1 hE2 H1 H2 H3 H4 H5 H6 H7 H8 htl htl2 k2 k3 k4 k5 k7 x2 x7 z2 z7 y2 y3 hPA hQA hown5 hown7 hB34 hB35 hB36 hB37 hBw3 hBw4 hBw5 hBw6 hBw7 hB4 hB5 hB6 hB7 hBb b0 hW HT1 HT2
  rcases own_bools hown3 with ⟨rfl, hq0⟩ | ⟨lg, lcap, rfl, hlb, hlg, hlc, hcm, hcell, _⟩
  · have hLA : Bools w7.heap.size w7 none q := fun h => absurd hq0 h
    have LA := Lib.hid hLA
    have hql0 : q.length = 0 := by rw [hq0]; rfl
    clear hLA hown3 hq0
    generalize q.length = ql at *
    subst hql0
    obtain rfl : tl = 0 := by have := TL.out; omega
    have hnm : ¬ most < 0 := by omega
    go_wp2_with fail
    refine wp_region_near (by kernel_rfl) (by kernel_rfl) ?_
    repeat (go_big_quiet_step (first
      | (go_at_call 13; exact near_call (begun_any _))
      | (go_at_call 14; exact S5.out _)
      | (go_at_call 15; exact S6.out _)
      | (go_at_call 16; exact SS.out _)
      | (go_at_call 17; exact S7.out _)
      | (go_at_call 18; exact S8.out _)
      | (go_at_call 19; with_reducible exact E1.out _ _ _ LA.out)
      | (go_at_call 19; with_reducible exact E2.out _ _ _ LA.out)))
    refine wpQuiet_nil ?_
    rintro _ ⟨nw, rfl⟩
    go_wp2
    go_ret
    exact ⟨rfl, HBW.out.trans (nw.h.mono HBW.out.size)⟩
  · have hLA : Bools w7.heap.size w7 (some ⟨lg, 0, none⟩) q := fun _ => ⟨lg, 0, rfl, Nat.lt_of_lt_of_le hlg hB37'.size, fun j hj => by rw [Nat.zero_add]; exact (hB37'.cell (p := ⟨lg, j, none⟩) hlg).trans (hcell j hj)⟩
    have LA := Lib.hid hLA
    clear hLA hcell hown3
    unfold maxLen at hcm
    generalize q.length = ql at *
    by_cases hmq : most < ql
    · obtain rfl : tl = most := by have := TL.out; omega
      have htc : (tl : Int) ≤ (lcap : Int) := by omega
      go_wp2_with fail
      refine wp_region_near (by kernel_rfl) (by kernel_rfl) ?_
      repeat (go_big_quiet_step (first
      | (go_at_call 13; exact near_call (begun_any _))
      | (go_at_call 14; exact S5.out _)
      | (go_at_call 15; exact S6.out _)
      | (go_at_call 16; exact SS.out _)
      | (go_at_call 17; exact S7.out _)
      | (go_at_call 18; exact S8.out _)
      | (go_at_call 19; with_reducible exact E1.out _ _ _ LA.out)
      | (go_at_call 19; with_reducible exact E2.out _ _ _ LA.out)))
      refine wpQuiet_nil ?_
      rintro _ ⟨nw, rfl⟩
      go_wp2
      go_ret
      exact ⟨rfl, HBW.out.trans (nw.h.mono HBW.out.size)⟩
    · obtain rfl : tl = ql := by have := TL.out; omega
      have htc : (tl : Int) ≤ (lcap : Int) := by omega
      go_wp2_with fail
      refine wp_region_near (by kernel_rfl) (by kernel_rfl) ?_
      repeat (go_big_quiet_step (first
      | (go_at_call 13; exact near_call (begun_any _))
      | (go_at_call 14; exact S5.out _)
      | (go_at_call 15; exact S6.out _)
      | (go_at_call 16; exact SS.out _)
      | (go_at_call 17; exact S7.out _)
      | (go_at_call 18; exact S8.out _)
      | (go_at_call 19; with_reducible exact E1.out _ _ _ LA.out)
      | (go_at_call 19; with_reducible exact E2.out _ _ _ LA.out)))
      refine wpQuiet_nil ?_
      rintro _ ⟨nw, rfl⟩
      go_wp2
      go_ret
      exact ⟨rfl, HBW.out.trans (nw.h.mono HBW.out.size)⟩
end Go.Proofs.Ytkiijnhpegbpnaa
