/-
  What stands behind two numbers that were put is as the document says. No condition.
-/
import Derived.Test.YtkiijnhpegbpnaaE7
namespace Go.Proofs.Ytkiijnhpegbpnaa
open Go.RowKit

theorem goodB_nil : goodB 0 [] = true := by decide
theorem put_first : putS 0 [] 5 4 = (0, [false, true, false, true]) := by decide
theorem put_more {l : List Bool} {bs : List UInt8} (h : IsBits l bs) (hl : l.length ≤ 4096) (v : Nat) (width : Int) :
    putS l.length bs v width = (if (0 ≤ width ∧ width ≤ 64) ∧ v / 2 ^ width.toNat = 0 then if 4096 - (l.length : Int) < width then (3, []) else (0, l ++ numBits v width.toNat) else (2, [])) := by
  unfold putS
  rw [if_pos (isBits_good h hl), isBits_listOf h]
theorem get_more {l : List Bool} {bs : List UInt8} (h : IsBits l bs) (hl : l.length ≤ 4096) (at_ width : Int) :
    getS l.length bs at_ width = (if (0 ≤ width ∧ width ≤ 64) ∧ 0 ≤ at_ ∧ at_ ≤ (l.length : Int) - width then (0, numOf ((l.drop at_.toNat).take width.toNat)) else (2, 0)) := by
  unfold getS
  rw [if_pos (isBits_good h hl), isBits_listOf h]
theorem lst_more {l : List Bool} {bs : List UInt8} (h : IsBits l bs) (hl : l.length ≤ 4096) : lst l.length bs = l := by
  unfold lst
  rw [if_pos (isBits_good h hl), isBits_listOf h]

theorem bytes_small {l : List Bool} {bs : List UInt8} (h : IsBits l bs) (hl : l.length ≤ 4096) : bs.length ≤ maxLen := by
  have := h.1; unfold maxLen; omega

set_option maxRecDepth 100000 in
set_option maxHeartbeats 1000000 in
theorem begun_any (w : World) : Calls Try.prog 13 #[] w fun e w' => e = .returned (.bool true) ∧ Below w.heap.size w w' := by
  go_enter Try.func13, Try.ntmps13
  go_wp2_with fail
  have h1 := put_any 0 4 5 none 0 0 [] w rfl (by simp [maxLen]) (fun h => absurd rfl h) (by decide)
  rw [put_first] at h1
  refine h1.mono ?_
  clear h1
  rintro e w1 ⟨A1, n1, c1, bs1, rfl, hn1, hi1, _, hA1, hB1, _⟩
  have h2 := put_any 4 1 1 A1 n1 c1 bs1 (w1.alloc (.cells #[.int .i64 4, .slice A1 n1 c1] 24)) hn1 (by rw [hn1]; exact bytes_small hi1 (by simp)) ((hA1.below ((Below.refl _ _).alloc (Nat.le_refl _) _)).mono (by simp)) (by decide)
  have h2' := put_more hi1 (by simp) 1 1
  have h2'' : putS 4 bs1 1 1 = (0, [false, true, false, true, true]) := h2'.trans (by decide)
  rw [h2''] at h2
  clear h2' h2''
  have H2 := Lib.hid h2; have HN1 := Lib.hid hn1; have HI1 := Lib.hid hi1; clear h2 hn1 hi1
  go_wp2_with fail
  refine H2.out.mono ?_
  clear H2
  rintro e w2 ⟨A2, n2, c2, bs2, rfl, hn2, hi2, _, hA2, hB2, _⟩
  have h3 := get_any 5 1 3 A2 n2 c2 bs2 (w2.alloc (.cells #[.int .i64 5, .slice A2 n2 c2] 24)) hn2 (by rw [hn2]; exact bytes_small hi2 (by simp)) ((hA2.below ((Below.refl _ _).alloc (Nat.le_refl _) _)).mono (by simp))
  have h3' : getS 5 bs2 1 3 = (0, 5) := (get_more hi2 (by simp) 1 3).trans (by decide)
  rw [h3'] at h3
  clear h3'
  have H3 := Lib.hid h3; have HN2 := Lib.hid hn2; have HI2 := Lib.hid hi2; clear h3 hn2 hi2
  go_wp2_with fail
  refine H3.out.mono ?_
  rintro e w3 ⟨rfl, hB3⟩
  have k3 : Blk w3 w2.heap.size 24 #[.int .i64 5, .slice A2 n2 c2] := (Blk.new w2 24 _).below hB3 (by simp)
  obtain ⟨d1, d2, f1, f2⟩ := k3.two
  have hB23 : Below w2.heap.size w2 w3 := ((Below.refl _ _).alloc (Nat.le_refl _) _).trans (hB3.mono (by simp))
  have h4 := text_any 5 A2 n2 c2 bs2 w3 HN2.out (by rw [HN2.out]; exact bytes_small HI2.out (by simp)) ((hA2.below hB23).mono hB23.size)
  have h4' : lst 5 bs2 = [false, true, false, true, true] := lst_more HI2.out (by simp)
  rw [h4'] at h4
  have h4'' : textOf [false, true, false, true, true] = ⟨#[48, 49, 48, 49, 49]⟩ := by decide
  rw [h4''] at h4
  clear h4' h4''
  have H4 := Lib.hid h4; clear h4
  go_wp2_with fail
  refine H4.out.mono ?_
  rintro e w4 ⟨rfl, hB4⟩
  go_wp2
  go_ret
  have hB2w : Below w1.heap.size w1 w2 := ((Below.refl _ _).alloc (Nat.le_refl _) _).trans (hB2.mono (by simp))
  exact ⟨rfl, ((hB1.trans (hB2w.mono hB1.size)).trans (hB23.mono (by have := hB1.size; have := hB2w.size; omega))).trans (hB4.mono (by have := hB1.size; have := hB2w.size; have := hB23.size; omega))⟩
end Go.Proofs.Ytkiijnhpegbpnaa
