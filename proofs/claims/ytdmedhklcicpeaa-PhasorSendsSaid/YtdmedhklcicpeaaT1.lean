/-
  The document's Receive. Conditions: rows that can be read, of up to 65,536 samples.
-/
import Derived.Test.YtdmedhklcicpeaaS9
namespace Go.Proofs.Ytdmedhklcicpeaa
open Go.RowKit

/-- Receive, by the document. -/
def receiveS (l : List Sp) : Int × List Bool := if (findS l 0).2.2 = 0 then decodeS l (findS l 0).1 (findS l 0).2.1 else ((findS l 0).2.2, [])

set_option maxRecDepth 4000 in
set_option maxHeartbeats 2000000 in
theorem rreceive_any (A : Option Addr) (n c : Nat) (l : List Sp) (w : World) (hn : n = l.length) (hm : n ≤ 65536) (hcap : n ≤ c) (hA : Smps w.heap.size w A l) :
    Calls Try.prog 31 #[.slice A n c] w (Res w (receiveS l)) := by
  have h1 := fun (w1 : World) (h : Below w.heap.size w w1) => rfind_any A n c l 0 w1 hn hm hcap (hA.on h)
  have h2 := fun (w1 : World) (at_ q : Int) (h : Below w.heap.size w w1) => rdecode_any A n c l at_ q w1 hn hm hcap (hA.on h)
  have k0 := Blk.new w 24 #[.int .i64 0, .slice none 0 0]
  have b0 : Below w.heap.size w (w.alloc (.cells #[.int .i64 0, .slice none 0 0] 24)) := (Below.refl _ _).alloc (Nat.le_refl _) _
  unfold receiveS
  generalize findS l 0 = F at *
  obtain ⟨F1, F2, F3⟩ := F
  dsimp only at *
  have H1 := Lib.hid h1; have H2 := Lib.hid h2
  clear h1 h2 hA hn
  by_cases h0 : F3 = 0
  · rw [if_pos h0]
    subst h0
    have hde := fun (w1 : World) (h : Below w.heap.size w w1) => H2.out w1 F1 F2 h
    generalize decodeS l F1 F2 = R at *
    have HDE := Lib.hid hde; clear hde
    go_enter Try.func31, Try.ntmps31
    go_wp2_with fail
    refine (H1.out _ b0).mono ?_
    rintro e w1 ⟨rfl, hB1⟩
    replace k0 := k0.on hB1
    replace b0 := b0.trans (hB1.mono b0.size)
    have hlt := k0.lt
    go_wp2_with fail
    refine (HDE.out _ b0).mono ?_
    rintro e w2 ⟨A3, n3, c3, bs3, rfl, hn3, his3, hl3, hA3, hB3, hF3⟩
    have HN3 := Lib.hid hn3; clear hn3
    replace k0 := k0.on hB3
    obtain ⟨c1, c2, f1, f2⟩ := k0.two
    have hlt2 := k0.lt
    go_wp2
    exact bodyPost_ret (v := .tuple #[.agg #[.int .i64 R.2.length, .slice A3 n3 c3], .int .i64 R.1]) (by simp [results, Try.results31, go_sem, c1, c2]) rfl
      (res_stored HN3.out his3 hl3 hA3 b0 hB3 hF3 (Nat.le_refl _) hlt)
  · rw [if_neg h0]
    have hne : (F3 == 0) = false := by simpa using h0
    clear h0
    go_enter Try.func31, Try.ntmps31
    go_wp2_with fail
    refine (H1.out _ b0).mono ?_
    rintro e w1 ⟨rfl, hB1⟩
    replace k0 := k0.on hB1
    replace b0 := b0.trans (hB1.mono b0.size)
    obtain ⟨c1, c2, f1, f2⟩ := k0.two
    have hlt := k0.lt
    go_wp2
    exact bodyPost_ret (v := .tuple #[.agg #[.int .i64 0, .slice none 0 0], .int .i64 F3]) (by simp [results, Try.results31, go_sem, c1, c2]) rfl (res_err F3 ((b0.setCell (p := ⟨w.heap.size, 0, none⟩) (Nat.le_refl _) _).setCell (p := ⟨w.heap.size, 1, none⟩) (Nat.le_refl _) _))
end Go.Proofs.Ytdmedhklcicpeaa
