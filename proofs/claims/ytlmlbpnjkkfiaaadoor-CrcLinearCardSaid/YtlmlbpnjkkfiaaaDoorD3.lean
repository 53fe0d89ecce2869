/-
  The law of seals: for all bits, places and patterns Seal, Open and Burst answer as the document says. Conditions: that the bytes can be read, and that the table holds what the program's text lays.
-/
import Derived.Test.YtlmlbpnjkkfiaaaDoorD2
namespace Go.Proofs.YtlmlbpnjkkfiaaaDoor
open Go.RowKit

theorem Byt.on {w w' : World} {A : Option Addr} {bs : List UInt8} (h : Byt w.heap.size w A bs) (hb : Below w.heap.size w w') : Byt w'.heap.size w' A bs := (h.below hb).mono hb.size
theorem Blk.on {w w' : World} {g : Nat} {t : TypeId} {cs : Array Value} (h : Blk w g t cs) (hb : Below w.heap.size w w') : Blk w' g t cs := h.below hb h.lt
theorem Below.al (w : World) (o : Obj) : Below w.heap.size w (w.alloc o) := (Below.refl _ _).alloc (Nat.le_refl _) _
theorem Tab.on {w w' : World} (h : Tab w) (hb : Below w.heap.size w w') : Tab w' := h.below hb (.inl (Nat.le_refl _))
theorem below_stored {w W : World} {n : Nat} (bw : Below n w W) {g : Nat} (hg : n ≤ g) (v0 v1 : Value) : Below n w ((W.setCell ⟨g, 0, none⟩ v0).setCell ⟨g, 1, none⟩ v1) := (bw.setCell (p := ⟨g, 0, none⟩) hg _).setCell (p := ⟨g, 1, none⟩) hg _
theorem Blk.far2 {W : World} {g g' : Nat} {t : TypeId} {cs : Array Value} (h : Blk W g t cs) (hne : g ≠ g') (v0 v1 : Value) : Blk ((W.setCell ⟨g', 0, none⟩ v0).setCell ⟨g', 1, none⟩ v1) g t cs := (h.far (p := ⟨g', 0, none⟩) hne _).far (p := ⟨g', 1, none⟩) hne _
theorem Byt.low2 {W : World} {A : Option Addr} {bs : List UInt8} {F : Nat} (h : Byt W.heap.size W A bs) (hF : Fresh F A bs) {g : Nat} (hg : g < F) (v0 v1 : Value) : Byt ((W.setCell ⟨g, 0, none⟩ v0).setCell ⟨g, 1, none⟩ v1).heap.size ((W.setCell ⟨g, 0, none⟩ v0).setCell ⟨g, 1, none⟩ v1) A bs := by
  have h2 := (h.set_low hF (p := ⟨g, 0, none⟩) hg v0).set_low hF (p := ⟨g, 1, none⟩) hg v1
  simpa using h2
/-- Two answers of one content are the same. -/
theorem same_res {l : List Bool} {A A' : Option Addr} {n n' c c' : Nat} {bs bs' : List UInt8} {w : World} (h : IsBits l bs) (h' : IsBits l bs') (hn : n = bs.length) (hn' : n' = bs'.length) (hA : Byt w.heap.size w A bs) (hA' : Byt w.heap.size w A' bs') :
    Calls Tryd.prog 17 #[.agg #[.int .i64 (l.length : Nat), .slice A n c], .agg #[.int .i64 (l.length : Nat), .slice A' n' c']] w fun e w' => e = .returned (.bool true) ∧ Below w.heap.size w w' := by
  obtain rfl := h.unique h'
  have := rsame_any l.length l.length A A' n n' c c' bs bs w hn hn' hA hA'
  rwa [sameB_self] at this

set_option maxHeartbeats 4000000 in
theorem seals_law (N : Int) (A : Option Addr) (n c : Nat) (bs : List UInt8) (M : Int) (B : Option Addr) (m d : Nat) (us : List UInt8) (at_ : Int) (pat : Nat) (w : World) (hn : n = bs.length) (hm : n ≤ maxLen) (hA : Byt w.heap.size w A bs) (hn2 : m = us.length) (hm2 : m ≤ maxLen) (hB : Byt w.heap.size w B us) (hp : pat < 2 ^ 32) (hT : Tab w) :
    Calls Tryd.prog 4 #[.agg #[.int .i64 N, .slice A n c], .agg #[.int .i64 M, .slice B m d], .int .i64 at_, .int .u32 pat] w fun e w' => e = .returned (.bool true) ∧ Below w.heap.size w w' := by
  have h1 := fun (w1 : World) (h : Below w.heap.size w w1) => seal_any N A n c bs M B m d us w1 hn hm (hA.on h) hn2 hm2 (hB.on h) (hT.on h)
  have h2 := fun (w1 : World) (h : Below w.heap.size w w1) => rseal_any N A n c bs M B m d us w1 hn hm (hA.on h) hn2 hm2 (hB.on h)
  have h3 := fun (w1 : World) (h : Below w.heap.size w w1) => open_any N A n c bs M B m d us w1 hn hm (hA.on h) hn2 hm2 (hB.on h) (hT.on h)
  have h4 := fun (w1 : World) (h : Below w.heap.size w w1) => ropen_any N A n c bs M B m d us w1 hn hm (hA.on h) hn2 hm2 (hB.on h)
  have h5 := fun (w1 : World) (h : Below w.heap.size w w1) => begun_any w1 (hT.on h)
  have h6 := fun (w1 : World) (h : Below w.heap.size w w1) => burst_any N at_ pat A n c bs w1 hn hm (hA.on h) hp
  have h7 := fun (w1 : World) (h : Below w.heap.size w w1) => rburst_any N at_ pat A n c bs w1 hn hm (hA.on h) hp
  generalize sealS N bs M us = R at *
  generalize openS N bs M us = O at *
  generalize burstS N bs at_ pat = P at *
  obtain ⟨R1, R2⟩ := R
  obtain ⟨O1, O2⟩ := O
  obtain ⟨P1, P2⟩ := P
  have H1 := Lib.hid h1; have H2 := Lib.hid h2; have H3 := Lib.hid h3; have H4 := Lib.hid h4; have H5 := Lib.hid h5; have H6 := Lib.hid h6; have H7 := Lib.hid h7
  clear h1 h2 h3 h4 h5 h6 h7 hA hn hB hn2 hT hp
  unfold maxLen at hm hm2
  have k1 : Blk ((w.alloc (.cells #[.int .i64 N, .slice A n c] 32)).alloc (.cells #[.int .i64 M, .slice B m d] 32)) w.heap.size 32 #[.int .i64 N, .slice A n c] := (Blk.new w 32 _).alloc _
  have k2 : Blk ((w.alloc (.cells #[.int .i64 N, .slice A n c] 32)).alloc (.cells #[.int .i64 M, .slice B m d] 32)) (w.heap.size + 1) 32 #[.int .i64 M, .slice B m d] := by simpa using Blk.new (w.alloc (.cells #[.int .i64 N, .slice A n c] 32)) 32 #[.int .i64 M, .slice B m d]
  have bw : Below w.heap.size w ((w.alloc (.cells #[.int .i64 N, .slice A n c] 32)).alloc (.cells #[.int .i64 M, .slice B m d] 32)) := ((Below.refl _ _).alloc (Nat.le_refl _) _).alloc (by simp) _
  go_enter Tryd.func4, Tryd.ntmps4
  obtain ⟨p1, q1, r1, s1⟩ := k1.two
  have l1 := k1.lt
  obtain ⟨p2, q2, r2, s2⟩ := k2.two
  have l2 := k2.lt
  go_wp2_with fail
  refine (H1.out _ bw).mono ?_
  rintro e w1 ⟨A1, n1, c1, bs1, rfl, hn1, his1, hl1, y1, hB1, hF1⟩
  dsimp only at hn1 his1 hl1 y1 hB1 hF1
  have HN1 := Lib.hid hn1; have HI1 := Lib.hid his1; clear hn1 his1
  clear p1 q1 r1 s1 l1 p2 q2 r2 s2 l2
  replace k1 := k1.on hB1
  replace k2 := k2.on hB1
  replace bw := bw.trans (hB1.mono bw.size)
  have al_x1 := Below.al w1 (.cells #[.int .i64 (R2.length : Nat), .slice A1 n1 c1] 32)
  have x1 := Blk.new w1 32 #[.int .i64 (R2.length : Nat), .slice A1 n1 c1]
  replace k1 := k1.on al_x1
  replace k2 := k2.on al_x1
  replace y1 := y1.on al_x1
  replace bw := bw.trans (al_x1.mono bw.size)
  obtain ⟨p3, q3, r3, s3⟩ := k1.two
  have l3 := k1.lt
  obtain ⟨p4, q4, r4, s4⟩ := k2.two
  have l4 := k2.lt
  go_wp2_with fail
  refine (H2.out _ bw).mono ?_
  rintro e w2 ⟨A2, n2, c2, bs2, rfl, hn2, his2, hl2, y2, hB2, hF2⟩
  dsimp only at hn2 his2 hl2 y2 hB2 hF2
  have HN2 := Lib.hid hn2; have HI2 := Lib.hid his2; clear hn2 his2
  clear p3 q3 r3 s3 l3 p4 q4 r4 s4 l4
  replace k1 := k1.on hB2
  replace k2 := k2.on hB2
  replace x1 := x1.on hB2
  replace y1 := y1.on hB2
  replace bw := bw.trans (hB2.mono bw.size)
  have al_x2 := Below.al w2 (.cells #[.int .i64 (R2.length : Nat), .slice A2 n2 c2] 32)
  have x2 := Blk.new w2 32 #[.int .i64 (R2.length : Nat), .slice A2 n2 c2]
  replace k1 := k1.on al_x2
  replace k2 := k2.on al_x2
  replace x1 := x1.on al_x2
  replace y1 := y1.on al_x2
  replace y2 := y2.on al_x2
  replace bw := bw.trans (al_x2.mono bw.size)
  obtain ⟨p5, q5, r5, s5⟩ := k1.two
  have l5 := k1.lt
  obtain ⟨p6, q6, r6, s6⟩ := k2.two
  have l6 := k2.lt
  go_wp2_with fail
  refine (H3.out _ bw).mono ?_
  rintro e w3 ⟨A3, n3, c3, bs3, rfl, hn3, his3, hl3, y3, hB3, hF3⟩
  dsimp only at hn3 his3 hl3 y3 hB3 hF3
  have HN3 := Lib.hid hn3; have HI3 := Lib.hid his3; clear hn3 his3
  clear p5 q5 r5 s5 l5 p6 q6 r6 s6 l6
  replace k1 := k1.on hB3
  replace k2 := k2.on hB3
  replace x1 := x1.on hB3
  replace x2 := x2.on hB3
  replace y1 := y1.on hB3
  replace y2 := y2.on hB3
  replace bw := bw.trans (hB3.mono bw.size)
  have al_x3 := Below.al w3 (.cells #[.int .i64 (O2.length : Nat), .slice A3 n3 c3] 32)
  have x3 := Blk.new w3 32 #[.int .i64 (O2.length : Nat), .slice A3 n3 c3]
  replace k1 := k1.on al_x3
  replace k2 := k2.on al_x3
  replace x1 := x1.on al_x3
  replace x2 := x2.on al_x3
  replace y1 := y1.on al_x3
  replace y2 := y2.on al_x3
  replace y3 := y3.on al_x3
  replace bw := bw.trans (al_x3.mono bw.size)
  obtain ⟨p7, q7, r7, s7⟩ := k1.two
  have l7 := k1.lt
  obtain ⟨p8, q8, r8, s8⟩ := k2.two
  have l8 := k2.lt
  go_wp2_with fail
  refine (H4.out _ bw).mono ?_
  rintro e w4 ⟨A4, n4, c4, bs4, rfl, hn4, his4, hl4, y4, hB4, hF4⟩
  dsimp only at hn4 his4 hl4 y4 hB4 hF4
  have HN4 := Lib.hid hn4; have HI4 := Lib.hid his4; clear hn4 his4
  clear p7 q7 r7 s7 l7 p8 q8 r8 s8 l8
  replace k1 := k1.on hB4
  replace k2 := k2.on hB4
  replace x1 := x1.on hB4
  replace x2 := x2.on hB4
  replace x3 := x3.on hB4
  replace y1 := y1.on hB4
  replace y2 := y2.on hB4
  replace y3 := y3.on hB4
  replace bw := bw.trans (hB4.mono bw.size)
  have al_x4 := Below.al w4 (.cells #[.int .i64 (O2.length : Nat), .slice A4 n4 c4] 32)
  have x4 := Blk.new w4 32 #[.int .i64 (O2.length : Nat), .slice A4 n4 c4]
  replace k1 := k1.on al_x4
  replace k2 := k2.on al_x4
  replace x1 := x1.on al_x4
  replace x2 := x2.on al_x4
  replace x3 := x3.on al_x4
  replace y1 := y1.on al_x4
  replace y2 := y2.on al_x4
  replace y3 := y3.on al_x4
  replace y4 := y4.on al_x4
  replace bw := bw.trans (al_x4.mono bw.size)
  go_wp2_with fail
  refine (H5.out _ bw).mono ?_
  rintro e w5 ⟨rfl, hB5⟩
  try dsimp only
  replace k1 := k1.on hB5
  replace k2 := k2.on hB5
  replace x1 := x1.on hB5
  replace x2 := x2.on hB5
  replace x3 := x3.on hB5
  replace x4 := x4.on hB5
  replace y1 := y1.on hB5
  replace y2 := y2.on hB5
  replace y3 := y3.on hB5
  replace y4 := y4.on hB5
  replace bw := bw.trans (hB5.mono bw.size)
  obtain ⟨p9, q9, r9, s9⟩ := x1.two
  have l9 := x1.lt
  obtain ⟨p10, q10, r10, s10⟩ := x2.two
  have l10 := x2.lt
  go_wp2_with fail
  refine (same_res HI1.out HI2.out HN1.out HN2.out y1 y2).mono ?_
  rintro e w6 ⟨rfl, hB6⟩
  try dsimp only
  clear p9 q9 r9 s9 l9 p10 q10 r10 s10 l10
  replace k1 := k1.on hB6
  replace k2 := k2.on hB6
  replace x1 := x1.on hB6
  replace x2 := x2.on hB6
  replace x3 := x3.on hB6
  replace x4 := x4.on hB6
  replace y1 := y1.on hB6
  replace y2 := y2.on hB6
  replace y3 := y3.on hB6
  replace y4 := y4.on hB6
  replace bw := bw.trans (hB6.mono bw.size)
  obtain ⟨p11, q11, r11, s11⟩ := x3.two
  have l11 := x3.lt
  obtain ⟨p12, q12, r12, s12⟩ := x4.two
  have l12 := x4.lt
  go_wp2_with fail
  refine (same_res HI3.out HI4.out HN3.out HN4.out y3 y4).mono ?_
  rintro e w7 ⟨rfl, hB7⟩
  try dsimp only
  clear p11 q11 r11 s11 l11 p12 q12 r12 s12 l12
  replace k1 := k1.on hB7
  replace k2 := k2.on hB7
  replace x1 := x1.on hB7
  replace x2 := x2.on hB7
  replace x3 := x3.on hB7
  replace x4 := x4.on hB7
  replace y1 := y1.on hB7
  replace y2 := y2.on hB7
  replace y3 := y3.on hB7
  replace y4 := y4.on hB7
  replace bw := bw.trans (hB7.mono bw.size)
  clear x3 x4 y1 y2 y3 y4
  have g1 : w.heap.size + 2 ≤ w1.heap.size := by have := hB1.size; simp at this; omega
  have g2 : w1.heap.size + 1 ≤ w2.heap.size := by have := hB2.size; simp at this; omega
  obtain ⟨p13, q13, r13, s13⟩ := k1.two
  have l13 := k1.lt
  have lb_x1 := x1.lt
  have lb_x2 := x2.lt
  go_wp2_with fail
  refine (H6.out _ bw).mono ?_
  rintro e w8 ⟨A8, n8, c8, bs8, rfl, hn8, his8, hl8, y8, hB8, hF8⟩
  dsimp only at hn8 his8 hl8 y8 hB8 hF8
  have HN8 := Lib.hid hn8; have HI8 := Lib.hid his8; clear hn8 his8
  clear p13 q13 r13 s13 l13
  replace k1 := k1.on hB8
  replace k2 := k2.on hB8
  replace x1 := x1.on hB8
  replace x2 := x2.on hB8
  replace bw := bw.trans (hB8.mono bw.size)
  obtain ⟨p14, q14, r14, s14⟩ := x1.two
  have l14 := x1.lt
  obtain ⟨p15, q15, r15, s15⟩ := k1.two
  have l15 := k1.lt
  go_wp2_with fail
  clear p14 q14 r14 s14 l14 p15 q15 r15 s15 l15
  replace k1 := k1.far2 (g' := w1.heap.size) (by omega) (.int .i64 (P2.length : Nat)) (.slice A8 n8 c8)
  replace k2 := k2.far2 (g' := w1.heap.size) (by omega) (.int .i64 (P2.length : Nat)) (.slice A8 n8 c8)
  replace x1 := x1.put2 (.int .i64 (P2.length : Nat)) (.slice A8 n8 c8)
  replace x2 := x2.far2 (g' := w1.heap.size) (by omega) (.int .i64 (P2.length : Nat)) (.slice A8 n8 c8)
  replace y8 := y8.low2 hF8 (g := w1.heap.size) (by first | omega | (simp; omega)) (.int .i64 (P2.length : Nat)) (.slice A8 n8 c8)
  replace bw := below_stored bw (g := w1.heap.size) (by omega) (.int .i64 (P2.length : Nat)) (.slice A8 n8 c8)
  have g3 := hB8.size
  refine (H7.out _ bw).mono ?_
  rintro e w9 ⟨A9, n9, c9, bs9, rfl, hn9, his9, hl9, y9, hB9, hF9⟩
  dsimp only at hn9 his9 hl9 y9 hB9 hF9
  have HN9 := Lib.hid hn9; have HI9 := Lib.hid his9; clear hn9 his9
  replace k1 := k1.on hB9
  replace k2 := k2.on hB9
  replace x1 := x1.on hB9
  replace x2 := x2.on hB9
  replace y8 := y8.on hB9
  replace bw := bw.trans (hB9.mono bw.size)
  obtain ⟨p16, q16, r16, s16⟩ := x2.two
  have l16 := x2.lt
  obtain ⟨p17, q17, r17, s17⟩ := x1.two
  have l17 := x1.lt
  go_wp2_with fail
  clear p16 q16 r16 s16 l16 p17 q17 r17 s17 l17
  replace k1 := k1.far2 (g' := w2.heap.size) (by omega) (.int .i64 (P2.length : Nat)) (.slice A9 n9 c9)
  replace k2 := k2.far2 (g' := w2.heap.size) (by omega) (.int .i64 (P2.length : Nat)) (.slice A9 n9 c9)
  replace x1 := x1.far2 (g' := w2.heap.size) (by omega) (.int .i64 (P2.length : Nat)) (.slice A9 n9 c9)
  replace x2 := x2.put2 (.int .i64 (P2.length : Nat)) (.slice A9 n9 c9)
  replace y8 := y8.low2 hF8 (g := w2.heap.size) (by first | omega | (simp; omega)) (.int .i64 (P2.length : Nat)) (.slice A9 n9 c9)
  replace y9 := y9.low2 hF9 (g := w2.heap.size) (by first | omega | (simp; omega)) (.int .i64 (P2.length : Nat)) (.slice A9 n9 c9)
  replace bw := below_stored bw (g := w2.heap.size) (by omega) (.int .i64 (P2.length : Nat)) (.slice A9 n9 c9)
  refine (same_res HI8.out HI9.out HN8.out HN9.out y8 y9).mono ?_
  rintro e w10 ⟨rfl, hB10⟩
  try dsimp only
  replace k1 := k1.on hB10
  replace k2 := k2.on hB10
  replace x1 := x1.on hB10
  replace x2 := x2.on hB10
  replace y8 := y8.on hB10
  replace y9 := y9.on hB10
  replace bw := bw.trans (hB10.mono bw.size)
  go_wp2
  go_ret
  exact ⟨rfl, bw⟩
end Go.Proofs.YtlmlbpnjkkfiaaaDoor
