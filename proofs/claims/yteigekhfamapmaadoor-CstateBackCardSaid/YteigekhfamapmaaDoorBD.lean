/-
  The statement of bits there and back of package cstate. Condition: the array of widths holds what the program's text lays.
-/
import Derived.Test.YteigekhfamapmaaDoorBC
import Derived.Test.YteigekhfamapmaaDoorBE
namespace Go.Proofs.YteigekhfamapmaaDoor
open Go.RowKit

theorem bitsC_yes {c : CS} (h : mayC c 8 = true) : bitsC c = (0, bitsOf c) := by unfold bitsC; rw [if_pos h]
theorem bitsC_no {c : CS} (h : ¬ mayC c 8 = true) : bitsC c = (40, []) := by unfold bitsC; rw [if_neg h]
/-- A state's bits are read as it. -/
theorem read_back {s : CS} {A : Option Addr} {n c : Nat} {bs : List UInt8} {w : World} (hs : mayC s 8 = true) (hi : IsBits (bitsOf s) bs) (hn : n = bs.length) (hA : Byt w.heap.size w A bs) (hT : WTab w) :
    Calls Tryd.prog 9 #[.agg #[.int .i64 24, .slice A n c]] w (ResC w (0, s)) := by
  have h := readC_any 24 A n c bs w hn (by rw [hn]; exact bytes_small hi (by rw [bitsOf_length]; decide)) hA hT
  rwa [read_bits hs hi] at h
theorem bits_read {N : Int} {bs : List UInt8} (h : (readC N bs).1 = 0) : bitsC (readC N bs).2 = (0, bitsOf (readC N bs).2) := by
  obtain ⟨-, -, hm, hr⟩ := read_some h
  rw [hr]
  exact bitsC_yes hm
/-- The bits of what was read are the bits that were read. -/
theorem same_back {N : Int} {A A1 : Option Addr} {n c n1 c1 : Nat} {bs bs1 : List UInt8} {w : World} (hr : (readC N bs).1 = 0) (hi : IsBits (bitsOf (readC N bs).2) bs1) (hn1 : n1 = bs1.length) (hn : n = bs.length) (hA1 : Byt w.heap.size w A1 bs1) (hA : Byt w.heap.size w A bs) :
    Calls Tryd.prog 14 #[.agg #[.int .i64 24, .slice A1 n1 c1], .agg #[.int .i64 N, .slice A n c]] w fun e w' => e = .returned (.bool true) ∧ Below w.heap.size w w' := by
  obtain ⟨hg, rfl, hm, he⟩ := read_some hr
  rw [he] at hi
  have hl : (listOf 24 bs).length = 24 := by have := good_length hg; omega
  have hi2 := good_isBits hg
  rw [show bitsOf (0, fieldsOf (listOf 24 bs)).2 = listOf 24 bs from bits_fields hl] at hi
  obtain rfl := hi.unique hi2
  have := rsame_any 24 24 A1 A n1 n c1 c bs1 bs1 w hn1 hn hA1 hA
  rwa [sameB_self] at this
/-- Are the bits of two states the same? -/
theorem same_two {s t : CS} {A A' : Option Addr} {n n' c c' : Nat} {bs bs' : List UInt8} {w : World} (hs : mayC s 8 = true) (ht : mayC t 8 = true) (h : IsBits (bitsOf s) bs) (h' : IsBits (bitsOf t) bs') (hn : n = bs.length) (hn' : n' = bs'.length) (hA : Byt w.heap.size w A bs) (hA' : Byt w.heap.size w A' bs') :
    (s = t → Calls Tryd.prog 14 #[.agg #[.int .i64 24, .slice A n c], .agg #[.int .i64 24, .slice A' n' c']] w fun e w' => e = .returned (.bool true) ∧ Below w.heap.size w w') ∧
    (s ≠ t → Calls Tryd.prog 14 #[.agg #[.int .i64 24, .slice A n c], .agg #[.int .i64 24, .slice A' n' c']] w fun e w' => e = .returned (.bool false) ∧ Below w.heap.size w w') := by
  have hx := rsame_any 24 24 A A' n n' c c' bs bs' w hn hn' hA hA'
  obtain ⟨h1, h2⟩ := same_states hs ht h h'
  exact ⟨fun e => by rwa [h1 e] at hx, fun e => by rwa [h2 e] at hx⟩

/-- Two states that are not the same. -/
theorem agg_ne {s0 s1 s2 s3 s4 t0 t1 t2 t3 t4 : Int} (h : CS.mk s0 s1 s2 s3 s4 ≠ CS.mk t0 t1 t2 t3 t4) (W : World) : (binOp .eql 23 (.agg #[.int .i64 s0, .int .i64 s1, .int .i64 s2, .int .i64 s3, .int .i64 s4]) (.agg #[.int .i64 t0, .int .i64 t1, .int .i64 t2, .int .i64 t3, .int .i64 t4])).run Tryd.prog W = .ok (.bool false) W := by
  have hx : ¬ (s0 = t0 ∧ s1 = t1 ∧ s2 = t2 ∧ s3 = t3 ∧ s4 = t4) := fun ⟨a, b, c, d, e⟩ => h (by rw [a, b, c, d, e])
  clear h
  by_cases h0 : s0 = t0
  · subst h0
    by_cases h1 : s1 = t1
    · subst h1
      by_cases h2 : s2 = t2
      · subst h2
        by_cases h3 : s3 = t3
        · subst h3
          have h4 : s4 ≠ t4 := fun h => hx ⟨rfl, rfl, rfl, rfl, h⟩
          simp [go_sem, h4]
        · simp [go_sem, h3]
      · simp [go_sem, h2]
    · simp [go_sem, h1]
  · simp [go_sem, h0]
theorem keepT {W : World} {g3 g4 g7 g9 : Nat} {s0 s1 s2 s3 s4 t0 t1 t2 t3 t4 L1 S1 L2 S2 : Value} {t7 : TypeId}
    (k3 : Blk W g3 23 #[s0, s1, s2, s3, s4]) (k4 : Blk W g4 23 #[t0, t1, t2, t3, t4]) (k7 : Blk W g7 t7 #[L1, S1]) (k9 : Blk W g9 t7 #[L2, S2]) :
    W.cell? ⟨g3, 0, none⟩ = some s0 ∧ W.cell? ⟨g3, 1, none⟩ = some s1 ∧ W.cell? ⟨g3, 2, none⟩ = some s2 ∧ W.cell? ⟨g3, 3, none⟩ = some s3 ∧ W.cell? ⟨g3, 4, none⟩ = some s4 ∧ W.cell? ⟨g4, 0, none⟩ = some t0 ∧ W.cell? ⟨g4, 1, none⟩ = some t1 ∧ W.cell? ⟨g4, 2, none⟩ = some t2 ∧ W.cell? ⟨g4, 3, none⟩ = some t3 ∧ W.cell? ⟨g4, 4, none⟩ = some t4 ∧ W.cell? ⟨g7, 0, none⟩ = some L1 ∧ W.cell? ⟨g7, 1, none⟩ = some S1 ∧ W.cell? ⟨g9, 0, none⟩ = some L2 ∧ W.cell? ⟨g9, 1, none⟩ = some S2 := by
  obtain ⟨⟨a0, a1, a2, a3, a4⟩, -⟩ := k3.five
  obtain ⟨⟨b0, b1, b2, b3, b4⟩, -⟩ := k4.five
  obtain ⟨d0, d1, -, -⟩ := k7.two
  obtain ⟨e0, e1, -, -⟩ := k9.two
  exact ⟨a0, a1, a2, a3, a4, b0, b1, b2, b3, b4, d0, d1, e0, e1⟩

set_option maxRecDepth 8000 in
set_option maxHeartbeats 8000000 in
theorem back_law (s t : CS) (N : Int) (A : Option Addr) (n c : Nat) (bs : List UInt8) (w : World) (hn : n = bs.length) (hm : n ≤ maxLen) (hA : Byt w.heap.size w A bs) (hT : WTab w) :
    Calls Tryd.prog 5 #[.agg s.cells, .agg t.cells, .agg #[.int .i64 N, .slice A n c]] w fun e w' => e = .returned (.bool true) ∧ Below w.heap.size w w' := by
  have h1 := fun (W : World) (h : Below w.heap.size w W) => bitsC_any s W (hT.on h)
  have h2 := fun (W : World) (h : Below w.heap.size w W) => bitsC_any t W (hT.on h)
  have h3 := fun (ms : mayC s 8 = true) (A1 : Option Addr) (n1 c1 : Nat) (bs1 : List UInt8) (hi : IsBits (bitsOf s) bs1) (hn1 : n1 = bs1.length) (W : World) (h : Below w.heap.size w W) (hA1 : Byt W.heap.size W A1 bs1) => read_back (c := c1) ms hi hn1 hA1 (hT.on h)
  have h4 := fun (W : World) (h : Below w.heap.size w W) => readC_any N A n c bs W hn hm (hA.on h) (hT.on h)
  have h5 := fun (W : World) (h : Below w.heap.size w W) => begun_any W (hT.on h)
  have h6 := fun (W : World) (h : Below w.heap.size w W) => bitsC_any (readC N bs).2 W (hT.on h)
  have h7 := fun (hr : (readC N bs).1 = 0) (A1 : Option Addr) (n1 c1 : Nat) (bs1 : List UInt8) (hi : IsBits (bitsOf (readC N bs).2) bs1) (hn1 : n1 = bs1.length) (W : World) (h : Below w.heap.size w W) (hA1 : Byt W.heap.size W A1 bs1) => same_back (A := A) (n := n) (c := c) (c1 := c1) hr hi hn1 hn hA1 (hA.on h)
  have h8 := fun (hr : (readC N bs).1 = 0) => bits_read hr
  have h9 := fun (ms : mayC s 8 = true) (mt : mayC t 8 = true) (A1 A2 : Option Addr) (n1 n2 c1 c2 : Nat) (bs1 bs2 : List UInt8) (i1 : IsBits (bitsOf s) bs1) (i2 : IsBits (bitsOf t) bs2) (hn1 : n1 = bs1.length) (hn2 : n2 = bs2.length) (W : World) (y1 : Byt W.heap.size W A1 bs1) (y2 : Byt W.heap.size W A2 bs2) => same_two (c := c1) (c' := c2) ms mt i1 i2 hn1 hn2 y1 y2
  have q1 := fun (h : mayC s 8 = true) => bitsC_yes h
  have q2 := fun (h : ¬ mayC s 8 = true) => bitsC_no h
  have q3 := fun (h : mayC t 8 = true) => bitsC_yes h
  have q4 := fun (h : ¬ mayC t 8 = true) => bitsC_no h
  have q5 := bitsOf_length s
  have q6 := bitsOf_length t
  have q7 := bitsOf_length (readC N bs).2
  generalize readC N bs = R at *
  obtain ⟨er, r⟩ := R
  dsimp only at h6 h7 h8 q7
  generalize bitsC s = Rs at *
  generalize bitsC t = Rt at *
  generalize bitsC r = Rr at *
  generalize bitsOf s = Ls at *
  generalize bitsOf t = Lt at *
  generalize bitsOf r = Lr at *
  obtain ⟨es, Ms⟩ := Rs
  obtain ⟨et, Mt⟩ := Rt
  generalize hps : mayC s 8 = ps at *
  generalize hpt : mayC t 8 = pt at *
  clear hps hpt
  have hst : s = t ∨ s ≠ t := Classical.em _
  have H9 := Lib.hid h9; clear h9
  have hss : s.cells = t.cells ∨ s.cells ≠ t.cells := Classical.em _
  obtain ⟨s0, s1, s2, s3, s4⟩ := s
  obtain ⟨t0, t1, t2, t3, t4⟩ := t
  obtain ⟨r0, r1, r2, r3, r4⟩ := r
  unfold ResC at h3 h4
  unfold CS.cells at *
  dsimp only at *
  clear hss
  have H1 := Lib.hid h1; have H2 := Lib.hid h2; have H3 := Lib.hid h3; have H4 := Lib.hid h4; have H5 := Lib.hid h5; have H6 := Lib.hid h6; have H7 := Lib.hid h7; have H8 := Lib.hid h8
  have Q1 := Lib.hid q1; have Q2 := Lib.hid q2; have Q3 := Lib.hid q3; have Q4 := Lib.hid q4; have Q5 := Lib.hid q5; have Q6 := Lib.hid q6; have Q7 := Lib.hid q7; have HST := Lib.hid hst
  clear h1 h2 h3 h4 h5 h6 h7 h8 q1 q2 q3 q4 q5 q6 q7 hn hm hA hT hst
  have k3 : Blk (((w.alloc (.cells #[.int .i64 s0, .int .i64 s1, .int .i64 s2, .int .i64 s3, .int .i64 s4] 23)).alloc (.cells #[.int .i64 t0, .int .i64 t1, .int .i64 t2, .int .i64 t3, .int .i64 t4] 23)).alloc (.cells #[.int .i64 N, .slice A n c] 26)) w.heap.size 23 #[.int .i64 s0, .int .i64 s1, .int .i64 s2, .int .i64 s3, .int .i64 s4] := ((Blk.new w _ _).alloc _).alloc _
  have k4 : Blk (((w.alloc (.cells #[.int .i64 s0, .int .i64 s1, .int .i64 s2, .int .i64 s3, .int .i64 s4] 23)).alloc (.cells #[.int .i64 t0, .int .i64 t1, .int .i64 t2, .int .i64 t3, .int .i64 t4] 23)).alloc (.cells #[.int .i64 N, .slice A n c] 26)) (w.heap.size + 1) 23 #[.int .i64 t0, .int .i64 t1, .int .i64 t2, .int .i64 t3, .int .i64 t4] := by simpa using (Blk.new (w.alloc (.cells #[.int .i64 s0, .int .i64 s1, .int .i64 s2, .int .i64 s3, .int .i64 s4] 23)) 23 #[.int .i64 t0, .int .i64 t1, .int .i64 t2, .int .i64 t3, .int .i64 t4]).alloc (.cells #[.int .i64 N, .slice A n c] 26)
  have k5 : Blk (((w.alloc (.cells #[.int .i64 s0, .int .i64 s1, .int .i64 s2, .int .i64 s3, .int .i64 s4] 23)).alloc (.cells #[.int .i64 t0, .int .i64 t1, .int .i64 t2, .int .i64 t3, .int .i64 t4] 23)).alloc (.cells #[.int .i64 N, .slice A n c] 26)) (w.heap.size + 1 + 1) 26 #[.int .i64 N, .slice A n c] := by simpa using Blk.new ((w.alloc (.cells #[.int .i64 s0, .int .i64 s1, .int .i64 s2, .int .i64 s3, .int .i64 s4] 23)).alloc (.cells #[.int .i64 t0, .int .i64 t1, .int .i64 t2, .int .i64 t3, .int .i64 t4] 23)) 26 #[.int .i64 N, .slice A n c]
  have bc : Below w.heap.size w (((w.alloc (.cells #[.int .i64 s0, .int .i64 s1, .int .i64 s2, .int .i64 s3, .int .i64 s4] 23)).alloc (.cells #[.int .i64 t0, .int .i64 t1, .int .i64 t2, .int .i64 t3, .int .i64 t4] 23)).alloc (.cells #[.int .i64 N, .slice A n c] 26)) := (((Below.refl _ _).alloc (Nat.le_refl _) _).alloc (by simp) _).alloc (by simp; omega) _
  go_enter Tryd.func5, Tryd.ntmps5
  go_wp2_with fail
  generalize ((w.alloc (.cells #[.int .i64 s0, .int .i64 s1, .int .i64 s2, .int .i64 s3, .int .i64 s4] 23)).alloc (.cells #[.int .i64 t0, .int .i64 t1, .int .i64 t2, .int .i64 t3, .int .i64 t4] 23)).alloc (.cells #[.int .i64 N, .slice A n c] 26) = w0 at *
  refine (H1.out _ bc).mono ?_
  rintro e w1 ⟨A1, n1, c1, bs1, rfl, hn1, his1, hl1, y1, hC, -⟩
  dsimp only at his1 hl1 ⊢
  have HN1 := Lib.hid hn1; have HI1 := Lib.hid his1; clear hn1 his1 hl1
  replace k3 := k3.on hC; replace k4 := k4.on hC; replace k5 := k5.on hC
  replace bc := bc.trans (hC.mono bc.size)
  clear hC
  have k7 := Blk.new w1 26 #[.int .i64 Ms.length, .slice A1 n1 c1]
  have al := Below.al w1 (.cells #[.int .i64 Ms.length, .slice A1 n1 c1] 26)
  replace k3 := k3.on al; replace k4 := k4.on al; replace k5 := k5.on al; replace y1 := y1.on al
  replace bc := bc.trans (al.mono bc.size)
  clear al
  obtain ⟨⟨p0, p1, p2, p3, p4⟩, -⟩ := k4.five
  go_wp2_with fail
  clear p0 p1 p2 p3 p4
  generalize w1.alloc (.cells #[.int .i64 Ms.length, .slice A1 n1 c1] 26) = v1 at *
  generalize w1.heap.size = g7 at *
  refine (H2.out _ bc).mono ?_
  rintro e w2 ⟨A2, n2, c2, bs2, rfl, hn2, his2, hl2, y2, hC, -⟩
  dsimp only at his2 hl2 ⊢
  have HN2 := Lib.hid hn2; have HI2 := Lib.hid his2; clear hn2 his2 hl2
  replace k3 := k3.on hC; replace k4 := k4.on hC; replace k5 := k5.on hC; replace k7 := k7.on hC; replace y1 := y1.on hC
  replace bc := bc.trans (hC.mono bc.size)
  clear hC
  have k9 := Blk.new w2 26 #[.int .i64 Mt.length, .slice A2 n2 c2]
  have al := Below.al w2 (.cells #[.int .i64 Mt.length, .slice A2 n2 c2] 26)
  replace k3 := k3.on al; replace k4 := k4.on al; replace k5 := k5.on al; replace k7 := k7.on al; replace y1 := y1.on al; replace y2 := y2.on al
  replace bc := bc.trans (al.mono bc.size)
  clear al
  go_wp2_with fail
  generalize w2.alloc (.cells #[.int .i64 Mt.length, .slice A2 n2 c2] 26) = v2 at *
  generalize w2.heap.size = g9 at *
  refine (H5.out _ bc).mono ?_
  rintro e w3 ⟨rfl, hC⟩
  dsimp only
  replace k3 := k3.on hC; replace k4 := k4.on hC; replace k5 := k5.on hC; replace k7 := k7.on hC; replace k9 := k9.on hC; replace y1 := y1.on hC; replace y2 := y2.on hC
  replace bc := bc.trans (hC.mono bc.size)
  clear hC
  by_cases hs : ps = true
  · obtain hq := Q1.out hs
    rw [Prod.mk.injEq] at hq
    obtain ⟨rfl, rfl⟩ := hq
    have e24 : ((Ms.length : Nat) : Int) = 24 := by rw [Q5.out]; rfl
    rw [e24] at k7 ⊢
    clear e24
    obtain ⟨p0, p1, -, -⟩ := k7.two
    have hrb := H3.out hs A1 n1 c1 bs1 HI1.out HN1.out _ bc y1
    have HRB := Lib.hid hrb; clear hrb H3
    go_wp2_with fail
    refine HRB.out.mono ?_
    rintro e w4 ⟨rfl, hC⟩
    dsimp only
    replace k3 := k3.on hC; replace k4 := k4.on hC; replace k5 := k5.on hC; replace k7 := k7.on hC; replace k9 := k9.on hC; replace y1 := y1.on hC; replace y2 := y2.on hC
    replace bc := bc.trans (hC.mono bc.size)
    clear hC p0 p1 HRB
    have k11 := Blk.new w4 23 #[.int .i64 s0, .int .i64 s1, .int .i64 s2, .int .i64 s3, .int .i64 s4]
    have al := Below.al w4 (.cells #[.int .i64 s0, .int .i64 s1, .int .i64 s2, .int .i64 s3, .int .i64 s4] 23)
    replace k3 := k3.on al; replace k4 := k4.on al; replace k5 := k5.on al; replace k7 := k7.on al; replace k9 := k9.on al; replace y1 := y1.on al; replace y2 := y2.on al
    replace bc := bc.trans (al.mono bc.size)
    clear al
    obtain ⟨⟨p0, p1, p2, p3, p4⟩, -⟩ := k11.five
    obtain ⟨⟨z0, z1, z2, z3, z4⟩, -⟩ := k3.five
    obtain ⟨x0, x1, -, -⟩ := k7.two
    obtain ⟨y50, y51, -, -⟩ := k5.two
    go_wp2_with fail
    clear p0 p1 p2 p3 p4 z0 z1 z2 z3 z4 x0 x1 y50 y51
    generalize w4.alloc (.cells #[.int .i64 s0, .int .i64 s1, .int .i64 s2, .int .i64 s3, .int .i64 s4] 23) = v4 at *
    generalize w4.heap.size = g11 at *
    refine (H4.out _ bc).mono ?_
    rintro e w5 ⟨rfl, hC⟩
    dsimp only
    replace k3 := k3.on hC; replace k4 := k4.on hC; replace k5 := k5.on hC; replace k7 := k7.on hC; replace k9 := k9.on hC; replace k11 := k11.on hC; replace y1 := y1.on hC; replace y2 := y2.on hC
    replace bc := bc.trans (hC.mono bc.size)
    clear hC
    have k13 := Blk.new w5 23 #[.int .i64 r0, .int .i64 r1, .int .i64 r2, .int .i64 r3, .int .i64 r4]
    have al := Below.al w5 (.cells #[.int .i64 r0, .int .i64 r1, .int .i64 r2, .int .i64 r3, .int .i64 r4] 23)
    replace k3 := k3.on al; replace k4 := k4.on al; replace k5 := k5.on al; replace k7 := k7.on al; replace k9 := k9.on al; replace k11 := k11.on al; replace y1 := y1.on al; replace y2 := y2.on al
    replace bc := bc.trans (al.mono bc.size)
    clear al
    by_cases hr : er = 0
    · subst hr
      have hrr := H8.out rfl
      subst hrr
      have H7b := Lib.hid (H7.out rfl); clear H7 H8
      obtain ⟨⟨p0, p1, p2, p3, p4⟩, -⟩ := k13.five
      go_wp2_with fail
      clear p0 p1 p2 p3 p4
      generalize w5.alloc (.cells #[.int .i64 r0, .int .i64 r1, .int .i64 r2, .int .i64 r3, .int .i64 r4] 23) = v5 at *
      generalize w5.heap.size = g13 at *
      refine (H6.out _ bc).mono ?_
      rintro e w6 ⟨A6, n6, c6, bs6, rfl, hn6, his6, hl6, y6, hC, -⟩
      dsimp only at his6 hl6 ⊢
      have HN6 := Lib.hid hn6; have HI6 := Lib.hid his6; clear hn6 his6 hl6
      rw [show ((Lr.length : Nat) : Int) = 24 by rw [Q7.out]; rfl]
      replace k3 := k3.on hC; replace k4 := k4.on hC; replace k5 := k5.on hC; replace k7 := k7.on hC; replace k9 := k9.on hC; replace k11 := k11.on hC; replace k13 := k13.on hC; replace y1 := y1.on hC; replace y2 := y2.on hC
      replace bc := bc.trans (hC.mono bc.size)
      clear hC
      have k15 := Blk.new w6 26 #[.int .i64 24, .slice A6 n6 c6]
      have al := Below.al w6 (.cells #[.int .i64 24, .slice A6 n6 c6] 26)
      replace k3 := k3.on al; replace k4 := k4.on al; replace k5 := k5.on al; replace k7 := k7.on al; replace k9 := k9.on al; replace k11 := k11.on al; replace k13 := k13.on al; replace y1 := y1.on al; replace y2 := y2.on al; replace y6 := y6.on al
      replace bc := bc.trans (al.mono bc.size)
      clear al
      obtain ⟨p0, p1, -, -⟩ := k15.two
      obtain ⟨p2, p3, -, -⟩ := k5.two
      have hsm := H7b.out A6 n6 c6 bs6 HI6.out HN6.out _ bc y6
      have HSM := Lib.hid hsm; clear hsm
      go_wp2_with fail
      refine HSM.out.mono ?_
      rintro e w7 ⟨rfl, hC⟩
      dsimp only
      replace k3 := k3.on hC; replace k4 := k4.on hC; replace k5 := k5.on hC; replace k7 := k7.on hC; replace k9 := k9.on hC; replace k11 := k11.on hC; replace k13 := k13.on hC; replace k15 := k15.on hC; replace y1 := y1.on hC; replace y2 := y2.on hC; replace y6 := y6.on hC
      replace bc := bc.trans (hC.mono bc.size)
      clear hC p0 p1 p2 p3 HSM
      generalize w6.heap.size = g15 at *
      go_wp2_with fail
      by_cases ht : pt = true
      · have hq := Q3.out ht
        rw [Prod.mk.injEq] at hq
        obtain ⟨rfl, rfl⟩ := hq
        rw [show ((Mt.length : Nat) : Int) = 24 by rw [Q6.out]; rfl] at k9 ⊢
        have hdr : Below w7.heap.size w7 w7.drew := (Below.refl _ _).drew
        replace k3 := k3.on hdr; replace k4 := k4.on hdr; replace k5 := k5.on hdr; replace k7 := k7.on hdr; replace k9 := k9.on hdr; replace k11 := k11.on hdr; replace k13 := k13.on hdr; replace k15 := k15.on hdr; replace y1 := y1.on hdr; replace y2 := y2.on hdr; replace y6 := y6.on hdr
        replace bc := bc.trans (hdr.mono bc.size)
        clear hdr
        rcases HST.out with hst | hst
        · have hsm := fun (W : World) (ya : Byt W.heap.size W A1 bs1) (yb : Byt W.heap.size W A2 bs2) => (H9.out hs ht A1 A2 n1 n2 c1 c2 bs1 bs2 HI1.out HI2.out HN1.out HN2.out W ya yb).1 hst
          have HSM := Lib.hid hsm; clear hsm
          rw [CS.mk.injEq] at hst
          obtain ⟨rfl, rfl, rfl, rfl, rfl⟩ := hst
          clear HST H9
          go_region_held3 (fun w' => w'.cell? ⟨w.heap.size, 0, none⟩ = some (.int .i64 s0) ∧ w'.cell? ⟨w.heap.size, 1, none⟩ = some (.int .i64 s1) ∧ w'.cell? ⟨w.heap.size, 2, none⟩ = some (.int .i64 s2) ∧ w'.cell? ⟨w.heap.size, 3, none⟩ = some (.int .i64 s3) ∧ w'.cell? ⟨w.heap.size, 4, none⟩ = some (.int .i64 s4) ∧ w'.cell? ⟨w.heap.size + 1, 0, none⟩ = some (.int .i64 s0) ∧ w'.cell? ⟨w.heap.size + 1, 1, none⟩ = some (.int .i64 s1) ∧ w'.cell? ⟨w.heap.size + 1, 2, none⟩ = some (.int .i64 s2) ∧ w'.cell? ⟨w.heap.size + 1, 3, none⟩ = some (.int .i64 s3) ∧ w'.cell? ⟨w.heap.size + 1, 4, none⟩ = some (.int .i64 s4) ∧ w'.cell? ⟨g7, 0, none⟩ = some (.int .i64 24) ∧ w'.cell? ⟨g7, 1, none⟩ = some (.slice A1 n1 c1) ∧ w'.cell? ⟨g9, 0, none⟩ = some (.int .i64 24) ∧ w'.cell? ⟨g9, 1, none⟩ = some (.slice A2 n2 c2))
            (with_reducible exact keepT k3 k4 k7 k9)
            (first | (go_at_call 14; with_reducible refine (HSM.out _ y1 y2).mono ?_; rintro e u4 ⟨rfl, hC⟩; replace k3 := k3.on hC; replace k4 := k4.on hC; replace k7 := k7.on hC; replace k9 := k9.on hC; replace y1 := y1.on hC; replace y2 := y2.on hC; replace bc := bc.trans (hC.mono bc.size); clear hC))
          go_wp2
          go_ret
          exact ⟨rfl, bc⟩
        · have hsm := fun (W : World) (ya : Byt W.heap.size W A1 bs1) (yb : Byt W.heap.size W A2 bs2) => (H9.out hs ht A1 A2 n1 n2 c1 c2 bs1 bs2 HI1.out HI2.out HN1.out HN2.out W ya yb).2 hst
          have HSM := Lib.hid hsm; clear hsm
          have hop := agg_ne hst
          clear hst
          clear HST H9
          go_region_held3 (fun w' => w'.cell? ⟨w.heap.size, 0, none⟩ = some (.int .i64 s0) ∧ w'.cell? ⟨w.heap.size, 1, none⟩ = some (.int .i64 s1) ∧ w'.cell? ⟨w.heap.size, 2, none⟩ = some (.int .i64 s2) ∧ w'.cell? ⟨w.heap.size, 3, none⟩ = some (.int .i64 s3) ∧ w'.cell? ⟨w.heap.size, 4, none⟩ = some (.int .i64 s4) ∧ w'.cell? ⟨w.heap.size + 1, 0, none⟩ = some (.int .i64 t0) ∧ w'.cell? ⟨w.heap.size + 1, 1, none⟩ = some (.int .i64 t1) ∧ w'.cell? ⟨w.heap.size + 1, 2, none⟩ = some (.int .i64 t2) ∧ w'.cell? ⟨w.heap.size + 1, 3, none⟩ = some (.int .i64 t3) ∧ w'.cell? ⟨w.heap.size + 1, 4, none⟩ = some (.int .i64 t4) ∧ w'.cell? ⟨g7, 0, none⟩ = some (.int .i64 24) ∧ w'.cell? ⟨g7, 1, none⟩ = some (.slice A1 n1 c1) ∧ w'.cell? ⟨g9, 0, none⟩ = some (.int .i64 24) ∧ w'.cell? ⟨g9, 1, none⟩ = some (.slice A2 n2 c2))
            (with_reducible exact keepT k3 k4 k7 k9)
            (first | (go_at_call 14; with_reducible refine (HSM.out _ y1 y2).mono ?_; rintro e u4 ⟨rfl, hC⟩; replace k3 := k3.on hC; replace k4 := k4.on hC; replace k7 := k7.on hC; replace k9 := k9.on hC; replace y1 := y1.on hC; replace y2 := y2.on hC; replace bc := bc.trans (hC.mono bc.size); clear hC))
          go_wp2
          go_ret
          exact ⟨rfl, bc⟩
      · have hq := Q4.out ht
        rw [Prod.mk.injEq] at hq
        obtain ⟨rfl, rfl⟩ := hq
        go_quiet (fail)
        go_wp2
        go_ret
        exact ⟨rfl, below_drewN bc _⟩
    · have dr : decide (er = 0) = false := by simpa using hr
      clear H7 H8 H6
      go_wp2_with fail
      generalize w5.alloc (.cells #[.int .i64 r0, .int .i64 r1, .int .i64 r2, .int .i64 r3, .int .i64 r4] 23) = v5 at *
      generalize w5.heap.size = g13 at *
      by_cases ht : pt = true
      · have hq := Q3.out ht
        rw [Prod.mk.injEq] at hq
        obtain ⟨rfl, rfl⟩ := hq
        rw [show ((Mt.length : Nat) : Int) = 24 by rw [Q6.out]; rfl] at k9 ⊢
        have hdr : Below v5.heap.size v5 v5.drew := (Below.refl _ _).drew
        replace k3 := k3.on hdr; replace k4 := k4.on hdr; replace k5 := k5.on hdr; replace k7 := k7.on hdr; replace k9 := k9.on hdr; replace k11 := k11.on hdr; replace k13 := k13.on hdr; replace y1 := y1.on hdr; replace y2 := y2.on hdr
        replace bc := bc.trans (hdr.mono bc.size)
        clear hdr
        rcases HST.out with hst | hst
        · have hsm := fun (W : World) (ya : Byt W.heap.size W A1 bs1) (yb : Byt W.heap.size W A2 bs2) => (H9.out hs ht A1 A2 n1 n2 c1 c2 bs1 bs2 HI1.out HI2.out HN1.out HN2.out W ya yb).1 hst
          have HSM := Lib.hid hsm; clear hsm
          rw [CS.mk.injEq] at hst
          obtain ⟨rfl, rfl, rfl, rfl, rfl⟩ := hst
          clear HST H9
          go_region_held3 (fun w' => w'.cell? ⟨w.heap.size, 0, none⟩ = some (.int .i64 s0) ∧ w'.cell? ⟨w.heap.size, 1, none⟩ = some (.int .i64 s1) ∧ w'.cell? ⟨w.heap.size, 2, none⟩ = some (.int .i64 s2) ∧ w'.cell? ⟨w.heap.size, 3, none⟩ = some (.int .i64 s3) ∧ w'.cell? ⟨w.heap.size, 4, none⟩ = some (.int .i64 s4) ∧ w'.cell? ⟨w.heap.size + 1, 0, none⟩ = some (.int .i64 s0) ∧ w'.cell? ⟨w.heap.size + 1, 1, none⟩ = some (.int .i64 s1) ∧ w'.cell? ⟨w.heap.size + 1, 2, none⟩ = some (.int .i64 s2) ∧ w'.cell? ⟨w.heap.size + 1, 3, none⟩ = some (.int .i64 s3) ∧ w'.cell? ⟨w.heap.size + 1, 4, none⟩ = some (.int .i64 s4) ∧ w'.cell? ⟨g7, 0, none⟩ = some (.int .i64 24) ∧ w'.cell? ⟨g7, 1, none⟩ = some (.slice A1 n1 c1) ∧ w'.cell? ⟨g9, 0, none⟩ = some (.int .i64 24) ∧ w'.cell? ⟨g9, 1, none⟩ = some (.slice A2 n2 c2))
            (with_reducible exact keepT k3 k4 k7 k9)
            (first | (go_at_call 14; with_reducible refine (HSM.out _ y1 y2).mono ?_; rintro e u4 ⟨rfl, hC⟩; replace k3 := k3.on hC; replace k4 := k4.on hC; replace k7 := k7.on hC; replace k9 := k9.on hC; replace y1 := y1.on hC; replace y2 := y2.on hC; replace bc := bc.trans (hC.mono bc.size); clear hC))
          go_wp2
          go_ret
          exact ⟨rfl, bc⟩
        · have hsm := fun (W : World) (ya : Byt W.heap.size W A1 bs1) (yb : Byt W.heap.size W A2 bs2) => (H9.out hs ht A1 A2 n1 n2 c1 c2 bs1 bs2 HI1.out HI2.out HN1.out HN2.out W ya yb).2 hst
          have HSM := Lib.hid hsm; clear hsm
          have hop := agg_ne hst
          clear hst
          clear HST H9
          go_region_held3 (fun w' => w'.cell? ⟨w.heap.size, 0, none⟩ = some (.int .i64 s0) ∧ w'.cell? ⟨w.heap.size, 1, none⟩ = some (.int .i64 s1) ∧ w'.cell? ⟨w.heap.size, 2, none⟩ = some (.int .i64 s2) ∧ w'.cell? ⟨w.heap.size, 3, none⟩ = some (.int .i64 s3) ∧ w'.cell? ⟨w.heap.size, 4, none⟩ = some (.int .i64 s4) ∧ w'.cell? ⟨w.heap.size + 1, 0, none⟩ = some (.int .i64 t0) ∧ w'.cell? ⟨w.heap.size + 1, 1, none⟩ = some (.int .i64 t1) ∧ w'.cell? ⟨w.heap.size + 1, 2, none⟩ = some (.int .i64 t2) ∧ w'.cell? ⟨w.heap.size + 1, 3, none⟩ = some (.int .i64 t3) ∧ w'.cell? ⟨w.heap.size + 1, 4, none⟩ = some (.int .i64 t4) ∧ w'.cell? ⟨g7, 0, none⟩ = some (.int .i64 24) ∧ w'.cell? ⟨g7, 1, none⟩ = some (.slice A1 n1 c1) ∧ w'.cell? ⟨g9, 0, none⟩ = some (.int .i64 24) ∧ w'.cell? ⟨g9, 1, none⟩ = some (.slice A2 n2 c2))
            (with_reducible exact keepT k3 k4 k7 k9)
            (first | (go_at_call 14; with_reducible refine (HSM.out _ y1 y2).mono ?_; rintro e u4 ⟨rfl, hC⟩; replace k3 := k3.on hC; replace k4 := k4.on hC; replace k7 := k7.on hC; replace k9 := k9.on hC; replace y1 := y1.on hC; replace y2 := y2.on hC; replace bc := bc.trans (hC.mono bc.size); clear hC))
          go_wp2
          go_ret
          exact ⟨rfl, bc⟩
      · have hq := Q4.out ht
        rw [Prod.mk.injEq] at hq
        obtain ⟨rfl, rfl⟩ := hq
        go_quiet (fail)
        go_wp2
        go_ret
        exact ⟨rfl, below_drewN bc _⟩
  · obtain hq := Q2.out hs
    rw [Prod.mk.injEq] at hq
    obtain ⟨rfl, rfl⟩ := hq
    clear H3 H9 Q1 Q2 Q3 Q4 Q5 Q6 HST
    obtain ⟨p0, p1, -, -⟩ := k5.two
    go_wp2_with fail
    clear p0 p1
    refine (H4.out _ bc).mono ?_
    rintro e w5 ⟨rfl, hC⟩
    dsimp only
    replace k3 := k3.on hC; replace k4 := k4.on hC; replace k5 := k5.on hC; replace k7 := k7.on hC; replace k9 := k9.on hC; replace y1 := y1.on hC; replace y2 := y2.on hC
    replace bc := bc.trans (hC.mono bc.size)
    clear hC
    have k13 := Blk.new w5 23 #[.int .i64 r0, .int .i64 r1, .int .i64 r2, .int .i64 r3, .int .i64 r4]
    have al := Below.al w5 (.cells #[.int .i64 r0, .int .i64 r1, .int .i64 r2, .int .i64 r3, .int .i64 r4] 23)
    replace k3 := k3.on al; replace k4 := k4.on al; replace k5 := k5.on al; replace k7 := k7.on al; replace k9 := k9.on al; replace y1 := y1.on al; replace y2 := y2.on al
    replace bc := bc.trans (al.mono bc.size)
    clear al
    by_cases hr : er = 0
    · subst hr
      have hrr := H8.out rfl
      subst hrr
      have H7b := Lib.hid (H7.out rfl); clear H7 H8
      obtain ⟨⟨p0, p1, p2, p3, p4⟩, -⟩ := k13.five
      go_wp2_with fail
      clear p0 p1 p2 p3 p4
      generalize w5.alloc (.cells #[.int .i64 r0, .int .i64 r1, .int .i64 r2, .int .i64 r3, .int .i64 r4] 23) = v5 at *
      generalize w5.heap.size = g13 at *
      refine (H6.out _ bc).mono ?_
      rintro e w6 ⟨A6, n6, c6, bs6, rfl, hn6, his6, hl6, y6, hC, -⟩
      dsimp only at his6 hl6 ⊢
      have HN6 := Lib.hid hn6; have HI6 := Lib.hid his6; clear hn6 his6 hl6
      rw [show ((Lr.length : Nat) : Int) = 24 by rw [Q7.out]; rfl]
      replace k3 := k3.on hC; replace k4 := k4.on hC; replace k5 := k5.on hC; replace k7 := k7.on hC; replace k9 := k9.on hC; replace k13 := k13.on hC; replace y1 := y1.on hC; replace y2 := y2.on hC
      replace bc := bc.trans (hC.mono bc.size)
      clear hC
      have k15 := Blk.new w6 26 #[.int .i64 24, .slice A6 n6 c6]
      have al := Below.al w6 (.cells #[.int .i64 24, .slice A6 n6 c6] 26)
      replace k3 := k3.on al; replace k4 := k4.on al; replace k5 := k5.on al; replace k7 := k7.on al; replace k9 := k9.on al; replace k13 := k13.on al; replace y1 := y1.on al; replace y2 := y2.on al; replace y6 := y6.on al
      replace bc := bc.trans (al.mono bc.size)
      clear al
      obtain ⟨p0, p1, -, -⟩ := k15.two
      obtain ⟨p2, p3, -, -⟩ := k5.two
      have hsm := H7b.out A6 n6 c6 bs6 HI6.out HN6.out _ bc y6
      have HSM := Lib.hid hsm; clear hsm
      go_wp2_with fail
      refine HSM.out.mono ?_
      rintro e w7 ⟨rfl, hC⟩
      dsimp only
      replace k3 := k3.on hC; replace k4 := k4.on hC; replace k5 := k5.on hC; replace k7 := k7.on hC; replace k9 := k9.on hC; replace k13 := k13.on hC; replace k15 := k15.on hC; replace y1 := y1.on hC; replace y2 := y2.on hC; replace y6 := y6.on hC
      replace bc := bc.trans (hC.mono bc.size)
      clear hC p0 p1 p2 p3 HSM
      generalize w6.heap.size = g15 at *
      go_wp2_with fail
      go_quiet (fail)
      go_wp2
      go_ret
      exact ⟨rfl, below_drewN bc _⟩
    · have dr : decide (er = 0) = false := by simpa using hr
      clear H7 H8 H6
      go_wp2_with fail
      generalize w5.alloc (.cells #[.int .i64 r0, .int .i64 r1, .int .i64 r2, .int .i64 r3, .int .i64 r4] 23) = v5 at *
      generalize w5.heap.size = g13 at *
      go_quiet (fail)
      go_wp2
      go_ret
      exact ⟨rfl, below_drewN bc _⟩
end Go.Proofs.YteigekhfamapmaaDoor
