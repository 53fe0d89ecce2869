/-
  The law of what a clock comes to: it is what the document says. Conditions: what the program's functions answer; the clock's slice no longer than a call may be handed. (Printed by tools/gen13k.py; laid ahead.)
-/
import Derived.Test.YtlkmipcenlhacaaLJ
import Derived.Test.YtlkmipcenlhacaaLM
import Derived.Test.YtlkmipcenlhacaaLD
namespace Go.Proofs.Ytlkmipcenlhacaa
open Go.RowKit

set_option maxRecDepth 4000 in
set_option maxHeartbeats 1000000 in
/-- slices.Clone: the same numbers, in memory of its own. -/
theorem jcloneK_any (A : Option Addr) (n c : Nat) (l : List Int) (w : World) (hn : n = l.length) (hm : n * 8 ≤ 140737488351232) (hA : Ints w.heap.size w A l) (hc : A = none → n = 0 ∧ c = 0) :
    Calls Try.prog 22 #[.slice A n c] w fun e w' => ∃ v, e = .returned v ∧ w'.ownsRow w.heap.size 2 1 v n (l.map (Value.int .i64)) ∧ Below w.heap.size w w' := by
  have HN := Lib.hid hn; clear hn
  have HA := Lib.hid hA; clear hA
  obtain ⟨i0, hi, hz0, hz1, hz2⟩ := info_parts Try.infoJ
  have hnil := fun a n c w => Lib.run_eql_slice_nil (P := Try.prog) w 26 2 a n c 0 0 Try.underlying26
  cases A with
  | none =>
    obtain ⟨rfl, rfl⟩ := hc rfl
    clear hc
    go_enter Try.func22, Try.ntmps22
    go_wp2
    go_ret
    have : l = [] := List.eq_nil_of_length_eq_zero HN.out.symm
    subst this
    exact ⟨_, rfl, World.ownsRow_nil _ _ _ _, Below.refl _ _⟩
  | some a =>
    clear hc
    have hbs := run_noInts
    have hcs : (l.map (Value.int .i64)).length = n * 1 := by rw [List.length_map, HN.out]; omega
    have HCS := Lib.hid hcs; clear hcs
    go_enter Try.func22, Try.ntmps22
    go_wp2_with (at_builtin; refine wpList_append_own _ rfl _ _ 26 rfl w.heap.size 2 i0 (.int .i64 0) 1 8 Try.underlying26 hi hz0 hz1 hz2 rfl (by decide) _ 0 [] rfl (World.ownsRow_lit w #[] 0 (Nat.le_refl _) (by decide) rfl) a n c (l.map (Value.int .i64)) rfl HCS.out (fun j u hj => ints_cells (HA.out.below ((Below.refl _ _).alloc (Nat.le_refl _) _)) j u hj) (ints_one l) (by unfold maxLen; omega) (by omega) (by simp) ?_; intro v' w1 hown hgrow _)
    rw [List.nil_append, Nat.zero_add] at hown
    have hg2 : (w.alloc (.cells #[] 2)).grownBy w1 (some w.heap.size) := hgrow
    clear hnil hbs hgrow
    go_ret
    exact ⟨v', rfl, hown, ((Below.refl _ _).alloc (Nat.le_refl _) _).grown hg2 (by simp) (fun k e => by injection e with e; omega)⟩
set_option maxRecDepth 100000 in
set_option maxHeartbeats 4000000 in
theorem goes_law (hS : ClkSendC) (hW : ClkWindowC) (hC : ClkCorrectC) (hE : ClkSeeC) (hN : ClkNextC) (hJ : ClkJoinC) (m : ML) (c s : Slc) (k : Ck) (v : Slc) (x d q : Int) (w : World) (hM : Med w m c s) (hk : CkOk w.heap.size w k v) (hsz : k.dv.length * 8 ≤ 140737488351232) (hxb : -9223372036854775808 ≤ x ∧ x ≤ 9223372036854775807) : Calls Try.prog 4 #[vM m c s, .agg (cK k v), .int .i64 x, .int .i64 d, .int .i64 q] w fun e w' => e = .returned (.bool true) ∧ Below w.heap.size w w' := by
  have h0 := fun U => begun13_any hS hW hC U
  have s1 := fun U (hb : Below w.heap.size w U) => hE m c s k v x U (hM.on hb) (hk.on hb)
  have s2 := fun U (hb : Below w.heap.size w U) => rsee_any m c s k v x U (hM.on hb) (hk.on hb)
  have n1 := fun U (hb : Below w.heap.size w U) => hN m c s k v d U (hM.on hb) (hk.on hb)
  have n2_ := fun U (hb : Below w.heap.size w U) => rnext_any m c s k v d U (hM.on hb) (hk.on hb)
  have j1 := fun U (hb : Below w.heap.size w U) => hJ m c s x q U (hM.on hb) hxb
  have j2 := fun U (hb : Below w.heap.size w U) => rjoinK_any m c s x q U (hM.on hb)
  have cl := fun U (hb : Below w.heap.size w U) => jcloneK_any v.A v.n v.c k.dv U hk.dn (by rw [hk.dn]; exact hsz) ((hk.on hb).d) hk.dz
  unfold ResCk at s1 s2 n1 n2_ j1 j2
  clear hxb
  obtain ⟨hd, hdn, hdc, hdm, hdz⟩ := hk
  generalize seeK m k x = R1 at *
  generalize nextK m k d = R2 at *
  generalize joinK m x q = R3 at *
  clear hM hS hW hC hE hN hJ hsz hdc hdz
  obtain ⟨N, S, G, W, D, L, cold, ms⟩ := m
  obtain ⟨Ac, nc, cc⟩ := c
  obtain ⟨As, ns, cs⟩ := s
  obtain ⟨st, sl, dv⟩ := k
  obtain ⟨A, n, c⟩ := v
  obtain ⟨ea, ⟨ast, asl, adv⟩⟩ := R1
  obtain ⟨eb, ⟨bst, bsl, bdv⟩⟩ := R2
  obtain ⟨ec, ⟨cst, csl, cdv⟩⟩ := R3
  dsimp only [vM, cK] at *
  have H0 := Lib.hid h0; have HS1 := Lib.hid s1; have HS2 := Lib.hid s2; have HN1 := Lib.hid n1; have HN2 := Lib.hid n2_; have HJ1 := Lib.hid j1; have HJ2 := Lib.hid j2; have HCL := Lib.hid cl; have HD := Lib.hid hd; have HDN := Lib.hid hdn; have HDM := Lib.hid hdm
  clear h0 s1 s2 n1 n2_ j1 j2 cl hd hdn hdm
  obtain ⟨km, kc, bc⟩ := bx2 w #[.int .i64 N, .int .i64 S, .int .i64 G, .int .i64 W, .int .i64 D, .int .i64 L, .slice Ac nc cc, .slice As ns cs] #[.int .i64 st, .int .i64 sl, .slice A n c] 25 28
  obtain ⟨p0, p1, p2, p3, p4, p5, p6, p7⟩ := km.eight; obtain ⟨q0, q1, q2, -⟩ := kc.three
  go_enter Try.func4, Try.ntmps4
  go_wp2_with fail
  refine (HCL.out _ bc).mono ?_
  rintro e w0 ⟨vw, rfl, hown, hC⟩
  dsimp only
  obtain ⟨Aw, cw, rfl, -, -, hI⟩ := ints_own hown
  clear p0 p1 p2 p3 p4 p5 p6 p7 q0 q1 q2 hown
  replace km := km.on hC; replace kc := kc.on hC; replace bc := bc.trans (hC.mono bc.size); clear hC
  have HI := Lib.hid hI; clear hI
  have bw := Below.refl w0.heap.size w0
  have hw0 := kc.lt
  obtain ⟨p0, p1, p2, p3, p4, p5, p6, p7⟩ := km.eight; obtain ⟨q0, q1, q2, -⟩ := kc.three
  go_upto_region 3 with (first | (go_at_call 23; refine (HS1.out _ bc).mono ?_; rintro e w1 ⟨⟨xA, xn, xc⟩, rfl, hn, hC⟩; dsimp only [cK]; have hbz := bc.size; have hwz := bw.size; (try clear p0 p1 p2 p3 p4 p5 p6 p7); (try clear q0 q1 q2); (try clear x0 x1 x2 f0 f1 f2); (try clear y0 y1 y2 i0 i1 i2); replace km := km.on hC; replace kc := kc.on hC; replace bw := bw.trans (hC.mono bw.size); replace bc := bc.trans (hC.mono bc.size); clear hC; obtain ⟨p0, p1, p2, p3, p4, p5, p6, p7⟩ := km.eight; obtain ⟨q0, q1, q2, -⟩ := kc.three))
  have kx := Blk.new w1 28 #[.int .i64 ast, .int .i64 asl, .slice xA xn xc]
  have al := Below.al w1 (.cells #[.int .i64 ast, .int .i64 asl, .slice xA xn xc] 28)
  have hgkx := bw.size
  have hltkx := kc.lt
  (try clear p0 p1 p2 p3 p4 p5 p6 p7); (try clear q0 q1 q2); (try clear x0 x1 x2 f0 f1 f2); (try clear y0 y1 y2 i0 i1 i2); replace km := km.on al; replace kc := kc.on al; replace hn := hn.on al; replace bw := bw.trans (al.mono bw.size); replace bc := bc.trans (al.mono bc.size); clear al
  generalize w1.alloc (.cells #[.int .i64 ast, .int .i64 asl, .slice xA xn xc] 28) = ukx at *
  generalize w1.heap.size = gkx at *
  clear w1
  obtain ⟨p0, p1, p2, p3, p4, p5, p6, p7⟩ := km.eight; obtain ⟨q0, q1, q2, -⟩ := kc.three; obtain ⟨x0, x1, x2, f0, f1, f2⟩ := kx.three
  have hbkx := kx.lt
  have hx := hn; clear hn
  go_upto_region 4 with (first | (go_at_call 24; refine (HS2.out _ bc).mono ?_; rintro e w1 ⟨⟨yA, yn, yc⟩, rfl, hn, hC⟩; dsimp only [cK]; have hbz := bc.size; have hwz := bw.size; (try clear p0 p1 p2 p3 p4 p5 p6 p7); (try clear q0 q1 q2); (try clear x0 x1 x2 f0 f1 f2); (try clear y0 y1 y2 i0 i1 i2); replace km := km.on hC; replace kc := kc.on hC; replace kx := kx.on hC; replace hx := hx.on hC; replace bw := bw.trans (hC.mono bw.size); replace bc := bc.trans (hC.mono bc.size); clear hC; obtain ⟨p0, p1, p2, p3, p4, p5, p6, p7⟩ := km.eight; obtain ⟨q0, q1, q2, -⟩ := kc.three; obtain ⟨x0, x1, x2, f0, f1, f2⟩ := kx.three))
  have ky := Blk.new w1 28 #[.int .i64 ast, .int .i64 asl, .slice yA yn yc]
  have al := Below.al w1 (.cells #[.int .i64 ast, .int .i64 asl, .slice yA yn yc] 28)
  have hgky := bw.size
  have hltky := kx.lt
  (try clear p0 p1 p2 p3 p4 p5 p6 p7); (try clear q0 q1 q2); (try clear x0 x1 x2 f0 f1 f2); (try clear y0 y1 y2 i0 i1 i2); replace km := km.on al; replace kc := kc.on al; replace kx := kx.on al; replace hx := hx.on al; replace hn := hn.on al; replace bw := bw.trans (al.mono bw.size); replace bc := bc.trans (al.mono bc.size); clear al
  generalize w1.alloc (.cells #[.int .i64 ast, .int .i64 asl, .slice yA yn yc] 28) = uky at *
  generalize w1.heap.size = gky at *
  clear w1
  obtain ⟨p0, p1, p2, p3, p4, p5, p6, p7⟩ := km.eight; obtain ⟨q0, q1, q2, -⟩ := kc.three; obtain ⟨x0, x1, x2, f0, f1, f2⟩ := kx.three; obtain ⟨y0, y1, y2, i0, i1, i2⟩ := ky.three
  have hbky := ky.lt
  have hy := hn; clear hn
  go_upto_region 6 with (first | (go_at_call 11; refine (H0.out _).mono ?_; rintro e w2 ⟨rfl, hC⟩; dsimp only; (try clear p0 p1 p2 p3 p4 p5 p6 p7); (try clear q0 q1 q2); (try clear x0 x1 x2 f0 f1 f2); (try clear y0 y1 y2 i0 i1 i2); replace km := km.on hC; replace kc := kc.on hC; replace kx := kx.on hC; replace ky := ky.on hC; replace hx := hx.on hC; replace hy := hy.on hC; replace bw := bw.trans (hC.mono bw.size); replace bc := bc.trans (hC.mono bc.size); clear hC; obtain ⟨p0, p1, p2, p3, p4, p5, p6, p7⟩ := km.eight; obtain ⟨q0, q1, q2, -⟩ := kc.three; obtain ⟨x0, x1, x2, f0, f1, f2⟩ := kx.three; obtain ⟨y0, y1, y2, i0, i1, i2⟩ := ky.three) | (go_at_call 15; refine (rsameK_any _ ⟨xA, xn, xc⟩ _ ⟨yA, yn, yc⟩ _ hx.ok hy.ok).mono ?_; rintro e w3 ⟨rfl, hC⟩; rw [sameK_self]; dsimp only; (try clear p0 p1 p2 p3 p4 p5 p6 p7); (try clear q0 q1 q2); (try clear x0 x1 x2 f0 f1 f2); (try clear y0 y1 y2 i0 i1 i2); replace km := km.on hC; replace kc := kc.on hC; replace kx := kx.on hC; replace ky := ky.on hC; replace hx := hx.on hC; replace hy := hy.on hC; replace bw := bw.trans (hC.mono bw.size); replace bc := bc.trans (hC.mono bc.size); clear hC; obtain ⟨p0, p1, p2, p3, p4, p5, p6, p7⟩ := km.eight; obtain ⟨q0, q1, q2, -⟩ := kc.three; obtain ⟨x0, x1, x2, f0, f1, f2⟩ := kx.three; obtain ⟨y0, y1, y2, i0, i1, i2⟩ := ky.three))
  clear hx hy
  go_upto_region 7 with (first | (go_at_call 25; refine (HN1.out _ bc).mono ?_; rintro e w1 ⟨⟨xA, xn, xc⟩, rfl, hn, hC⟩; dsimp only [cK]; have hbz := bc.size; have hwz := bw.size; have hbx9 := kx.lt; have hby9 := ky.lt; (try clear p0 p1 p2 p3 p4 p5 p6 p7); (try clear q0 q1 q2); (try clear x0 x1 x2 f0 f1 f2); (try clear y0 y1 y2 i0 i1 i2); replace km := km.on hC; replace kc := kc.on hC; replace kx := kx.on hC; replace ky := ky.on hC; replace bw := bw.trans (hC.mono bw.size); replace bc := bc.trans (hC.mono bc.size); clear hC; obtain ⟨p0, p1, p2, p3, p4, p5, p6, p7⟩ := km.eight; obtain ⟨q0, q1, q2, -⟩ := kc.three; obtain ⟨x0, x1, x2, f0, f1, f2⟩ := kx.three; obtain ⟨y0, y1, y2, i0, i1, i2⟩ := ky.three))
  have hG := grown3K w1 gkx (.int .i64 bst) (.int .i64 bsl) (.slice xA xn xc)
  (try clear p0 p1 p2 p3 p4 p5 p6 p7); (try clear q0 q1 q2); (try clear x0 x1 x2 f0 f1 f2); (try clear y0 y1 y2 i0 i1 i2)
  replace hn := hn.put hG (by omega)
  replace km := km.grown hG (some_ne (by omega))
  replace kc := kc.grown hG (some_ne (by omega))
  replace ky := ky.grown hG (some_ne (by omega))
  replace bc := Below.off bc bc.size (by omega) hG
  replace bw := Below.off bw bw.size (by omega) hG
  replace kx := kx.put3K (.int .i64 bst) (.int .i64 bsl) (.slice xA xn xc)
  clear hG
  generalize (((w1.setCell ⟨gkx, 0, none⟩ (.int .i64 bst)).setCell ⟨gkx, 1, none⟩ (.int .i64 bsl)).setCell ⟨gkx, 2, none⟩ (.slice xA xn xc)) = vkx at *
  clear w1
  have hx := hn; clear hn hbx9; have hkp := hby9; clear hby9
  obtain ⟨p0, p1, p2, p3, p4, p5, p6, p7⟩ := km.eight; obtain ⟨q0, q1, q2, -⟩ := kc.three; obtain ⟨x0, x1, x2, f0, f1, f2⟩ := kx.three; obtain ⟨y0, y1, y2, i0, i1, i2⟩ := ky.three
  go_upto_region 8 with (first | (go_at_call 26; refine (HN2.out _ bc).mono ?_; rintro e w1 ⟨⟨yA, yn, yc⟩, rfl, hn, hC⟩; dsimp only [cK]; have hbz := bc.size; have hwz := bw.size; have hbx9 := kx.lt; have hby9 := ky.lt; (try clear p0 p1 p2 p3 p4 p5 p6 p7); (try clear q0 q1 q2); (try clear x0 x1 x2 f0 f1 f2); (try clear y0 y1 y2 i0 i1 i2); replace km := km.on hC; replace kc := kc.on hC; replace kx := kx.on hC; replace ky := ky.on hC; replace hx := hx.on hC; replace bw := bw.trans (hC.mono bw.size); replace bc := bc.trans (hC.mono bc.size); clear hC; obtain ⟨p0, p1, p2, p3, p4, p5, p6, p7⟩ := km.eight; obtain ⟨q0, q1, q2, -⟩ := kc.three; obtain ⟨x0, x1, x2, f0, f1, f2⟩ := kx.three; obtain ⟨y0, y1, y2, i0, i1, i2⟩ := ky.three))
  have hG := grown3K w1 gky (.int .i64 bst) (.int .i64 bsl) (.slice yA yn yc)
  (try clear p0 p1 p2 p3 p4 p5 p6 p7); (try clear q0 q1 q2); (try clear x0 x1 x2 f0 f1 f2); (try clear y0 y1 y2 i0 i1 i2)
  replace hn := hn.put hG (by omega)
  replace km := km.grown hG (some_ne (by omega))
  replace kc := kc.grown hG (some_ne (by omega))
  replace kx := kx.grown hG (some_ne (by omega))
  replace hx := hx.put hG (by omega)
  replace bc := Below.off bc bc.size (by omega) hG
  replace bw := Below.off bw bw.size (by omega) hG
  replace ky := ky.put3K (.int .i64 bst) (.int .i64 bsl) (.slice yA yn yc)
  clear hG
  generalize (((w1.setCell ⟨gky, 0, none⟩ (.int .i64 bst)).setCell ⟨gky, 1, none⟩ (.int .i64 bsl)).setCell ⟨gky, 2, none⟩ (.slice yA yn yc)) = vky at *
  clear w1
  have hy := hn; clear hn hbx9 hby9
  obtain ⟨p0, p1, p2, p3, p4, p5, p6, p7⟩ := km.eight; obtain ⟨q0, q1, q2, -⟩ := kc.three; obtain ⟨x0, x1, x2, f0, f1, f2⟩ := kx.three; obtain ⟨y0, y1, y2, i0, i1, i2⟩ := ky.three
  go_upto_region 10 with (first | (go_at_call 15; refine (rsameK_any _ ⟨xA, xn, xc⟩ _ ⟨yA, yn, yc⟩ _ hx.ok hy.ok).mono ?_; rintro e w3 ⟨rfl, hC⟩; rw [sameK_self]; dsimp only; (try clear p0 p1 p2 p3 p4 p5 p6 p7); (try clear q0 q1 q2); (try clear x0 x1 x2 f0 f1 f2); (try clear y0 y1 y2 i0 i1 i2); replace km := km.on hC; replace kc := kc.on hC; replace kx := kx.on hC; replace ky := ky.on hC; replace hx := hx.on hC; replace hy := hy.on hC; replace bw := bw.trans (hC.mono bw.size); replace bc := bc.trans (hC.mono bc.size); clear hC; obtain ⟨p0, p1, p2, p3, p4, p5, p6, p7⟩ := km.eight; obtain ⟨q0, q1, q2, -⟩ := kc.three; obtain ⟨x0, x1, x2, f0, f1, f2⟩ := kx.three; obtain ⟨y0, y1, y2, i0, i1, i2⟩ := ky.three))
  clear hx hy
  go_upto_region 11 with (first | (go_at_call 27; refine (HJ1.out _ bc).mono ?_; rintro e w1 ⟨⟨xA, xn, xc⟩, rfl, hn, hC⟩; dsimp only [cK]; have hbz := bc.size; have hwz := bw.size; have hbx9 := kx.lt; have hby9 := ky.lt; (try clear p0 p1 p2 p3 p4 p5 p6 p7); (try clear q0 q1 q2); (try clear x0 x1 x2 f0 f1 f2); (try clear y0 y1 y2 i0 i1 i2); replace km := km.on hC; replace kc := kc.on hC; replace kx := kx.on hC; replace ky := ky.on hC; replace bw := bw.trans (hC.mono bw.size); replace bc := bc.trans (hC.mono bc.size); clear hC; obtain ⟨p0, p1, p2, p3, p4, p5, p6, p7⟩ := km.eight; obtain ⟨q0, q1, q2, -⟩ := kc.three; obtain ⟨x0, x1, x2, f0, f1, f2⟩ := kx.three; obtain ⟨y0, y1, y2, i0, i1, i2⟩ := ky.three))
  have hG := grown3K w1 gkx (.int .i64 cst) (.int .i64 csl) (.slice xA xn xc)
  (try clear p0 p1 p2 p3 p4 p5 p6 p7); (try clear q0 q1 q2); (try clear x0 x1 x2 f0 f1 f2); (try clear y0 y1 y2 i0 i1 i2)
  replace hn := hn.put hG (by omega)
  replace km := km.grown hG (some_ne (by omega))
  replace kc := kc.grown hG (some_ne (by omega))
  replace ky := ky.grown hG (some_ne (by omega))
  replace bc := Below.off bc bc.size (by omega) hG
  replace bw := Below.off bw bw.size (by omega) hG
  replace kx := kx.put3K (.int .i64 cst) (.int .i64 csl) (.slice xA xn xc)
  clear hG
  generalize (((w1.setCell ⟨gkx, 0, none⟩ (.int .i64 cst)).setCell ⟨gkx, 1, none⟩ (.int .i64 csl)).setCell ⟨gkx, 2, none⟩ (.slice xA xn xc)) = vkx at *
  clear w1
  have hx := hn; clear hn hbx9; have hkp := hby9; clear hby9
  obtain ⟨p0, p1, p2, p3, p4, p5, p6, p7⟩ := km.eight; obtain ⟨q0, q1, q2, -⟩ := kc.three; obtain ⟨x0, x1, x2, f0, f1, f2⟩ := kx.three; obtain ⟨y0, y1, y2, i0, i1, i2⟩ := ky.three
  go_upto_region 12 with (first | (go_at_call 28; refine (HJ2.out _ bc).mono ?_; rintro e w1 ⟨⟨yA, yn, yc⟩, rfl, hn, hC⟩; dsimp only [cK]; have hbz := bc.size; have hwz := bw.size; have hbx9 := kx.lt; have hby9 := ky.lt; (try clear p0 p1 p2 p3 p4 p5 p6 p7); (try clear q0 q1 q2); (try clear x0 x1 x2 f0 f1 f2); (try clear y0 y1 y2 i0 i1 i2); replace km := km.on hC; replace kc := kc.on hC; replace kx := kx.on hC; replace ky := ky.on hC; replace hx := hx.on hC; replace bw := bw.trans (hC.mono bw.size); replace bc := bc.trans (hC.mono bc.size); clear hC; obtain ⟨p0, p1, p2, p3, p4, p5, p6, p7⟩ := km.eight; obtain ⟨q0, q1, q2, -⟩ := kc.three; obtain ⟨x0, x1, x2, f0, f1, f2⟩ := kx.three; obtain ⟨y0, y1, y2, i0, i1, i2⟩ := ky.three))
  have hG := grown3K w1 gky (.int .i64 cst) (.int .i64 csl) (.slice yA yn yc)
  (try clear p0 p1 p2 p3 p4 p5 p6 p7); (try clear q0 q1 q2); (try clear x0 x1 x2 f0 f1 f2); (try clear y0 y1 y2 i0 i1 i2)
  replace hn := hn.put hG (by omega)
  replace km := km.grown hG (some_ne (by omega))
  replace kc := kc.grown hG (some_ne (by omega))
  replace kx := kx.grown hG (some_ne (by omega))
  replace hx := hx.put hG (by omega)
  replace bc := Below.off bc bc.size (by omega) hG
  replace bw := Below.off bw bw.size (by omega) hG
  replace ky := ky.put3K (.int .i64 cst) (.int .i64 csl) (.slice yA yn yc)
  clear hG
  generalize (((w1.setCell ⟨gky, 0, none⟩ (.int .i64 cst)).setCell ⟨gky, 1, none⟩ (.int .i64 csl)).setCell ⟨gky, 2, none⟩ (.slice yA yn yc)) = vky at *
  clear w1
  have hy := hn; clear hn hbx9 hby9
  obtain ⟨p0, p1, p2, p3, p4, p5, p6, p7⟩ := km.eight; obtain ⟨q0, q1, q2, -⟩ := kc.three; obtain ⟨x0, x1, x2, f0, f1, f2⟩ := kx.three; obtain ⟨y0, y1, y2, i0, i1, i2⟩ := ky.three
  have he := fun U (hb : Below w.heap.size w U) (hb2 : Below w0.heap.size w0 U) => jsame_any A Aw n dv.length c cw dv dv U HDN.out rfl HDM.out (by rw [← HDN.out]; exact HDM.out) ((HD.out.below hb).mono hb.size) ((HI.out.below hb2).mono hb2.size)
  rw [decide_eq_true rfl] at he
  have HE := Lib.hid he; clear he
  go_wp2_with (first
    | (go_at_call 15; refine (rsameK_any _ ⟨xA, xn, xc⟩ _ ⟨yA, yn, yc⟩ _ hx.ok hy.ok).mono ?_; rintro e w3 ⟨rfl, hC⟩; rw [sameK_self]; dsimp only; (try clear p0 p1 p2 p3 p4 p5 p6 p7); (try clear q0 q1 q2); (try clear x0 x1 x2 f0 f1 f2); (try clear y0 y1 y2 i0 i1 i2); replace km := km.on hC; replace kc := kc.on hC; replace kx := kx.on hC; replace ky := ky.on hC; replace hx := hx.on hC; replace hy := hy.on hC; replace bw := bw.trans (hC.mono bw.size); replace bc := bc.trans (hC.mono bc.size); clear hC; obtain ⟨p0, p1, p2, p3, p4, p5, p6, p7⟩ := km.eight; obtain ⟨q0, q1, q2, -⟩ := kc.three; obtain ⟨x0, x1, x2, f0, f1, f2⟩ := kx.three; obtain ⟨y0, y1, y2, i0, i1, i2⟩ := ky.three)
    | (go_at_call 29; refine (HE.out _ bc bw).mono ?_; rintro e w4 ⟨rfl, hC⟩; dsimp only; replace bc := bc.trans (hC.mono bc.size); clear hC))
  go_ret
  exact ⟨rfl, bc⟩
end Go.Proofs.Ytlkmipcenlhacaa
