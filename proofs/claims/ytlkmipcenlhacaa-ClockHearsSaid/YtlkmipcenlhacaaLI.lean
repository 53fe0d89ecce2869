/-
  The law of a frame that is heard: within the window, and within the slot. Conditions: what the program's functions answer. (Printed by tools/gen13i.py; laid ahead.)
-/
import Derived.Test.YtlkmipcenlhacaaLH
import Derived.BigRegion
namespace Go.Proofs.Ytlkmipcenlhacaa
open Go.RowKit

theorem near_eight8K {w0 : World} {g : Nat} {t : TypeId} {a b c d e f k l : Value} (h : Blk w0 g t #[a, b, c, d, e, f, k, l]) :
    (∀ n : NearW w0, n.W.cell? ⟨g, 0, none⟩ = some a) ∧ (∀ n : NearW w0, n.W.cell? ⟨g, 1, none⟩ = some b) ∧ (∀ n : NearW w0, n.W.cell? ⟨g, 2, none⟩ = some c) ∧ (∀ n : NearW w0, n.W.cell? ⟨g, 3, none⟩ = some d) ∧ (∀ n : NearW w0, n.W.cell? ⟨g, 4, none⟩ = some e) ∧ (∀ n : NearW w0, n.W.cell? ⟨g, 5, none⟩ = some f) ∧ (∀ n : NearW w0, n.W.cell? ⟨g, 6, none⟩ = some k) ∧ (∀ n : NearW w0, n.W.cell? ⟨g, 7, none⟩ = some l) := by
  have h8 := fun n : NearW w0 => (h.below n.h h.lt).eight
  exact ⟨fun n => (h8 n).1, fun n => (h8 n).2.1, fun n => (h8 n).2.2.1, fun n => (h8 n).2.2.2.1, fun n => (h8 n).2.2.2.2.1, fun n => (h8 n).2.2.2.2.2.1, fun n => (h8 n).2.2.2.2.2.2.1, fun n => (h8 n).2.2.2.2.2.2.2⟩
theorem near_twoK {w0 : World} {g : Nat} {t : TypeId} {a b : Value} (h : Blk w0 g t #[a, b]) : (∀ n : NearW w0, n.W.cell? ⟨g, 0, none⟩ = some a) ∧ (∀ n : NearW w0, n.W.cell? ⟨g, 1, none⟩ = some b) :=
  ⟨fun n => (h.below n.h h.lt).two.1, fun n => (h.below n.h h.lt).two.2.1⟩
theorem CkOk.start {n₀ : Nat} {W : World} {k : Ck} {v : Slc} (h : CkOk n₀ W k v) (z : Int) : CkOk n₀ W ⟨z, k.sl, k.dv⟩ v := ⟨h.d, h.dn, h.dc, h.dm, h.dz⟩
theorem sendK_ok {m : ML} {k : Ck} (h : (sendK m k).1 = 0) : chkK m k = 0 ∧ sendK m k = (0, k.st + m.G) := by
  unfold sendK at h ⊢
  by_cases h1 : chkK m k = 0
  · rw [if_pos h1]; exact ⟨h1, rfl⟩
  · rw [if_neg h1] at h; exact absurd h h1
theorem winK_ok {m : ML} {k : Ck} (h : (winK m k).1 = 0) : chkK m k = 0 ∧ winK m k = (0, max (expK m k - m.W) 0, expK m k + m.W + 1) := by
  unfold winK at h ⊢
  by_cases h1 : chkK m k = 0
  · rw [if_pos h1]; exact ⟨h1, rfl⟩
  · rw [if_neg h1] at h; exact absurd h h1
theorem slotK_ok {m : ML} {k : Ck} (h : (slotK m k).1 = 0) : chkK m k = 0 ∧ slotK m k = (0, k.st, k.st + m.S) := by
  unfold slotK at h ⊢
  by_cases h1 : chkK m k = 0
  · rw [if_pos h1]; exact ⟨h1, rfl⟩
  · rw [if_neg h1] at h; exact absurd h h1

set_option maxRecDepth 100000 in
set_option maxHeartbeats 4000000 in
theorem hears_law (hS : ClkSendC) (hW : ClkWindowC) (hC : ClkCorrectC) (hL : ClkSlotC) (m : ML) (c s : Slc) (k : Ck) (v : Slc) (x : Int) (w : World) (hM : Med w m c s) (hk : CkOk w.heap.size w k v) : Calls Try.prog 5 #[vM m c s, .agg (cK k v), .int .i64 x] w fun e w' => e = .returned (.bool true) ∧ Below w.heap.size w w' := by
  have h0 := fun U => begun13_any hS hW hC U
  have hp := fun U (hb : Below w.heap.size w U) => rprecision_any m c s U (hM.on hb)
  have hs := fun U (hb : Below w.heap.size w U) => hS m c s k v U (hM.on hb) (hk.on hb)
  have hw := fun z U (hb : Below w.heap.size w U) => hW m c s ⟨z, k.sl, k.dv⟩ v U (hM.on hb) ((hk.on hb).start z)
  have hl := fun z U (hb : Below w.heap.size w U) => hL m c s ⟨z, k.sl, k.dv⟩ v U (hM.on hb) ((hk.on hb).start z)
  have ha := fun U (hb : Below w.heap.size w U) => rmaxAir_any m c s U (hM.on hb)
  have o1 := fun h => sendK_ok (m := m) (k := k) h
  have o2 := fun z h => winK_ok (m := m) (k := ⟨z, k.sl, k.dv⟩) h
  have o3 := fun z h => slotK_ok (m := m) (k := ⟨z, k.sl, k.dv⟩) h
  have cz := fun (k' : Ck) h => (chkK_zero (m := m) (k := k')).1 h
  have hbn := fun h => okM_nums (m := m) h
  have har := maxAir_range m.N m.ms
  unfold Pr at hp
  unfold ResSp at hw hl
  have hpm : okM m → precM m = (0, 14 * m.N * m.D + 8) := fun h => by unfold precM; rw [if_pos (checkM_zero.2 h)]
  have hpn : ¬ okM m → precM m = (70, 0) := fun h => by unfold precM; rw [if_neg (fun h2 => h (checkM_zero.1 h2))]
  generalize precM m = PP at *
  obtain ⟨air, hair⟩ : ∃ air, air = maxAirS m.N m.ms := ⟨_, rfl⟩
  rw [← hair] at ha har hbn
  obtain ⟨ok, hokm⟩ : ∃ ok, ok = okM m := ⟨_, rfl⟩
  rw [← hokm] at hpm hpn cz hbn
  clear hM hk hS hW hC hL hair hokm
  obtain ⟨N, S, G, W, D, L, cold, ms⟩ := m
  obtain ⟨Ac, nc, cc⟩ := c
  obtain ⟨As, ns, cs⟩ := s
  obtain ⟨st, sl, dv⟩ := k
  obtain ⟨A, n, c⟩ := v
  dsimp only [vM, cK] at *
  obtain ⟨km, kc, bc⟩ := bx2 w #[.int .i64 N, .int .i64 S, .int .i64 G, .int .i64 W, .int .i64 D, .int .i64 L, .slice Ac nc cc, .slice As ns cs] #[.int .i64 st, .int .i64 sl, .slice A n c] 25 28
  obtain ⟨p0, p1, p2, p3, p4, p5, p6, p7⟩ := km.eight; obtain ⟨q0, q1, q2, -⟩ := kc.three
  have H0 := Lib.hid h0; clear h0
  by_cases hok : ok
  rotate_left
  · obtain rfl := hpn hok
    dsimp only at hp
    have HP := Lib.hid hp
    clear hp hs hw hl ha o1 o2 o3 cz hbn hpm hpn
    go_enter Try.func5, Try.ntmps5
    go_wp2_with (first | (go_at_call 30; refine (HP.out _ bc).mono ?_; rintro e w1 ⟨rfl, hC⟩; dsimp only; (try clear p0 p1 p2 p3 p4 p5 p6 p7); (try clear q0 q1 q2); replace km := km.on hC; replace kc := kc.on hC; replace bc := bc.trans (hC.mono bc.size); clear hC; obtain ⟨p0, p1, p2, p3, p4, p5, p6, p7⟩ := km.eight; obtain ⟨q0, q1, q2, -⟩ := kc.three) | (go_at_call 11; refine (H0.out _).mono ?_; rintro e w2 ⟨rfl, hC⟩; dsimp only; (try clear p0 p1 p2 p3 p4 p5 p6 p7); (try clear q0 q1 q2); replace km := km.on hC; replace kc := kc.on hC; replace bc := bc.trans (hC.mono bc.size); clear hC; obtain ⟨p0, p1, p2, p3, p4, p5, p6, p7⟩ := km.eight; obtain ⟨q0, q1, q2, -⟩ := kc.three))
    go_ret
    exact ⟨rfl, bc⟩
  obtain rfl := hpm hok
  obtain ⟨⟨n4, n8⟩, ⟨d0, d64⟩, ⟨l0, l1⟩, ⟨w0, w9⟩, ⟨g9, g8⟩, ⟨s9, s8⟩, hwn, hsa⟩ := hbn hok
  obtain ⟨P, hP⟩ : ∃ P, P = 14 * N * D + 8 := ⟨_, rfl⟩
  rw [← hP] at hp
  have hPb : 8 ≤ P ∧ P ≤ 7176 ∧ P ≤ W := by
    have h1 : N * D ≤ 8 * 64 := Int.mul_le_mul n8 d64 d0 (by omega)
    have h2 : 0 ≤ N * D := Int.mul_nonneg (by omega) d0
    have h3 : 14 * N * D = 14 * (N * D) := by rw [Int.mul_assoc]
    have h4 : 16 * N * D = 16 * (N * D) := by rw [Int.mul_assoc]
    rw [h3] at hP; rw [h4] at hwn
    omega
  dsimp only at hp
  obtain ⟨r, hr⟩ : ∃ r, r = x.tmod (P + 1) := ⟨_, rfl⟩
  have hrb : -P ≤ r ∧ r ≤ P := by
    rw [hr]
    have h1 := Int.tmod_lt_of_pos x (b := P + 1) (by omega)
    have h2 := Int.lt_tmod_of_pos x (b := P + 1) (by omega)
    omega
  obtain ⟨z, hz⟩ : ∃ z, z = wrap64 (st + r) := ⟨_, rfl⟩
  have hs2 := hs; have hw2 := hw z; have hl2 := hl z; have o2z := o2 z; have o3z := o3 z
  clear hs hw hl o2 o3
  generalize hR1 : sendK ⟨N, S, G, W, D, L, cold, ms⟩ ⟨st, sl, dv⟩ = R1 at *
  generalize hR2 : winK ⟨N, S, G, W, D, L, cold, ms⟩ ⟨z, sl, dv⟩ = R2 at *
  generalize hR3 : slotK ⟨N, S, G, W, D, L, cold, ms⟩ ⟨z, sl, dv⟩ = R3 at *
  clear hR1 hR2 hR3
  obtain ⟨e1, at_⟩ := R1
  obtain ⟨e2, lo, hi⟩ := R2
  obtain ⟨e3, fr, t9⟩ := R3
  dsimp only at hs2 hw2 hl2 o1 o2z o3z
  have HP := Lib.hid hp; have HS := Lib.hid hs2; have HW := Lib.hid hw2; have HL := Lib.hid hl2; have HA := Lib.hid ha
  have O1 := Lib.hid o1; have O2 := Lib.hid o2z; have O3 := Lib.hid o3z; have CZ := Lib.hid cz; have HZ := Lib.hid hz; have HR := Lib.hid hr
  clear hp hs2 hw2 hl2 ha o1 o2z o3z cz hbn hpm hpn hP hz hr
  have ep : IntKind.i64.wrap (P + 1) = P + 1 := IntWalk.i64_in _ (by omega)
  have ep0 : ¬ P + 1 = 0 := by omega
  go_enter Try.func5, Try.ntmps5
  go_upto_region 4 with (first | (go_at_call 30; refine (HP.out _ bc).mono ?_; rintro e w1 ⟨rfl, hC⟩; dsimp only; (try clear p0 p1 p2 p3 p4 p5 p6 p7); (try clear q0 q1 q2); replace km := km.on hC; replace kc := kc.on hC; replace bc := bc.trans (hC.mono bc.size); clear hC; obtain ⟨p0, p1, p2, p3, p4, p5, p6, p7⟩ := km.eight; obtain ⟨q0, q1, q2, -⟩ := kc.three) | (go_at_call 11; refine (H0.out _).mono ?_; rintro e w2 ⟨rfl, hC⟩; dsimp only; (try clear p0 p1 p2 p3 p4 p5 p6 p7); (try clear q0 q1 q2); replace km := km.on hC; replace kc := kc.on hC; replace bc := bc.trans (hC.mono bc.size); clear hC; obtain ⟨p0, p1, p2, p3, p4, p5, p6, p7⟩ := km.eight; obtain ⟨q0, q1, q2, -⟩ := kc.three))
  have w1q : ∃ q, q = w2 := ⟨_, rfl⟩
  clear w1q
  have ko := Blk.new w2 28 #[.int .i64 st, .int .i64 sl, .slice A n c]
  have al := Below.al w2 (.cells #[.int .i64 st, .int .i64 sl, .slice A n c] 28)
  go_upto_region 5 with fail
  (try clear p0 p1 p2 p3 p4 p5 p6 p7); (try clear q0 q1 q2)
  have hgo := kc.lt
  replace km := km.on al; replace kc := kc.on al; replace bc := bc.trans (al.mono bc.size); clear al
  generalize w2.alloc (.cells #[.int .i64 st, .int .i64 sl, .slice A n c] 28) = u1 at *
  generalize w2.heap.size = go_ at *
  clear w2
  have hd : Below u1.heap.size u1 u1.drew := (Below.refl _ _).drew
  obtain ⟨q0, q1, q2, -⟩ := (kc.on hd).three
  obtain ⟨o0, o1, o2, f0, f1, f2⟩ := (ko.on hd).three
  have hrr := HR.out
  have hzz := HZ.out
  rw [hrr] at hzz
  go_wp2_with fail
  go_region
  have hz2 : wrap64 (st + x.tmod (P + 1)) = z := by rw [HZ.out, HR.out]
  rw [hz2]
  clear hz2 hrr hzz o0 o1 o2 f0 f1 f2 q0 q1 q2 hd ep ep0
  have hG := only_setCell (World.grownBy.refl u1 (some go_)) (p := ⟨go_, 0, none⟩) (.inl rfl) (.int .i64 z)
  have ko2 : Blk (u1.setCell ⟨go_, 0, none⟩ (.int .i64 z)) go_ 28 #[.int .i64 z, .int .i64 sl, .slice A n c] := by simpa using ko.set_ 0 (.int .i64 z)
  have km2 := km.grown hG (some_ne (by omega)); have kc2 := kc.grown hG (some_ne (by omega)); have bc2 := Below.off bc bc.size (by omega) hG
  have hd : Below (u1.setCell ⟨go_, 0, none⟩ (.int .i64 z)).heap.size (u1.setCell ⟨go_, 0, none⟩ (.int .i64 z)) (u1.setCell ⟨go_, 0, none⟩ (.int .i64 z)).drew := (Below.refl _ _).drew
  clear km kc ko bc hG
  have km := km2.on hd; have kc := kc2.on hd; have ko := ko2.on hd; have bc := bc2.trans (hd.mono bc2.size)
  clear km2 kc2 ko2 bc2 hd
  generalize (u1.setCell ⟨go_, 0, none⟩ (.int .i64 z)).drew = u2 at *
  clear u1
  obtain ⟨p0, p1, p2, p3, p4, p5, p6, p7⟩ := km.eight; obtain ⟨q0, q1, q2, -⟩ := kc.three; obtain ⟨o0, o1, o2, -⟩ := ko.three
  go_upto_region 8 with (first | (go_at_call 18; refine (HS.out _ bc).mono ?_; rintro e w1 ⟨rfl, hC⟩; dsimp only; (try clear p0 p1 p2 p3 p4 p5 p6 p7); (try clear q0 q1 q2); (try clear o0 o1 o2); (try clear f0 f1 f2); replace km := km.on hC; replace kc := kc.on hC; replace ko := ko.on hC; replace bc := bc.trans (hC.mono bc.size); clear hC; obtain ⟨p0, p1, p2, p3, p4, p5, p6, p7⟩ := km.eight; obtain ⟨q0, q1, q2, -⟩ := kc.three; obtain ⟨o0, o1, o2, -⟩ := ko.three) | (go_at_call 16; refine (HW.out _ bc).mono ?_; rintro e w1 ⟨rfl, hC⟩; dsimp only; (try clear p0 p1 p2 p3 p4 p5 p6 p7); (try clear q0 q1 q2); (try clear o0 o1 o2); (try clear f0 f1 f2); replace km := km.on hC; replace kc := kc.on hC; replace ko := ko.on hC; replace bc := bc.trans (hC.mono bc.size); clear hC; obtain ⟨p0, p1, p2, p3, p4, p5, p6, p7⟩ := km.eight; obtain ⟨q0, q1, q2, -⟩ := kc.three; obtain ⟨o0, o1, o2, -⟩ := ko.three))
  have kx := Blk.new w1 30 #[.int .i64 lo, .int .i64 hi]
  have al := Below.al w1 (.cells #[.int .i64 lo, .int .i64 hi] 30)
  (try clear p0 p1 p2 p3 p4 p5 p6 p7); (try clear q0 q1 q2); (try clear o0 o1 o2); (try clear f0 f1 f2)
  replace km := km.on al; replace kc := kc.on al; replace ko := ko.on al; replace bc := bc.trans (al.mono bc.size); clear al
  generalize w1.alloc (.cells #[.int .i64 lo, .int .i64 hi] 30) = ukx at *
  generalize w1.heap.size = gkx at *
  clear w1
  obtain ⟨p0, p1, p2, p3, p4, p5, p6, p7⟩ := km.eight; obtain ⟨q0, q1, q2, -⟩ := kc.three; obtain ⟨o0, o1, o2, -⟩ := ko.three
  obtain ⟨x0, x1, -, -⟩ := kx.two
  go_upto_region 9 with (first | (go_at_call 9; refine (HL.out _ bc).mono ?_; rintro e w1 ⟨rfl, hC⟩; dsimp only; (try clear p0 p1 p2 p3 p4 p5 p6 p7); (try clear q0 q1 q2); (try clear o0 o1 o2); (try clear f0 f1 f2); replace km := km.on hC; replace kc := kc.on hC; replace ko := ko.on hC; replace bc := bc.trans (hC.mono bc.size); replace kx := kx.on hC; clear hC; obtain ⟨p0, p1, p2, p3, p4, p5, p6, p7⟩ := km.eight; obtain ⟨q0, q1, q2, -⟩ := kc.three; obtain ⟨o0, o1, o2, -⟩ := ko.three; (try clear x0 x1); obtain ⟨x0, x1, -, -⟩ := kx.two))
  have ky := Blk.new w1 30 #[.int .i64 fr, .int .i64 t9]
  have al := Below.al w1 (.cells #[.int .i64 fr, .int .i64 t9] 30)
  (try clear p0 p1 p2 p3 p4 p5 p6 p7); (try clear q0 q1 q2); (try clear o0 o1 o2); (try clear f0 f1 f2); (try clear x0 x1)
  replace km := km.on al; replace kc := kc.on al; replace ko := ko.on al; replace kx := kx.on al; replace bc := bc.trans (al.mono bc.size); clear al
  generalize w1.alloc (.cells #[.int .i64 fr, .int .i64 t9] 30) = uky at *
  generalize w1.heap.size = gky at *
  clear w1
  obtain ⟨p0, p1, p2, p3, p4, p5, p6, p7⟩ := km.eight; obtain ⟨q0, q1, q2, -⟩ := kc.three; obtain ⟨o0, o1, o2, -⟩ := ko.three
  obtain ⟨x0, x1, -, -⟩ := kx.two
  obtain ⟨y0, y1, -, -⟩ := ky.two
  by_cases he1 : e1 = 0
  rotate_left
  · have d1 : (e1 != 0) = true := by simpa using he1
    go_wp2
    go_ret
    exact ⟨rfl, bc⟩
  subst he1
  by_cases he2 : e2 = 0
  rotate_left
  · have d1 : (e2 != 0) = true := by simpa using he2
    go_wp2
    go_ret
    exact ⟨rfl, bc⟩
  subst he2
  by_cases he3 : e3 = 0
  rotate_left
  · have d1 : (e3 != 0) = true := by simpa using he3
    go_wp2
    go_ret
    exact ⟨rfl, bc⟩
  subst he3
  obtain ⟨k1, hv1⟩ := O1.out rfl
  obtain ⟨k2, hv2⟩ := O2.out rfl
  obtain ⟨k3, hv3⟩ := O3.out rfl
  obtain ⟨-, ⟨⟨t0, t1⟩, -⟩, -⟩ := CZ.out _ k1
  obtain ⟨-, ⟨⟨z0, z1⟩, -⟩, -⟩ := CZ.out _ k2
  unfold expK at hv2
  injection hv1 with _ hv1
  injection hv2 with _ hv2
  injection hv2 with hv2 hv4
  injection hv3 with _ hv3
  injection hv3 with hv3 hv5
  dsimp only at t0 t1 z0 z1 hv1 hv2 hv4 hv3 hv5
  have hzz : z = st + r := by rw [HZ.out]; unfold wrap64; omega
  subst hv1 hv3
  have e1 : IntKind.i64.wrap (st + G + L) = st + G + L := IntWalk.i64_in _ (by omega)
  have e2 : IntKind.i64.wrap (st + G + L + air) = st + G + L + air := IntWalk.i64_in _ (by omega)
  have g1 : decide (lo ≤ st + G + L) = true := by simp; omega
  have g2 : decide (st + G + L < hi) = true := by simp; omega
  have g3 : decide (fr ≤ st + G + L) = true := by simp; omega
  have g4 : decide (st + G + L + air ≤ t9) = true := by simp; omega
  clear k1 k2 k3 hv2 hv4 hv5 hzz t0 t1 z0 z1
  go_upto_region 12 with fail
  (try clear p0 p1 p2 p3 p4 p5 p6 p7); (try clear q0 q1 q2)
  (try clear o0 o1 o2 x0 x1 y0 y1)
  obtain ⟨p0, p1, p2, p3, p4, p5, p6, p7⟩ := near_eight8K km
  obtain ⟨x0, x1⟩ := near_twoK kx
  obtain ⟨y0, y1⟩ := near_twoK ky
  have BC := Lib.hid bc
  have HA2 := Lib.hid (fun nw : NearW uky => HA.out nw.W (BC.out.trans (nw.h.mono BC.out.size)))
  clear km kc ko kx ky bc
  go_wp2_with fail
  refine wp_region_near (by kernel_rfl) (by kernel_rfl) ?_
  repeat (go_big_quiet_step (first
    | (go_at_call 31; with_reducible exact near_call (HA2.out _))))
  refine wpQuiet_nil ?_
  rintro _ ⟨nw, rfl⟩
  go_wp2
  go_ret
  exact ⟨rfl, BC.out.trans (nw.h.mono BC.out.size)⟩
end Go.Proofs.Ytlkmipcenlhacaa
