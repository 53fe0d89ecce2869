/-
  The document's own Parse of layer 7. Condition: bytes that can be read. (Printed by tools/gen07mi.py.)
-/
import Derived.Test.YtnmaelefcohogaaDoorMh
import Derived.Deep.CutRange
namespace Go.Proofs.YtnmaelefcohogaaDoor
open Go.RowKit

set_option maxRecDepth 100000 in
set_option maxHeartbeats 2000000 in
theorem rparse_any (A : Option Addr) (n c : Nat) (bs : List UInt8) (w : World) (hn : n = bs.length) (hc : n ≤ c) (hcm : c ≤ maxLen) (hA : Byt w.heap.size w A bs) : Calls Tryd.prog 8 #[.slice A n c] w (PaR w bs) := by
  by_cases hx : bs.length < 18 ∨ 8 < byteN bs 1 ∨ 4 < byteN bs 2 ∨ bs.length ≠ 18 + byteN bs 2 * (byteN bs 1 + 2) + 3
  · exact rparse_bad A n c bs w hn hA hx
  unfold maxLen at hcm
  obtain ⟨b, off, rfl, hb, -⟩ := hA (by rintro rfl; simp at hx)
  have hpo : parseOk bs ↔ (okM (readM bs) ∧ bytesM (readM bs) = bs) := ⟨fun h => h.2, fun h => ⟨by unfold isLen; simp; omega, h⟩⟩
  have hgo : parseOk bs → parseM bs = readM bs ∧ parseE bs = 0 := fun h => ⟨if_pos h, if_pos h⟩
  have hcb : okM (readM bs) → bytesS (readM bs) = bytesM (readM bs) := fun h => if_pos h
  have hby := fun W c s (h : Med W (readM bs) c s) => rbytes_any (readM bs) c s W h
  obtain ⟨R, hR⟩ : ∃ R, R = readM bs := ⟨_, rfl⟩
  rw [← hR] at hpo hgo hcb
  simp only [← hR] at hby
  unfold readM at hR
  have cel := fun j W (h : Below w.heap.size w W) => ((hA.below h).mono h.size).at_ (k := j)
  obtain ⟨N, hN⟩ : ∃ N, N = byteN bs 1 := ⟨_, rfl⟩
  obtain ⟨M, hM⟩ : ∃ M, M = byteN bs 2 := ⟨_, rfl⟩
  rw [← hN, ← hM] at hx hR
  have hN8 : N ≤ 8 := by omega
  have hM4 : M ≤ 4 := by omega
  have hlen : n = 18 + M * (N + 2) + 3 := by omega
  clear hx
  have hMN : M * (N + 2) ≤ 40 := Nat.mul_le_mul (show M ≤ 4 from hM4) (show N + 2 ≤ 10 by omega)
  have hcl : ∀ j, j < n → w.cell? ⟨b, off + j, none⟩ = some (.int .u8 (byteN bs j : Nat)) := fun j hj => by
    obtain ⟨b', off', e, -, h⟩ := hA (by rintro rfl; simp at hn; omega)
    injection e with e
    injection e with e1 e2 _
    subst e1; subst e2
    exact h j (by omega)
  have hcb2 : ∀ j W (h : Below w.heap.size w W), j < n → W.cell? ⟨b, off + j, none⟩ = some (.int .u8 (byteN bs j : Nat)) := fun j W h hj => (h.cell (p := ⟨b, off + j, none⟩) hb).trans (hcl j hj)
  obtain ⟨S, hS⟩ : ∃ x, x = numAt bs 3 4 := ⟨_, rfl⟩
  have tS := fun (W : World) (k : Nat) (h : Below w.heap.size w W) => rnumber_at b off 3 k bs W (by omega) ((hA.below h).mono h.size)
  rw [← hS] at hR tS
  obtain ⟨G, hG⟩ : ∃ x, x = numAt bs 7 4 := ⟨_, rfl⟩
  have tG := fun (W : World) (k : Nat) (h : Below w.heap.size w W) => rnumber_at b off 7 k bs W (by omega) ((hA.below h).mono h.size)
  rw [← hG] at hR tG
  obtain ⟨T, hT⟩ : ∃ x, x = numAt bs 11 4 := ⟨_, rfl⟩
  have tT := fun (W : World) (k : Nat) (h : Below w.heap.size w W) => rnumber_at b off 11 k bs W (by omega) ((hA.below h).mono h.size)
  rw [← hT] at hR tT
  obtain ⟨D, hD⟩ : ∃ x, x = byteN bs 15 := ⟨_, rfl⟩
  obtain ⟨L, hL⟩ : ∃ x, x = byteN bs 16 := ⟨_, rfl⟩
  obtain ⟨V, hV⟩ : ∃ x, x = byteN bs 17 := ⟨_, rfl⟩
  rw [← hD, ← hL, ← hV] at hR
  have k1 := fun W h => hcb2 1 W h (by omega)
  have k2 := fun W h => hcb2 2 W h (by omega)
  have k15 := fun W h => hcb2 15 W h (by omega)
  have k16 := fun W h => hcb2 16 W h (by omega)
  have k17 := fun W h => hcb2 17 W h (by omega)
  rw [← hN] at k1
  rw [← hM] at k2
  rw [← hD] at k15
  rw [← hL] at k16
  rw [← hV] at k17
  have hD8 : D < 256 := by rw [hD]; exact (bs[15]?.getD 0).toNat_lt
  have hL8 : L < 256 := by rw [hL]; exact (bs[16]?.getD 0).toNat_lt
  have hV8 : V < 256 := by rw [hV]; exact (bs[17]?.getD 0).toNat_lt
  have hnb : n = bs.length := hn
  have HPO := Lib.hid hpo; have HGO := Lib.hid hgo; have HCB := Lib.hid hcb; have HBY := Lib.hid hby; have HR := Lib.hid hR; have HLEN := Lib.hid hlen; have HCL := Lib.hid hcb2; have HNB := Lib.hid hnb; have HA := Lib.hid hA
  have TS := Lib.hid tS; have TG := Lib.hid tG; have TT := Lib.hid tT
  have K1 := Lib.hid k1; have K2 := Lib.hid k2; have K15 := Lib.hid k15; have K16 := Lib.hid k16; have K17 := Lib.hid k17
  have hn21 : 21 ≤ n := by omega
  have hn61 : n ≤ 61 := by omega
  clear hpo hgo hcb hby hR cel hlen hcl hcb2 hnb hn hA tS tG tT k1 k2 k15 k16 k17 hN hM hS hG hT hD hL hV
  obtain ⟨kr, bc⟩ := bx1 w #[.int .i64 0, .int .i64 0, .int .i64 0, .int .i64 0, .int .i64 0, .int .i64 0, .slice none 0 0, .slice none 0 0] 25
  have d0 : decide ((n : Int) < 18) = false := by simp; omega
  have d1 : decide ((8 : Int) < (N : Int)) = false := by simp; omega
  have d2 : decide ((4 : Int) < (M : Int)) = false := by simp; omega
  have e1 : IntKind.i64.wrap (N : Int) = (N : Int) := IntWalk.i64_in _ (by omega)
  have e2 : IntKind.i64.wrap (M : Int) = (M : Int) := IntWalk.i64_in _ (by omega)
  have e3 : IntKind.i64.wrap ((N : Int) + 2) = (N : Int) + 2 := IntWalk.i64_in _ (by omega)
  have e0 : (M : Int) * ((N : Int) + 2) = ((M * (N + 2) : Nat) : Int) := by simp
  obtain ⟨Q, hQ⟩ : ∃ Q, Q = M * (N + 2) := ⟨_, rfl⟩
  rw [← hQ] at e0 hMN
  have e4 : IntKind.i64.wrap ((M : Int) * ((N : Int) + 2)) = (Q : Int) := by rw [e0]; exact IntWalk.i64_in _ (by omega)
  have e5 : IntKind.i64.wrap (Q : Int) = (Q : Int) := IntWalk.i64_in _ (by omega)
  have e6 : IntKind.i64.wrap (18 + (Q : Int)) = 18 + (Q : Int) := IntWalk.i64_in _ (by omega)
  have e7 : IntKind.i64.wrap (18 + (Q : Int) + 3) = 18 + (Q : Int) + 3 := IntWalk.i64_in _ (by omega)
  have hres : ((n : Int) == 18 + (Q : Int) + 3) = true := by
    rw [beq_iff_eq]
    have := HLEN.out
    omega
  have hres2 : ((n : Int) != 18 + (Q : Int) + 3) = false := by rw [bne, hres]; rfl
  clear hQ e0
  go_enter Tryd.func8, Tryd.ntmps8
  go_wp2_with fail
  generalize w.alloc (.cells #[.int .i64 0, .int .i64 0, .int .i64 0, .int .i64 0, .int .i64 0, .int .i64 0, .slice none 0 0, .slice none 0 0] 25) = u0 at *
  have c1 : ∀ m : NearW u0, m.W.cell? ⟨b, off + 1, none⟩ = some (.int .u8 (N : Int)) := fun m => K1.out _ (below_then bc m.h)
  have c2 : ∀ m : NearW u0, m.W.cell? ⟨b, off + 2, none⟩ = some (.int .u8 (M : Int)) := fun m => K2.out _ (below_then bc m.h)
  refine wp_region_near (by kernel_rfl) (by kernel_rfl) ?_
  repeat (go_big_quiet_step (fail))
  refine wpQuiet_nil ?_
  rintro _ ⟨nw, rfl⟩
  replace kr := kr.on nw.h; replace bc := below_then bc nw.h
  generalize nw.W = u1 at *
  replace hb : b < u1.heap.size := by have := bc.size; omega
  go_wp2_with fail
  clear c1 c2 d0 d1 d2 e3 e4 e5 e6 e7 hres hres2
  have hd : Below u1.heap.size u1 u1.drew := (Below.refl _ _).drew
  replace kr := kr.on hd; replace bc := bc.trans (hd.mono bc.size); clear hd
  have p1 := K1.out _ bc; have p15 := K15.out _ bc; have p16 := K16.out _ bc
  have bu : Below w.heap.size w u1 := ⟨bc.os, bc.tape, bc.output, bc.size, bc.block⟩
  have bcB : Below w.heap.size w (u1.alloc (.cells #[.int .i64 0, .int .i64 0, .int .i64 0, .int .i64 0, .int .i64 0, .int .i64 0, .slice none 0 0, .slice none 0 0] 25)).drew := (bu.trans ((Below.al u1 (.cells #[.int .i64 0, .int .i64 0, .int .i64 0, .int .i64 0, .int .i64 0, .int .i64 0, .slice none 0 0, .slice none 0 0] 25)).mono bu.size)).drew
  have bcC : Below w.heap.size w (u1.alloc (.cells #[.int .i64 (N : Int), .int .i64 (S : Int), .int .i64 (G : Int), .int .i64 (T : Int), .int .i64 (D : Int), .int .i64 (L : Int), .slice none 0 0, .slice none 0 0] 25)).drew := (bu.trans ((Below.al u1 (.cells #[.int .i64 (N : Int), .int .i64 (S : Int), .int .i64 (G : Int), .int .i64 (T : Int), .int .i64 (D : Int), .int .i64 (L : Int), .slice none 0 0, .slice none 0 0] 25)).mono bu.size)).drew
  have q1 := K1.out _ bcB; have q15 := K15.out _ bcB; have q16 := K16.out _ bcB
  have r1 := K1.out _ bcC; have r15 := K15.out _ bcC; have r16 := K16.out _ bcC
  have i1 : (1 : Int) < (n : Int) := by omega
  have i15 : (15 : Int) < (n : Int) := by omega
  have i16 : (16 : Int) < (n : Int) := by omega
  have i7 : (7 : Int) ≤ (c : Int) := by omega
  have i11 : (11 : Int) ≤ (c : Int) := by omega
  have i15c : (15 : Int) ≤ (c : Int) := by omega
  have n3 : ¬ c = 3 := by omega
  have n7 : ¬ c = 7 := by omega
  have n11 : ¬ c = 11 := by omega
  have eD : IntKind.i64.wrap (D : Int) = (D : Int) := IntWalk.i64_in _ (by omega)
  have eL : IntKind.i64.wrap (L : Int) = (L : Int) := IntWalk.i64_in _ (by omega)
  go_cut [4] from 44 to 65 (fun p wx => p = .pointer (some ⟨u1.heap.size, 0, none⟩) ∧ wx = (u1.alloc (.cells #[.int .i64 (N : Int), .int .i64 (S : Int), .int .i64 (G : Int), .int .i64 (T : Int), .int .i64 (D : Int), .int .i64 (L : Int), .slice none 0 0, .slice none 0 0] 25)).drew)
  case first =>
    go_region_held3 (fun w' => w'.cell? ⟨b, off + 1, none⟩ = some (.int .u8 (N : Int)) ∧ w'.cell? ⟨b, off + 15, none⟩ = some (.int .u8 (D : Int)) ∧ w'.cell? ⟨b, off + 16, none⟩ = some (.int .u8 (L : Int))) (first | exact ⟨p1, p15, p16⟩ | exact ⟨q1, q15, q16⟩ | exact ⟨r1, r15, r16⟩) (first
      | (go_at_call 22; with_reducible refine (TS.out _ _ (by first | exact bc | exact bcB)).mono ?_; rintro e w2 ⟨rfl, rfl⟩; dsimp only)
      | (go_at_call 22; with_reducible refine (TG.out _ _ (by first | exact bc | exact bcB)).mono ?_; rintro e w2 ⟨rfl, rfl⟩; dsimp only)
      | (go_at_call 22; with_reducible refine (TT.out _ _ (by first | exact bc | exact bcB)).mono ?_; rintro e w2 ⟨rfl, rfl⟩; dsimp only))
    all_goals (go_wp2_with fail; go_meet; exact ⟨rfl, rfl⟩)
  case rest =>
    obtain ⟨rfl, rfl⟩ := hcut
    have bx : Below w.heap.size w (u1.alloc (.cells #[.int .i64 (N : Int), .int .i64 (S : Int), .int .i64 (G : Int), .int .i64 (T : Int), .int .i64 (D : Int), .int .i64 (L : Int), .slice none 0 0, .slice none 0 0] 25)).drew := (bu.trans ((Below.al u1 (.cells #[.int .i64 (N : Int), .int .i64 (S : Int), .int .i64 (G : Int), .int .i64 (T : Int), .int .i64 (D : Int), .int .i64 (L : Int), .slice none 0 0, .slice none 0 0] 25)).mono bu.size)).drew
    have kq : Blk (u1.alloc (.cells #[.int .i64 (N : Int), .int .i64 (S : Int), .int .i64 (G : Int), .int .i64 (T : Int), .int .i64 (D : Int), .int .i64 (L : Int), .slice none 0 0, .slice none 0 0] 25)).drew u1.heap.size 25 #[.int .i64 (N : Int), .int .i64 (S : Int), .int .i64 (G : Int), .int .i64 (T : Int), .int .i64 (D : Int), .int .i64 (L : Int), .slice none 0 0, .slice none 0 0] := (Blk.new u1 25 #[.int .i64 (N : Int), .int .i64 (S : Int), .int .i64 (G : Int), .int .i64 (T : Int), .int .i64 (D : Int), .int .i64 (L : Int), .slice none 0 0, .slice none 0 0]).drew
    have krx : Blk (u1.alloc (.cells #[.int .i64 (N : Int), .int .i64 (S : Int), .int .i64 (G : Int), .int .i64 (T : Int), .int .i64 (D : Int), .int .i64 (L : Int), .slice none 0 0, .slice none 0 0] 25)).drew w.heap.size 25 #[.int .i64 0, .int .i64 0, .int .i64 0, .int .i64 0, .int .i64 0, .int .i64 0, .slice none 0 0, .slice none 0 0] := ((show Blk u1 w.heap.size 25 #[.int .i64 0, .int .i64 0, .int .i64 0, .int .i64 0, .int .i64 0, .int .i64 0, .slice none 0 0, .slice none 0 0] from kr).alloc _).drew
    have hwq : w.heap.size < u1.heap.size := kr.lt
    clear kr bc bu bcB bcC p1 p15 p16 q1 q15 q16 r1 r15 r16 i1 i15 i16 i7 i11 i15c n3 n7 n11 eD eL TS TG TT K1 K15 K16
    have kr := krx; have bc := bx; clear krx bx
    generalize (u1.alloc (.cells #[.int .i64 (N : Int), .int .i64 (S : Int), .int .i64 (G : Int), .int .i64 (T : Int), .int .i64 (D : Int), .int .i64 (L : Int), .slice none 0 0, .slice none 0 0] 25)).drew = x1 at *
    generalize u1.heap.size = q at *
    have i17 : (17 : Int) < (n : Int) := by omega
    have p17 := K17.out _ bc
    obtain ⟨p0, p1, p2, p3, p4, p5, p6, p7⟩ := kq.eight
    obtain ⟨f0, f1, f2, f3, f4, f5, f6, f7⟩ := kq.eightF
    have lq := kq.lt
    go_wp2_with fail
    have hd : Below x1.heap.size x1 x1.drew := (Below.refl _ _).drew
    have kr2 := kr.on hd; have kq2 := kq.on hd; have bc2 := bc.trans (hd.mono bc.size); clear hd
    have hbx : b < x1.heap.size := by omega
    go_cut [4] from 66 to 72 (fun p wx => p = .pointer (some ⟨q, 0, none⟩) ∧ ∃ cA cc w4, wx = World.setCell w4 ⟨q, 6, none⟩ (.slice cA N cc) ∧ Blk w4 w.heap.size 25 #[.int .i64 0, .int .i64 0, .int .i64 0, .int .i64 0, .int .i64 0, .int .i64 0, .slice none 0 0, .slice none 0 0] ∧ Blk w4 q 25 #[.int .i64 (N : Int), .int .i64 (S : Int), .int .i64 (G : Int), .int .i64 (T : Int), .int .i64 (D : Int), .int .i64 (L : Int), .slice none 0 0, .slice none 0 0] ∧ Below w.heap.size w w4 ∧ w4.ownsRow 0 4 1 (.slice cA N cc) N ((bitsN V N).map Value.bool))
    case first =>
      go_region_with (go_at_call 23; refine (rlist_any V N _ hN8).mono ?_; rintro e w4 ⟨cA, cc, rfl, hoc, hC⟩; dsimp only; replace kr := kr2.on hC; replace kq := kq2.on hC; replace bc := bc2.trans (hC.mono bc2.size); clear p0 p1 p2 p3 p4 p5 p6 p7 f0 f1 f2 f3 f4 f5 f6 f7 lq; obtain ⟨p0, p1, p2, p3, p4, p5, p6, p7⟩ := kq.eight; obtain ⟨f0, f1, f2, f3, f4, f5, f6, f7⟩ := kq.eightF; have lq := kq.lt)
      all_goals (go_wp2_with fail; go_meet; exact ⟨rfl, _, _, _, rfl, kr, kq, bc, own_zero hoc⟩)
    case rest =>
      clear kr kq bc kr2 kq2 bc2 p0 p1 p2 p3 p4 p5 p6 p7 f0 f1 f2 f3 f4 f5 f6 f7 lq hbx p17 i17 K17
      obtain ⟨rfl, cA, cc, w4, rfl, kr, kq, bc, hoc⟩ := hcut
      have hqw := kq.lt
      have hG := only_setCell (World.grownBy.refl w4 (some q)) (p := ⟨q, 6, none⟩) (.inl rfl) (.slice cA N cc)
      have kq2 : Blk (w4.setCell ⟨q, 6, none⟩ (.slice cA N cc)) q 25 #[.int .i64 (N : Int), .int .i64 (S : Int), .int .i64 (G : Int), .int .i64 (T : Int), .int .i64 (D : Int), .int .i64 (L : Int), .slice cA N cc, .slice none 0 0] := by simpa using kq.set_ 6 (.slice cA N cc)
      replace hoc := own_set (j := 6) hoc (own_ne_blk hoc kq (by decide)) (.slice cA N cc)
      replace kr := kr.grown hG (some_ne (by omega))
      replace bc := Below.off bc bc.size (by omega) hG
      clear hG kq; have kq := kq2; clear kq2
      generalize w4.setCell ⟨q, 6, none⟩ (.slice cA N cc) = x5 at *
      clear hqw
      go_wp2_with fail
      obtain ⟨i0, hi, hz0, hz1, hz2⟩ := info_parts Tryd.infoMode
      obtain ⟨i1, gi, gz0, gz1, gz2⟩ := info_parts Tryd.infoInt
      go_loopw [5, 6] (fun x i wr => ∃ (k : Nat) (vs : List MdV) (vA : Option Addr) (vc : Nat), k ≤ M ∧ x = .int .i64 ((18 + k * (N + 2) : Nat) : Int) ∧ i = .int .i64 k ∧ Blk wr w.heap.size 25 #[.int .i64 0, .int .i64 0, .int .i64 0, .int .i64 0, .int .i64 0, .int .i64 0, .slice none 0 0, .slice none 0 0] ∧ Blk wr q 25 #[.int .i64 (N : Int), .int .i64 (S : Int), .int .i64 (G : Int), .int .i64 (T : Int), .int .i64 (D : Int), .int .i64 (L : Int), .slice cA N cc, .slice vA k vc] ∧ wr.ownsRow 0 4 1 (.slice cA N cc) N ((bitsN V N).map Value.bool) ∧ ModesRd bs N M k vs wr ∧ wr.ownsRow (q + 1) 46 3 (.slice vA k vc) k (cellsOs vs) ∧ Below w.heap.size w wr) (fun _ i _ => M - (intOf i).toNat)
      case atStart => exact ⟨0, [], none, 0, by omega, by simp, rfl, kr, kq, hoc, ⟨rfl, fun i hi => by omega⟩, World.ownsRow_nil _ _ _ _, bc⟩
      case round =>
        clear kr kq hoc bc
        obtain ⟨k, vs, vA, vc, hk, rfl, rfl, kr, kq, hoc, hV, ho, bc⟩ := hrel
        obtain ⟨wo, hwo⟩ : ∃ x, x = wr := ⟨_, rfl⟩
        subst hwo
        have p2 := K2.out _ bc
        have hbo : b < wo.heap.size := by have := bc.size; have := kq.lt; omega
        obtain ⟨J, hJ⟩ : ∃ J, J = 18 + k * (N + 2) := ⟨_, rfl⟩
        rw [← hJ]
        have HJ := Lib.hid hJ; clear hJ
        have i2 : (2 : Int) < (n : Int) := by omega
        by_cases hlt : k < M
        · have hQ : k * (N + 2) + (N + 2) ≤ M * (N + 2) := by
            have h := Nat.mul_le_mul_right (N + 2) (show k + 1 ≤ M by omega)
            rwa [Nat.add_mul, Nat.one_mul] at h
          have hJn : J + N + 2 + 3 ≤ n := by have := HLEN.out; have := HJ.out; omega
          clear hQ
          have ko := Blk.new wo 46 #[.slice none 0 0, .slice none 0 0, .slice none 0 0]
          have hU := Below.al wo (.cells #[.slice none 0 0, .slice none 0 0, .slice none 0 0] 46)
          have kr1 := kr.on hU; have kq1 := kq.on hU; have bc1 := bc.trans (hU.mono bc.size)
          obtain ⟨p0, p1, p3, p4, p5, p6, p7, p8⟩ := kq1.eight
          have lq := kq1.lt
          go_wp2_with fail
          generalize wo.alloc (.cells #[.slice none 0 0, .slice none 0 0, .slice none 0 0] 46) = y1 at *
          clear p0 p1 p3 p4 p5 p6 p7 p8 lq kr1 kq1 bc1
          go_loopw [8] (fun i wr2 => ∃ (k2 : Nat) (A2 : Option Addr) (c2 : Nat), k2 ≤ N ∧ i = .int .i64 k2 ∧ Blk wr2 wo.heap.size 46 #[.slice A2 k2 c2, .slice none 0 0, .slice none 0 0] ∧ wr2.ownsRow (wo.heap.size + 1) 3 1 (.slice A2 k2 c2) k2 ((numsB ((bs.drop J).take k2)).map (Value.int .i64)) ∧ Below wo.heap.size wo wr2) (fun i _ => N - (intOf i).toNat)
          case atStart => exact ⟨0, none, 0, by omega, rfl, ko, World.ownsRow_nil _ _ _ _, hU⟩
          case round =>
            clear ko hU
            obtain ⟨k2, A2, c2, hk2, rfl, ko, hod, hU⟩ := hrel
            have bci := bc.trans (hU.mono bc.size)
            obtain ⟨p0, p1, p3, p4, p5, p6, p7, p8⟩ := (kq.on hU).eight
            have lq := (kq.on hU).lt
            have hsz := hU.size
            have lo := ko.lt
            by_cases hlt2 : k2 < N
            · have hcb := HCL.out (J + k2) wr bci (by omega)
              have hcA := fun o => HCL.out (J + k2) (wr.alloc o) (bci.trans ((Below.al wr o).mono bci.size)) (by omega)
              have hsn := numsB_snoc bs J k2 (by have := HNB.out; omega)
              obtain ⟨v0, hv0⟩ : ∃ v0, v0 = byteN bs (J + k2) := ⟨_, rfl⟩
              have hv8 : v0 < 256 := by rw [hv0]; exact (bs[J + k2]?.getD 0).toNat_lt
              rw [← hv0] at hcb hcA hsn
              have HSN := Lib.hid hsn; clear hsn hv0
              generalize (numsB ((bs.drop J).take k2)).map (Value.int .i64) = xs at *
              have ew : IntKind.i64.wrap (v0 : Int) = (v0 : Int) := IntWalk.i64_in _ (by omega)
              have es : IntKind.i64.wrap ((J : Int) + (k2 : Int)) = (J : Int) + (k2 : Int) := IntWalk.i64_in _ (by omega)
              have ix : (J : Int) + (k2 : Int) < (n : Int) := by omega
              have ix0 : (0 : Int) ≤ (J : Int) + (k2 : Int) := by omega
              have ej : ((J : Int) + (k2 : Int)).toNat = J + k2 := by omega
              rw [← ej] at hcb hcA
              have hcA := hcA (.cells #[.int .i64 (v0 : Int)] 3)
              obtain ⟨r0, r1, r2, s0, s1, s2⟩ := (ko.alloc (.cells #[.int .i64 (v0 : Int)] 3)).three
              clear ej
              go_wp2_with fail
              have hd : Below wr.heap.size wr wr.drew := (Below.refl _ _).drew
              have ko1 := ko.on hd; have ho1 := own_on hod hd; have hU1 := hU.trans (hd.mono hU.size); have bc1 := bci.trans (hd.mono bci.size); clear hd
              have kN := Blk.new wr.drew 3 #[.int .i64 (v0 : Int)]
              have hC := Below.al wr.drew (.cells #[.int .i64 (v0 : Int)] 3)
              have ko9 := ko1.on hC; have ho9 := own_on ho1 hC; have hU9 := hU1.trans (hC.mono hU1.size); have hs9 := hU9.size; have bc9 := bc1.trans (hC.mono bc1.size); clear hC
              obtain ⟨m0, m1, m2, n0, n1, n2⟩ := ko1.three
              have lo1 := ko1.lt
              have hbw : b < wr.drew.heap.size := by show b < wr.heap.size; omega
              go_region_law (first
                | (refine step_append_lies _ rfl (.tmp 89) (.tmp 97) 44 rfl (wo.heap.size + 1) 3 i1 (.int .i64 0) 1 8 Tryd.underlying44 gi gz0 gz1 gz2 rfl (by decide) (.slice A2 k2 c2) k2 xs (by simp [Act.eval]) ho9 ⟨wr.drew.heap.size, 0, none⟩ 1 1 [.int .i64 (v0 : Int)] (by simp [Act.eval]) (by rfl) (World.news_of_block kN) (by simp [Value.oneCell']) (by decide) (by unfold maxLen; omega) (by omega) (by simp; omega) _ rfl ?_; intro gY capY w9 hown hgrow hat hlt1; have ko4 := ko9.grown hgrow (own_ne_blk ho9 ko9 (by decide)); clear m0 m1 m2 n0 n1 n2; obtain ⟨m0, m1, m2, n0, n1, n2⟩ := ko4.three; have lo4 := ko4.lt))
              all_goals
                have hG := only_setCell (World.grownBy.refl w9 (some wo.heap.size)) (p := ⟨wo.heap.size, 0, none⟩) (.inl rfl) (.slice (some ⟨gY, 0, none⟩) (k2 + 1) capY)
                have ko5 : Blk (w9.setCell ⟨wo.heap.size, 0, none⟩ (.slice (some ⟨gY, 0, none⟩) (k2 + 1) capY)) wo.heap.size 46 #[.slice (some ⟨gY, 0, none⟩) (k2 + 1) capY, .slice none 0 0, .slice none 0 0] := by simpa using ko4.set_ 0 (.slice (some ⟨gY, 0, none⟩) (k2 + 1) capY)
                have ho5 := put_row (j := 0) hown (Nat.lt_succ_self _) (.slice (some ⟨gY, 0, none⟩) (k2 + 1) capY)
                have hU4 := hU9.grown hgrow hs9 fun i ei => Nat.le_trans (Nat.le_succ _) (ho9.lt i ei).1
                have hU5 := Below.off hU4 hU4.size (Nat.le_refl _) hG
                clear hG
                go_wp2_with fail
                go_roundw
                case rel =>
                  exact ⟨k2 + 1, some ⟨gY, 0, none⟩, capY, by omega, by go_num, ko5, by rw [HSN.out]; exact ho5, hU5⟩
                case measure => simp [intOf]; omega
            · obtain rfl : N = k2 := by omega
              have hcb := HCL.out (J + N) wr bci (by omega)
              have ej : ((J : Int) + (N : Int)).toNat = J + N := by omega
              obtain ⟨v1, hv1⟩ : ∃ v1, v1 = byteN bs (J + N) := ⟨_, rfl⟩
              have hv18 : v1 < 256 := by rw [hv1]; exact (bs[J + N]?.getD 0).toNat_lt
              rw [← hv1] at hcb
              rw [← ej] at hcb
              have HV1 := Lib.hid hv1; clear hv1 ej
              replace hod := own_zero hod
              have es : IntKind.i64.wrap ((J : Int) + (N : Int)) = (J : Int) + (N : Int) := IntWalk.i64_in _ (by omega)
              have ix : (J : Int) + (N : Int) < (n : Int) := by omega
              have ix0 : (0 : Int) ≤ (J : Int) + (N : Int) := by omega
              have lo1 := ko.lt
              go_wp2_with fail
              have hd : Below wr.heap.size wr wr.drew := (Below.refl _ _).drew
              have ko1 := ko.on hd; have ho1 := own_on hod hd; have hU1 := hU.trans (hd.mono hU.size); clear hd
              obtain ⟨m0, m1, m2, n0, n1, n2⟩ := ko1.three
              go_cut [7] from 73 to 135 (fun p wx => p = .pointer (some ⟨wo.heap.size, 0, none⟩) ∧ ∃ xA xc w10, wx = World.setCell w10 ⟨wo.heap.size, 1, none⟩ (.slice xA N xc) ∧ Blk w10 wo.heap.size 46 #[.slice A2 N c2, .slice none 0 0, .slice none 0 0] ∧ Below wo.heap.size wo w10 ∧ w10.ownsRow 0 3 1 (.slice A2 N c2) N ((numsB ((bs.drop J).take N)).map (Value.int .i64)) ∧ w10.ownsRow 0 4 1 (.slice xA N xc) N ((bitsN v1 N).map Value.bool))
              case first =>
                go_region_with (go_at_call 23; refine (rlist_any v1 N _ hN8).mono ?_; rintro e w10 ⟨xA, xc, rfl, hox, hC⟩; dsimp only; replace ko := ko1.on hC; replace hod := own_on ho1 hC; replace hU := hU1.trans (hC.mono hU1.size); clear m0 m1 m2 n0 n1 n2; obtain ⟨m0, m1, m2, n0, n1, n2⟩ := ko.three)
                all_goals (go_wp2_with fail; go_meet; exact ⟨rfl, _, _, _, rfl, ko, hU, hod, own_zero hox⟩)
              case rest =>
                clear ko hod hU ko1 ho1 hU1 m0 m1 m2 n0 n1 n2 bci p0 p1 p3 p4 p5 p6 p7 p8 lq hsz lo lo1 hcb
                obtain ⟨rfl, xA, xc, w10, rfl, ko, hU, hod, hox⟩ := hcut
                have hG := only_setCell (World.grownBy.refl w10 (some wo.heap.size)) (p := ⟨wo.heap.size, 1, none⟩) (.inl rfl) (.slice xA N xc)
                have ko2 : Blk (w10.setCell ⟨wo.heap.size, 1, none⟩ (.slice xA N xc)) wo.heap.size 46 #[.slice A2 N c2, .slice xA N xc, .slice none 0 0] := by simpa using ko.set_ 1 (.slice xA N xc)
                replace hod := own_set (j := 1) hod (own_ne_blk hod ko (by decide)) (.slice xA N xc)
                replace hox := own_set (j := 1) hox (own_ne_blk hox ko (by decide)) (.slice xA N xc)
                replace hU := Below.off hU hU.size (Nat.le_refl _) hG
                clear hG ko; have ko := ko2; clear ko2
                generalize w10.setCell ⟨wo.heap.size, 1, none⟩ (.slice xA N xc) = w11 at *
                clear es ix ix0
                have bci := bc.trans (hU.mono bc.size)
                have hsz := hU.size
                have lo := ko.lt
                obtain ⟨p0, p1, p3, p4, p5, p6, p7, p8⟩ := (kq.on hU).eight
                have lq := (kq.on hU).lt
                have hcb := HCL.out (J + N + 1) w11 bci (by omega)
                have hc2 := K2.out w11 bci
                have ej : ((J : Int) + (N : Int) + 1).toNat = J + N + 1 := by omega
                obtain ⟨v2, hv2⟩ : ∃ v2, v2 = byteN bs (J + N + 1) := ⟨_, rfl⟩
                have hv28 : v2 < 256 := by rw [hv2]; exact (bs[J + N + 1]?.getD 0).toNat_lt
                rw [← hv2] at hcb
                rw [← ej] at hcb
                have HV2 := Lib.hid hv2; clear hv2 ej
                have es : IntKind.i64.wrap ((J : Int) + (N : Int)) = (J : Int) + (N : Int) := IntWalk.i64_in _ (by omega)
                have es1 : IntKind.i64.wrap ((J : Int) + (N : Int) + 1) = (J : Int) + (N : Int) + 1 := IntWalk.i64_in _ (by omega)
                have ix : (J : Int) + (N : Int) + 1 < (n : Int) := by omega
                have ix0 : (0 : Int) ≤ (J : Int) + (N : Int) + 1 := by omega
                have hM8 : M ≤ 8 := by omega
                go_wp2_with fail
                have hd : Below w11.heap.size w11 w11.drew := (Below.refl _ _).drew
                have ko1 := ko.on hd; have ho1 := own_on hod hd; have hx1 := own_on hox hd; have hU1 := hU.trans (hd.mono hU.size); clear hd
                obtain ⟨m0, m1, m2, n0, n1, n2⟩ := ko1.three
                go_cut [7] from 73 to 135 (fun p wx => p = .pointer (some ⟨wo.heap.size, 0, none⟩) ∧ ∃ nA nc w12, wx = World.setCell w12 ⟨wo.heap.size, 2, none⟩ (.slice nA M nc) ∧ Blk w12 wo.heap.size 46 #[.slice A2 N c2, .slice xA N xc, .slice none 0 0] ∧ Below wo.heap.size wo w12 ∧ w12.ownsRow 0 3 1 (.slice A2 N c2) N ((numsB ((bs.drop J).take N)).map (Value.int .i64)) ∧ w12.ownsRow 0 4 1 (.slice xA N xc) N ((bitsN v1 N).map Value.bool) ∧ w12.ownsRow 0 4 1 (.slice nA M nc) M ((bitsN v2 M).map Value.bool))
                case first =>
                  go_region_with (go_at_call 23; refine (rlist_any v2 M _ hM8).mono ?_; rintro e w12 ⟨nA, nc, rfl, hon, hC⟩; dsimp only; replace ko := ko1.on hC; replace hod := own_on ho1 hC; replace hox := own_on hx1 hC; replace hU := hU1.trans (hC.mono hU1.size); clear m0 m1 m2 n0 n1 n2; obtain ⟨m0, m1, m2, n0, n1, n2⟩ := ko.three)
                  all_goals (go_wp2_with fail; go_meet; exact ⟨rfl, _, _, _, rfl, ko, hU, hod, hox, own_zero hon⟩)
                case rest =>
                  clear ko hod hox hU ko1 ho1 hx1 hU1 m0 m1 m2 n0 n1 n2 bci p0 p1 p3 p4 p5 p6 p7 p8 lq hsz lo hcb hc2 es es1 ix ix0
                  obtain ⟨rfl, nA, nc, w12, rfl, ko, hU, hod, hox, hon⟩ := hcut
                  have hG := only_setCell (World.grownBy.refl w12 (some wo.heap.size)) (p := ⟨wo.heap.size, 2, none⟩) (.inl rfl) (.slice nA M nc)
                  have ko2 : Blk (w12.setCell ⟨wo.heap.size, 2, none⟩ (.slice nA M nc)) wo.heap.size 46 #[.slice A2 N c2, .slice xA N xc, .slice nA M nc] := by simpa using ko.set_ 2 (.slice nA M nc)
                  replace hod := own_set (j := 2) hod (own_ne_blk hod ko (by decide)) (.slice nA M nc)
                  replace hox := own_set (j := 2) hox (own_ne_blk hox ko (by decide)) (.slice nA M nc)
                  replace hon := own_set (j := 2) hon (own_ne_blk hon ko (by decide)) (.slice nA M nc)
                  replace hU := Below.off hU hU.size (Nat.le_refl _) hG
                  clear hG ko; have ko := ko2; clear ko2
                  generalize w12.setCell ⟨wo.heap.size, 2, none⟩ (.slice nA M nc) = z at *
                  replace kr := kr.on hU; replace kq := kq.on hU; replace hoc := own_on hoc hU; replace ho := own_on ho hU; replace hV := hV.keep (kj_below hU); replace bc := bc.trans (hU.mono bc.size)
                  obtain ⟨p0, p1, p3, p4, p5, p6, p7, p8⟩ := kq.eight
                  obtain ⟨f0, f1, f3, f4, f5, f6, f7, f8⟩ := kq.eightF
                  obtain ⟨m0, m1, m2, -⟩ := ko.three
                  have lq := kq.lt; have lo := ko.lt; have lr := kr.lt
                  have hnb : (z.alloc (.cells #[.slice A2 N c2, .slice xA N xc, .slice nA M nc] 46)).heap[z.heap.size]? = some (.cells #[.slice A2 N c2, .slice xA N xc, .slice nA M nc] 46 (0, 0)) := Blk.new z 46 #[.slice A2 N c2, .slice xA N xc, .slice nA M nc]
                  have hq1 : q + 1 ≤ z.heap.size := lq
                  have es2 : IntKind.i64.wrap ((N : Int) + 2) = (N : Int) + 2 := IntWalk.i64_in _ (by omega)
                  have es3 : IntKind.i64.wrap ((J : Int) + ((N : Int) + 2)) = (J : Int) + ((N : Int) + 2) := IntWalk.i64_in _ (by omega)
                  go_wp2_with (at_builtin; refine wpList_append_own_at _ rfl _ _ 23 rfl (q + 1) 46 i0 (.agg #[.slice none 0 0, .slice none 0 0, .slice none 0 0]) 3 72 Tryd.underlying23 hi hz0 hz1 hz2 rfl (by decide) (.slice vA k vc) k _ rfl (ho.alloc _) ⟨z.heap.size, 0, none⟩ 1 1 [.slice A2 N c2, .slice xA N xc, .slice nA M nc] rfl rfl (World.news_of_block hnb) (by simp [Value.oneCell']) (by unfold maxLen; omega) (by omega) (by simp; omega) ?_; intro v' w13 hown hgrow _ hat; obtain ⟨vA2, vc2, rfl⟩ := own_slice hown; have kjO := kj_own ho hgrow; replace kr := (kr.alloc (.cells #[.slice A2 N c2, .slice xA N xc, .slice nA M nc] 46)).grown hgrow (own_ne_blk ho kr (by decide)); replace kq := (kq.alloc (.cells #[.slice A2 N c2, .slice xA N xc, .slice nA M nc] 46)).grown hgrow (own_ne_blk ho kq (by decide)); replace hoc := kjO _ _ _ _ _ (.inr rfl) hoc; replace hod := kjO _ _ _ _ _ (.inl rfl) hod; replace hox := kjO _ _ _ _ _ (.inr rfl) hox; replace hon := kjO _ _ _ _ _ (.inr rfl) hon; replace hV := hV.keep kjO; replace bc := own_below ho hgrow bc (by omega) (by omega); clear p0 p1 p3 p4 p5 p6 p7 p8 f0 f1 f3 f4 f5 f6 f7 f8 lq m0 m1 m2 lo; obtain ⟨p0, p1, p3, p4, p5, p6, p7, p8⟩ := kq.eight; obtain ⟨f0, f1, f3, f4, f5, f6, f7, f8⟩ := kq.eightF; have lq := kq.lt)
                  have hG := only_setCell (World.grownBy.refl w13 (some q)) (p := ⟨q, 7, none⟩) (.inl rfl) (.slice vA2 (k + 1) vc2)
                  have kjS := kj_grown kq (by decide) (by decide) hG
                  have kq2 : Blk (w13.setCell ⟨q, 7, none⟩ (.slice vA2 (k + 1) vc2)) q 25 #[.int .i64 (N : Int), .int .i64 (S : Int), .int .i64 (G : Int), .int .i64 (T : Int), .int .i64 (D : Int), .int .i64 (L : Int), .slice cA N cc, .slice vA2 (k + 1) vc2] := by simpa using kq.set_ 7 (.slice vA2 (k + 1) vc2)
                  have ho2 := own_set (j := 7) hown (own_ne_blk hown kq (by decide)) (.slice vA2 (k + 1) vc2)
                  replace kr := kr.grown hG (some_ne (by omega))
                  replace hoc := kjS _ _ _ _ _ (.inr rfl) hoc; replace hod := kjS _ _ _ _ _ (.inl rfl) hod; replace hox := kjS _ _ _ _ _ (.inr rfl) hox; replace hon := kjS _ _ _ _ _ (.inr rfl) hon
                  replace hV := hV.keep kjS; replace bc := Below.off bc bc.size (by omega) hG
                  rw [HV1.out] at hox
                  rw [HV2.out] at hon
                  rw [HJ.out] at hod hox hon
                  have hV2 := hV.snoc hod hox hon
                  go_roundw
                  case rel =>
                    refine ⟨k + 1, _, vA2, vc2, by omega, congrArg (Value.int .i64) ?_, by go_num, kr, kq2, hoc, hV2, by rw [cellsOs_snoc]; exact ho2, bc⟩
                    have h := HJ.out
                    rw [show 18 + (k + 1) * (N + 2) = J + (N + 2) by rw [h, Nat.add_mul]; omega]
                    omega
                  case measure => simp [intOf]; omega
        · obtain rfl : M = k := by omega
          have hmed := fun (W : World) (h1 : W.ownsRow 0 4 1 (.slice cA N cc) N ((bitsN V N).map Value.bool)) (h2 : ModesRd bs N M M vs W) (h3 : W.ownsRow (q + 1) 46 3 (.slice vA M vc) M (cellsOs vs)) => med_rd (a1 := N) (a2 := S) (a3 := G) (a4 := T) (a5 := D) (a6 := L) (by omega) (by omega) (fun k2 hk2 => by
            have h := Nat.mul_le_mul_right (N + 2) (show k2 + 1 ≤ M by omega)
            rw [Nat.add_mul, Nat.one_mul] at h
            have := HNB.out
            have := HLEN.out
            omega) h1 h2 h3
          have hby1 := HBY.out wo ⟨cA, N, cc⟩ ⟨vA, M, vc⟩ (by rw [HR.out]; exact hmed _ hoc hV ho)
          have hvr : vM R ⟨cA, N, cc⟩ ⟨vA, M, vc⟩ = .agg #[.int .i64 (N : Int), .int .i64 (S : Int), .int .i64 (G : Int), .int .i64 (T : Int), .int .i64 (D : Int), .int .i64 (L : Int), .slice cA N cc, .slice vA M vc] := by rw [HR.out]
          rw [hvr] at hby1
          unfold BytR at hby1
          have HB1 := Lib.hid hby1; have MED := Lib.hid hmed; clear hby1 hvr hmed HBY hbo
          obtain ⟨p0, p1, p3, p4, p5, p6, p7, p8⟩ := kq.eight
          have lq := kq.lt; have lr := kr.lt
          go_wp2_with fail
          refine HB1.out.mono ?_
          rintro e w14 ⟨A3, c3, rfl, hB3, -, -, hC⟩
          dsimp only
          clear p0 p1 p3 p4 p5 p6 p7 p8 lq lr p2 i2 HB1
          replace kr := kr.on hC; replace kq := kq.on hC; replace hoc := own_on hoc hC; replace ho := own_on ho hC; replace hV := hV.keep (kj_below hC); replace bc := bc.trans (hC.mono bc.size); clear hC
          have hA1 := (HA.out.below bc).mono bc.size
          have hs1 : (convert 26 9 (.slice A3 (bytesS R).length c3)).run Tryd.prog w14 = _ := run_string_bytes rfl hB3
          have hs2 : (convert 26 9 (.slice (some ⟨b, off, none⟩) n c)).run Tryd.prog w14 = _ := run_string_bytes HNB.out hA1
          clear hA1 hB3
          have hse := str_eq (bytesS R) bs
          have hpo := HPO.out; have hgo := HGO.out; have hcb := HCB.out
          generalize (⟨(bytesS R).toArray⟩ : ByteArray) = s1 at *
          generalize (⟨bs.toArray⟩ : ByteArray) = s2 at *
          have lr := kr.lt; have lq := kq.lt
          by_cases hok : okM R
          rotate_left
          · have hbad : ¬ parseOk bs := fun h => hok (hpo.1 h).1
            rw [checkM_no hok]
            generalize (bytesS R).length = ln at *
            clear hgo hpo hcb hok kq lq hse hV ho hoc
            have hst := run_storeVar_row (P := Tryd.prog) w14 w.heap.size 25 25 _ #[.int .i64 0, .int .i64 0, .int .i64 0, .int .i64 0, .int .i64 0, .int .i64 0, .slice none 0 0, .slice none 0 0] kr infoM rfl (by simp [Value.oneCell'])
            simp [go_sem] at hst
            have hG := only_setRow w14 w.heap.size #[.int .i64 0, .int .i64 0, .int .i64 0, .int .i64 0, .int .i64 0, .int .i64 0, .slice none 0 0, .slice none 0 0]
            replace bc := Below.off bc bc.size (Nat.le_refl _) hG
            have kr2 := kr.row8 #[.int .i64 0, .int .i64 0, .int .i64 0, .int .i64 0, .int .i64 0, .int .i64 0, .slice none 0 0, .slice none 0 0]
            obtain ⟨q0, q1, q2, q3, q4, q5, q6, q7⟩ := kr2.eight
            clear hG kr kr2
            go_wp2_with fail
            refine bodyPost_ret (v := .tuple #[.agg #[.int .i64 0, .int .i64 0, .int .i64 0, .int .i64 0, .int .i64 0, .int .i64 0, .slice none 0 0, .slice none 0 0], .int .i64 71]) (by simp [results, Tryd.results8, go_sem, q0, q1, q2, q3, q4, q5, q6, q7]) rfl ?_
            exact pa_bad hbad bc
          rw [checkM_yes hok]
          rw [hcb hok] at hse
          generalize (bytesS R).length = ln at *
          by_cases hbs : bytesM R = bs
          rotate_left
          · have hbad : ¬ parseOk bs := fun h => hbs (hpo.1 h).2
            rw [decide_eq_false hbs] at hse
            have hsn : (s1.toList != s2.toList) = true := by rw [bne, hse]; rfl
            clear hgo hpo hcb hok kq lq hV ho hoc hbs
            have hst := run_storeVar_row (P := Tryd.prog) w14 w.heap.size 25 25 _ #[.int .i64 0, .int .i64 0, .int .i64 0, .int .i64 0, .int .i64 0, .int .i64 0, .slice none 0 0, .slice none 0 0] kr infoM rfl (by simp [Value.oneCell'])
            simp [go_sem] at hst
            have hG := only_setRow w14 w.heap.size #[.int .i64 0, .int .i64 0, .int .i64 0, .int .i64 0, .int .i64 0, .int .i64 0, .slice none 0 0, .slice none 0 0]
            replace bc := Below.off bc bc.size (Nat.le_refl _) hG
            have kr2 := kr.row8 #[.int .i64 0, .int .i64 0, .int .i64 0, .int .i64 0, .int .i64 0, .int .i64 0, .slice none 0 0, .slice none 0 0]
            obtain ⟨q0, q1, q2, q3, q4, q5, q6, q7⟩ := kr2.eight
            clear hG kr kr2
            go_wp2_with fail
            refine bodyPost_ret (v := .tuple #[.agg #[.int .i64 0, .int .i64 0, .int .i64 0, .int .i64 0, .int .i64 0, .int .i64 0, .slice none 0 0, .slice none 0 0], .int .i64 71]) (by simp [results, Tryd.results8, go_sem, q0, q1, q2, q3, q4, q5, q6, q7]) rfl ?_
            exact pa_bad hbad bc
          rw [decide_eq_true hbs] at hse
          have hsn : (s1.toList != s2.toList) = false := by rw [bne, hse]; rfl
          obtain ⟨hg1, hg2⟩ := hgo (hpo.2 ⟨hok, hbs⟩)
          have HG1 := Lib.hid hg1; have HG2 := Lib.hid hg2
          clear hgo hpo hcb hok hbs hg1 hg2
          obtain ⟨p0, p1, p2, p3, p4, p5, p6, p7⟩ := kq.eight
          have hrq : w.heap.size ≠ q := by omega
          have hst := run_storeVar_row (P := Tryd.prog) w14 w.heap.size 25 25 _ #[.int .i64 (N : Int), .int .i64 (S : Int), .int .i64 (G : Int), .int .i64 (T : Int), .int .i64 (D : Int), .int .i64 (L : Int), .slice cA N cc, .slice vA M vc] kr infoM rfl (by simp [Value.oneCell'])
          simp [go_sem] at hst
          have hG := only_setRow w14 w.heap.size #[.int .i64 (N : Int), .int .i64 (S : Int), .int .i64 (G : Int), .int .i64 (T : Int), .int .i64 (D : Int), .int .i64 (L : Int), .slice cA N cc, .slice vA M vc]
          have kjR := kj_grown kr (by decide) (by decide) hG
          have hM2 := MED.out _ (kjR _ _ _ _ _ (.inr rfl) hoc) (hV.keep kjR) (ho.kept hG (.inr fun e => own_ne_blk ho kr (by decide) e.symm))
          replace bc := Below.off bc bc.size (Nat.le_refl _) hG
          have kr2 := kr.row8 #[.int .i64 (N : Int), .int .i64 (S : Int), .int .i64 (G : Int), .int .i64 (T : Int), .int .i64 (D : Int), .int .i64 (L : Int), .slice cA N cc, .slice vA M vc]
          obtain ⟨q0, q1, q2, q3, q4, q5, q6, q7⟩ := kr2.eight
          have HM2 := Lib.hid hM2; have BC := Lib.hid bc
          clear hG kr kr2 hM2 kq bc kjR ho hoc hV MED
          go_wp2_with fail
          refine bodyPost_ret (v := .tuple #[.agg #[.int .i64 (N : Int), .int .i64 (S : Int), .int .i64 (G : Int), .int .i64 (T : Int), .int .i64 (D : Int), .int .i64 (L : Int), .slice cA N cc, .slice vA M vc], .int .i64 0]) (by simp [results, Tryd.results8, go_sem, q0, q1, q2, q3, q4, q5, q6, q7]) rfl ?_
          unfold PaR
          rw [HG1.out, HG2.out, HR.out]
          exact ⟨⟨cA, N, cc⟩, ⟨vA, M, vc⟩, rfl, HM2.out, BC.out⟩
end Go.Proofs.YtnmaelefcohogaaDoor
