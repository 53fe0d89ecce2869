/-
  Alive and Send of package cni. Condition: an interface that can be read. (Printed by tools/gen12jh.py.)
-/
import Derived.Test.YtnlmpemfpkmodaaJG
namespace Go.Proofs.Ytnlmpemfpkmodaa
open Go.RowKit

theorem silent_le {c : Cn} (h : c.life ≤ 0) (N : Nat) : sentB c N = List.replicate N 0 := by
  refine List.ext_getElem (by simp [sentB]) fun i h1 h2 => ?_
  simp [sentB, show ¬ 0 < c.life by omega]

set_option maxRecDepth 100000 in
set_option maxHeartbeats 4000000 in
theorem aliveP_any : CniAliveC := fun s v u w h => by
  have hck := fun U (hb : Below w.heap.size w U) => chkCnP_any s v u U (h.on hb)
  have hv0 : ¬ chkCn s = 0 → aliveCn s = false := fun h => by unfold aliveCn; rw [decide_eq_false (fun h2 => h (chkCn_zero.2 h2))]; rfl
  have hv1 : chkCn s = 0 → decide (0 < s.life) = aliveCn s := fun h => by unfold aliveCn; rw [decide_eq_true (chkCn_zero.1 h)]; rfl
  clear h
  generalize aliveCn s = av at *
  generalize chkCn s = ck at *
  obtain ⟨id, out, ms, life, want⟩ := s
  obtain ⟨A, n, c⟩ := v
  obtain ⟨B, m, d⟩ := u
  dsimp only [cCn] at *
  have HCK := Lib.hid hck; clear hck
  obtain ⟨kb, bc⟩ := bx1 w #[.int .i64 id, .slice A n c, .slice B m d, .int .i64 life, .int .i64 want] 25
  obtain ⟨p0, p1, p2, p3, p4⟩ := kb.fiveI
  by_cases hc : ck = 0
  · have dl := hv1 hc
    subst hc
    clear hv0 hv1
    go_enter Try.func33, Try.ntmps33
    go_wp2_with (first | (go_at_call 13; refine (HCK.out _ bc).mono ?_; rintro e w3 ⟨rfl, hC⟩; dsimp only; clear p0 p1 p2 p3 p4; replace kb := kb.on hC; replace bc := bc.trans (hC.mono bc.size); clear hC; obtain ⟨p0, p1, p2, p3, p4⟩ := kb.fiveI))
    go_ret
    exact ⟨rfl, bc⟩
  · have dl : (ck == 0) = false := by simpa using hc
    obtain rfl := hv0 hc
    clear hv0 hv1
    go_enter Try.func33, Try.ntmps33
    go_wp2_with (first | (go_at_call 13; refine (HCK.out _ bc).mono ?_; rintro e w3 ⟨rfl, hC⟩; dsimp only; clear p0 p1 p2 p3 p4; replace kb := kb.on hC; replace bc := bc.trans (hC.mono bc.size); clear hC; obtain ⟨p0, p1, p2, p3, p4⟩ := kb.fiveI))
    go_ret
    exact ⟨rfl, bc⟩
set_option maxRecDepth 100000 in
set_option maxHeartbeats 4000000 in
theorem sendP_any : CniSendC := fun s v u q w h => by
  have hck := fun U (hb : Below w.heap.size w U) => chkCnP_any s v u U (h.on hb)
  have q0 : ¬ okCn s → sendCn s q = (120, []) := fun h => by unfold sendCn; rw [if_neg h]
  have q1 : okCn s → ¬ (0 ≤ q ∧ q ≤ 8) → sendCn s q = (2, []) := fun h h2 => by unfold sendCn; rw [if_pos h, if_neg h2]
  have q3 : okCn s → (0 ≤ q ∧ q ≤ 8) → sendCn s q = (0, sentB s q.toNat) := fun h h2 => by unfold sendCn; rw [if_pos h, if_pos h2]
  have hO := h.out.by_
  have hon := h.out.bn
  unfold ResBy
  generalize sendCn s q = RR at *
  have hce := @chkCn_zero s
  have hcn := @chkCn_no s
  have hs0 := fun N => sentB_lively (c := s) (N := N)
  have hsa := fun (h : s.life ≤ 0) N => silent_le (c := s) h N
  have hav := fun U (hb : Below w.heap.size w U) => aliveP_any s v u U (h.on hb)
  have hv1 : okCn s → 0 < s.life → aliveCn s = true := fun hk hl => by unfold aliveCn; rw [decide_eq_true hk, decide_eq_true hl]; rfl
  have hv0 : okCn s → ¬ 0 < s.life → aliveCn s = false := fun hk hl => by unfold aliveCn; rw [decide_eq_true hk, decide_eq_false hl]; rfl
  clear h
  obtain ⟨id, out, ms, life, want⟩ := s
  obtain ⟨A, n, c⟩ := v
  obtain ⟨B, m, d⟩ := u
  dsimp only [cCn] at *
  generalize hS : (⟨id, out, ms, life, want⟩ : Cn) = S at *
  obtain ⟨kb, bc⟩ := bx1 w #[.int .i64 id, .slice A n c, .slice B m d, .int .i64 life, .int .i64 want] 25
  obtain ⟨p0, p1, p2, p3, p4⟩ := kb.fiveI
  by_cases hok : okCn S
  rotate_left
  · obtain rfl := q0 hok
    rw [hcn hok] at hck
    have HCK := Lib.hid hck; clear hck hce hcn q1 q3 hO hon hs0 hsa hav hv0 hv1
    go_enter Try.func22, Try.ntmps22
    go_wp2_with (first | (go_at_call 13; refine (HCK.out _ bc).mono ?_; rintro e w1 ⟨rfl, hC⟩; dsimp only; (try clear p0 p1 p2 p3 p4); replace kb := kb.on hC; replace bc := bc.trans (hC.mono bc.size); clear hC; obtain ⟨p0, p1, p2, p3, p4⟩ := kb.fiveI))
    go_ret2
    exact ⟨⟨none, 0, 0⟩, rfl, BOk.nil _ _, bc⟩
  rw [hce.2 hok] at hck
  have HCK := Lib.hid hck; clear hck hce hcn q0
  replace q1 := q1 hok
  replace q3 := q3 hok
  by_cases cd1 : 0 ≤ q
  rotate_left
  · obtain rfl := q1 (by omega)
    have d1 : decide (q < 0) = true := by simp; omega
    clear q3 hO hon hs0 hsa hav hv0 hv1
    go_enter Try.func22, Try.ntmps22
    go_wp2_with (first | (go_at_call 13; refine (HCK.out _ bc).mono ?_; rintro e w1 ⟨rfl, hC⟩; dsimp only; (try clear p0 p1 p2 p3 p4); replace kb := kb.on hC; replace bc := bc.trans (hC.mono bc.size); clear hC; obtain ⟨p0, p1, p2, p3, p4⟩ := kb.fiveI))
    go_ret2
    exact ⟨⟨none, 0, 0⟩, rfl, BOk.nil _ _, bc⟩
  have d1 : decide (q < 0) = false := by simp; omega
  by_cases cd2 : q ≤ 8
  rotate_left
  · obtain rfl := q1 (by omega)
    have d2 : decide (8 < q) = true := by simp; omega
    clear q3 hO hon hs0 hsa hav hv0 hv1
    go_enter Try.func22, Try.ntmps22
    go_wp2_with (first | (go_at_call 13; refine (HCK.out _ bc).mono ?_; rintro e w1 ⟨rfl, hC⟩; dsimp only; (try clear p0 p1 p2 p3 p4); replace kb := kb.on hC; replace bc := bc.trans (hC.mono bc.size); clear hC; obtain ⟨p0, p1, p2, p3, p4⟩ := kb.fiveI))
    go_ret2
    exact ⟨⟨none, 0, 0⟩, rfl, BOk.nil _ _, bc⟩
  have d2 : decide (8 < q) = false := by simp; omega
  obtain ⟨N, rfl⟩ := Int.eq_ofNat_of_zero_le cd1
  have Q3 := Lib.hid (q3 ⟨cd1, cd2⟩); clear q1 q3
  have hmk := run_make_bytes N (by omega)
  have HO := Lib.hid hO; have HON := Lib.hid hon; have HS0 := Lib.hid (fun h => hs0 N h); have HSA := Lib.hid (fun h => hsa h N)
  clear hO hon hs0 hsa
  go_enter Try.func22, Try.ntmps22
  have HAV := Lib.hid hav; have HV0 := Lib.hid (hv0 hok); have HV1 := Lib.hid (hv1 hok)
  clear hav hv0 hv1
  go_upto_region 7 with (first | (go_at_call 13; refine (HCK.out _ bc).mono ?_; rintro e w1 ⟨rfl, hC⟩; dsimp only; (try clear p0 p1 p2 p3 p4); replace kb := kb.on hC; replace bc := bc.trans (hC.mono bc.size); clear hC; obtain ⟨p0, p1, p2, p3, p4⟩ := kb.fiveI))
  have kq := Blk.new w1 5 (encB (List.replicate N 0))
  have al := Below.al w1 (.cells (encB (List.replicate N 0)) 5)
  have kb2 := kb.on al; have bc2 := bc.trans (al.mono bc.size); have hgq := kb.lt
  clear kb bc al p0 p1 p2 p3 p4 hmk
  generalize w1.alloc (.cells (encB (List.replicate N 0)) 5) = u2 at *
  generalize w1.heap.size = gq at *
  clear w1
  obtain ⟨p0, p1, p2, p3, p4⟩ := kb2.fiveI
  obtain ⟨xs, hxs⟩ : ∃ xs, xs = sentB S N := ⟨_, rfl⟩
  have hxl : xs.length = N := by rw [hxs]; simp [sentB]
  by_cases hlf : 0 < life
  rotate_left
  · have hav := HAV.out
    rw [HV0.out hlf] at hav
    replace HAV := Lib.hid hav; clear hav
    have hx0 := HSA.out (by omega)
    rw [← hxs] at hx0
    rw [← hx0] at kq
    have HXS := Lib.hid hxs; have HXL := Lib.hid hxl
    obtain rfl := Q3.out
    clear hx0 hxs hxl
    go_upto_region 9 with (first | (go_at_call 33; refine (HAV.out _ bc2).mono ?_; rintro e w4 ⟨rfl, hC⟩; dsimp only; clear p0 p1 p2 p3 p4; replace kb2 := kb2.on hC; replace kq := kq.on hC; replace bc2 := bc2.trans (hC.mono bc2.size); clear hC; obtain ⟨p0, p1, p2, p3, p4⟩ := kb2.fiveI))
    have hok2 := bok_blk kq (by have := HXL.out; omega)
    rw [HXL.out] at hok2
    have HB := Lib.hid hok2; clear hok2 kq
    go_wp2
    go_ret2
    exact ⟨⟨some ⟨gq, 0, none⟩, N, N⟩, rfl, by rw [← HXS.out]; exact HB.out, bc2⟩
  have hav := HAV.out
  rw [HV1.out hlf] at hav
  replace HAV := Lib.hid hav; clear hav
  have hx0 := HS0.out hlf
  rw [← hxs] at hx0
  obtain ⟨k, hk⟩ : ∃ k, k = min n N := ⟨_, rfl⟩
  have HX0 := Lib.hid hx0; have HK := Lib.hid hk; have HXS := Lib.hid hxs; have HXL := Lib.hid hxl
  clear hx0 hk hxs hxl
  go_upto_region 8 with (first | (go_at_call 33; refine (HAV.out _ bc2).mono ?_; rintro e w4 ⟨rfl, hC⟩; dsimp only; clear p0 p1 p2 p3 p4; replace kb2 := kb2.on hC; replace kq := kq.on hC; replace bc2 := bc2.trans (hC.mono bc2.size); clear hC; obtain ⟨p0, p1, p2, p3, p4⟩ := kb2.fiveI))
  obtain ⟨w2, hrun, hb2, hg2⟩ := run_copy_cut (P := Try.prog) w4 22 22 3 5 Try.underlying22 (by kernel_rfl) gq N N k A n c (List.replicate N 0) out kq _ (HO.out.below bc2) HON.out (by simp) HK.out
  have hx0 := HX0.out
  have hk := HK.out
  rw [← HON.out, ← hk] at hx0
  rw [← hx0] at hb2
  have hok2 := bok_blk hb2 (by have := HXL.out; omega)
  rw [HXL.out] at hok2
  have bc3 := Below.off bc2 bc2.size (by omega) hg2
  have HB := Lib.hid hok2
  obtain rfl := Q3.out
  have hgi : goInt k = .int .i64 (k : Int) := rfl
  rw [hgi] at hrun
  clear hok2 hx0 kq hb2 hg2 hk hgi
  go_wp2
  go_ret2
  exact ⟨⟨some ⟨gq, 0, none⟩, N, N⟩, rfl, by rw [← HXS.out]; exact HB.out, bc3⟩
end Go.Proofs.Ytnlmpemfpkmodaa
