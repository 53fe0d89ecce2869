/-
  copied, late and made of package clock. Conditions: those that each theorem names. (Printed by tools/gen13r.py.)
-/
import Derived.Test.YtlkmipcenlhacaaLQ
import Derived.Test.YtlkmipcenlhacaaQH
namespace Go.Proofs.Ytlkmipcenlhacaa
open Go.RowKit

/-- make([]int64, n, n + 1). -/
theorem run_make_J1 (m : Nat) (hm : m ≤ 65536) (w : World) :
    (Instr.makeSlice 26 (.int .i64 (m : Int)) (.int .i64 ((m : Int) + 1))).run Try.prog w = .ok (.slice (some ⟨w.heap.size, 0, none⟩) m (m + 1)) (w.alloc (.cells ((List.replicate (m + 1) (0 : Int)).map (Value.int .i64)).toArray 2)) := by
  obtain ⟨i0, hi, hz0, hz1, hz2⟩ := info_parts Try.infoJ
  have := run_make_rowN (P := Try.prog) 26 2 i0 _ Try.underlying26 hi hz0 .i64 .i64 m (m + 1) (Nat.le_succ _) (by rw [hz2]; omega) (by omega) w
  rw [hz1, Nat.mul_one, madeJ] at this
  exact this
/-- copy of numbers, over the head of a row of the call's own that has room behind. -/
theorem run_copy_head {P : Program} (w : World) (dT sT ty elem : TypeId) (hu : P.underlying dT = some (.slice elem)) (hsz : (P.info? elem).map (·.size) = some 1)
    (g m m' : Nat) (A : Option Addr) (n c : Nat) (cur zs : List Int) (E : TypeId) (hg : Blk w g E (cur.map (Value.int .i64)).toArray) (B : Nat) (hA : Ints B w A zs) (hn : n = zs.length) (hle : n ≤ m) (hm : m ≤ cur.length) :
    ∃ w', (Builtin.copy_ #[dT, sT] ty #[.slice (some ⟨g, 0, none⟩) m m', .slice A n c]).run P w = .ok (goInt zs.length) w' ∧ Blk w' g E ((zs ++ cur.drop zs.length).map (Value.int .i64)).toArray ∧ w.grownBy w' (some g) := by
  subst hn
  by_cases h0 : zs = []
  · subst h0
    exact ⟨w, run_copy_none (P := P) w dT sT ty elem _ A _ _ _ _ hu hsz (by simp), by simpa using hg, World.grownBy.refl w _⟩
  · obtain ⟨b, off, rfl, _, hc⟩ := hA h0
    have hlen : (zs.map (Value.int .i64)).length = zs.length := by simp
    have := run_copy_row (P := P) w dT sT ty elem g 0 m m' ⟨b, off, none⟩ zs.length c _ E (zs.map (Value.int .i64)) hu hsz hg (by rw [hlen]; exact (Nat.min_eq_left hle).symm) ?_ (by simp; omega) ?_
    · rw [hlen] at this
      refine ⟨_, this, ?_, only_setRow w g _⟩
      have h2 := setRow_heap w g (cur.map (Value.int .i64)).toArray ((cur.map (Value.int .i64)).toArray.toList.take 0 ++ (zs.map (Value.int .i64)) ++ (cur.map (Value.int .i64)).toArray.toList.drop (0 + zs.length)).toArray E (0, 0) hg
      unfold Blk
      rw [h2]
      simp
    · intro j v hj
      have hjl : j < zs.length := by
        rcases Nat.lt_or_ge j zs.length with hl | hl
        · exact hl
        · simp [List.getElem?_eq_none hl] at hj
      have hv : v = .int .i64 (zs[j]?.getD 0) := by simpa [hjl, eq_comm] using hj
      rw [hv, ← hc j hjl, addr_add]
    · intro v hv
      obtain ⟨x, _, rfl⟩ := List.mem_map.1 hv
      rfl
set_option maxRecDepth 4000 in
set_option maxHeartbeats 1000000 in
theorem copied_any (A : Option Addr) (n c : Nat) (l : List Int) (w : World) (hn : n = l.length) (hm : n ≤ 1000) (hA : Ints w.heap.size w A l) :
    Calls Try.prog 39 #[.slice A n c] w fun e w' => ∃ g, e = .returned (.slice (some ⟨g, 0, none⟩) n (n + 1)) ∧ w'.ownsRow w.heap.size 2 1 (.slice (some ⟨g, 0, none⟩) n (n + 1)) n (valsK l) ∧ Below w.heap.size w w' := by
  have hmk := run_make_J1 n (by omega)
  have k1 := Blk.new w 2 ((List.replicate (n + 1) (0 : Int)).map (Value.int .i64)).toArray
  have al := Below.al w (.cells ((List.replicate (n + 1) (0 : Int)).map (Value.int .i64)).toArray 2)
  obtain ⟨w2, hrun, hb2, hg2⟩ := run_copy_head (P := Try.prog) _ 26 26 3 2 Try.underlying26 oneJ w.heap.size n (n + 1) A n c (List.replicate (n + 1) 0) l _ k1 _ (hA.below al) hn (Nat.le_refl _) (by simp)
  have hw2 : Below w.heap.size w w2 := al.grown hg2 (by simp) (by intro k hk; injection hk with hk; omega)
  have hlen : goInt l.length = .int .i64 (n : Int) := by rw [← hn]; rfl
  rw [hlen] at hrun
  have hrow : w2.ownsRow w.heap.size 2 1 (.slice (some ⟨w.heap.size, 0, none⟩) n (n + 1)) n (valsK l) :=
    ⟨by simp [valsK, hn], .inr ⟨w.heap.size, n + 1, _, rfl, Nat.le_refl _, hb2, Nat.le_succ _, by unfold maxLen; omega, by simp [hn], by simp [valsK, hn]⟩⟩
  have e1 : IntKind.i64.wrap ((n : Int) + 1) = (n : Int) + 1 := IntWalk.i64_in _ (by omega)
  have HR := Lib.hid hrow; have HW := Lib.hid hw2
  clear hb2 hw2 hn hg2 k1 al hA hlen hrow
  generalize ((List.replicate (n + 1) (0 : Int)).map (Value.int .i64)).toArray = cs at *
  go_enter Try.func39, Try.ntmps39
  go_wp2
  go_ret
  exact ⟨w.heap.size, rfl, HR.out, HW.out⟩
set_option maxRecDepth 100000 in
set_option maxHeartbeats 4000000 in
theorem late_any (W : Int) (k : Ck) (v : Slc) (w : World) (hW : 0 ≤ W ∧ W ≤ 1048576) (ho : okCk W k) (hk : CkOk w.heap.size w k v) : Calls Try.prog 37 #[.agg (cK k v)] w fun e w' => e = .returned (.int .i64 (byK k)) ∧ Below w.heap.size w w' := by
  have hp : (0 :: k.dv).Perm (k.dv ++ [0]) := by have := List.perm_append_comm (l₁ := [(0 : Int)]) (l₂ := k.dv); simpa using this
  have hmid : midS (k.dv ++ [0]) = (byK k, 0) := by
    rw [midS_in (by simp) (fun y hy => devs_off ho hW.2 hW.1 y (hp.mem_iff.2 hy))]
    unfold byK
    rw [midOf_turned hp (by simp)]
  have hn8 : v.n ≤ 8 := by rw [hk.dn]; exact ho.2.1
  have hcp := fun U (hb : Below w.heap.size w U) => copied_any v.A v.n v.c k.dv U hk.dn (by omega) ((hk.d.below hb).mono hb.size)
  have hmd := fun A c U (hA : Ints U.heap.size U A (k.dv ++ [0])) => mid_any A (v.n + 1) c (k.dv ++ [0]) U (by rw [hk.dn]; simp) (by omega) hA
  rw [hmid] at hmd
  unfold midV at hmd
  generalize byK k = by_ at *
  obtain ⟨st, sl, dv⟩ := k
  obtain ⟨A, n, c⟩ := v
  dsimp only [cK] at *
  have HCP := Lib.hid hcp; have HMD := Lib.hid hmd
  clear hcp hmd hk ho hp hmid
  obtain ⟨kc, bc⟩ := bx1 w #[.int .i64 st, .int .i64 sl, .slice A n c] 28
  obtain ⟨q0, q1, q2, -⟩ := kc.three
  go_enter Try.func37, Try.ntmps37
  go_wp2_with (first
    | (go_at_call 39; refine (HCP.out _ bc).mono ?_; rintro e w3 ⟨g, rfl, hown, hC⟩; dsimp only; have bc3 := bc.trans (hC.mono bc.size); have al := Below.al w3 (.cells #[.int .i64 0] 2); have hr1 := own_on hown al; have hz0 : (w3.alloc (.cells #[.int .i64 0] 2)).ownsRow w3.heap.size 2 1 (.slice (some ⟨w3.heap.size, 0, none⟩) 1 1) 1 [.int .i64 0] := World.ownsRow_lit w3 #[.int .i64 0] 1 (Nat.le_refl _) (by decide) rfl; have hz := ints_of_rowK (l := [0]) hz0; have bc4 := bc3.trans (al.mono bc3.size); have hs4 := Nat.le_trans hC.size al.size; have hs5 := bc.size; clear q0 q1 q2 kc al hown hz0 hC)
    | (at_builtin; refine wpList_append_on rfl _ _ rfl _ (some ⟨g, 0, none⟩) n (n + 1) (valsK dv) hr1 hs4 (by omega) _ [0] ⟨some ⟨w3.heap.size, 0, none⟩, 1, 1⟩ hz rfl (fun e => by cases e) (by dsimp only; omega) rfl rfl ?_; intro A3 c3 w5 hown5 hg5; dsimp only at hown5; rw [show valsK dv ++ valsK [0] = valsK (dv ++ [0]) by simp [valsK]] at hown5; have bc5 : Below w.heap.size w w5 := bc4.grown hg5 bc4.size (fun q e => by have := hr1.lt q e; omega); clear hg5)
    | (go_at_call 56; refine (HMD.out A3 c3 w5 (ints_of_rowK (l := dv ++ [0]) hown5)).mono ?_; rintro e w6 ⟨rfl, hC⟩; dsimp only; have bc6 := bc5.trans (hC.mono bc5.size); clear hown5 hC))
  go_ret
  exact ⟨rfl, bc6⟩
/-- What made answers. -/
def madeK (W : Int) (k : Ck) (v : Slc) : Value := if okCk W k then .tuple #[.agg (cK k v), .int .i64 0] else .tuple #[.agg #[.int .i64 0, .int .i64 0, .slice none 0 0], .int .i64 130]
set_option maxRecDepth 100000 in
set_option maxHeartbeats 4000000 in
theorem made_any (m : ML) (c s : Slc) (k : Ck) (v : Slc) (w : World) (hW : 0 ≤ m.W ∧ m.W ≤ 1048576) (hk : CkOk w.heap.size w k v) : Calls Try.prog 41 #[vM m c s, .agg (cK k v)] w fun e w' => e = .returned (madeK m.W k v) ∧ Below w.heap.size w w' := by
  have hcc := fun U (hb : Below w.heap.size w U) => ckClock_any m c s k v U hW (hk.on hb)
  have hy : okCk m.W k → madeK m.W k v = .tuple #[.agg (cK k v), .int .i64 0] := fun h => if_pos h
  have hno : ¬ okCk m.W k → madeK m.W k v = .tuple #[.agg #[.int .i64 0, .int .i64 0, .slice none 0 0], .int .i64 130] := fun h => if_neg h
  have qo1 : okCk m.W k → (if okCk m.W k then (0 : Int) else 130) = 0 := fun h => if_pos h
  have qo2 : ¬ okCk m.W k → (if okCk m.W k then (0 : Int) else 130) = 130 := fun h => if_neg h
  generalize madeK m.W k v = R at *
  generalize (if okCk m.W k then (0 : Int) else 130) = Q at *
  generalize okCk m.W k = ok at *
  clear hk hW
  obtain ⟨N, S, G, W, D, L, cold, ms⟩ := m
  obtain ⟨Ac, nc, cc⟩ := c
  obtain ⟨As, ns, cs⟩ := s
  obtain ⟨st, sl, dv⟩ := k
  obtain ⟨A, n, c⟩ := v
  dsimp only [vM, cK] at *
  have HCC := Lib.hid hcc; clear hcc
  obtain ⟨km, kc, kr, bc⟩ := bx3 w #[.int .i64 N, .int .i64 S, .int .i64 G, .int .i64 W, .int .i64 D, .int .i64 L, .slice Ac nc cc, .slice As ns cs] #[.int .i64 st, .int .i64 sl, .slice A n c] #[.int .i64 0, .int .i64 0, .slice none 0 0] 25 28 28
  obtain ⟨p0, p1, p2, p3, p4, p5, p6, p7⟩ := km.eight; obtain ⟨q0, q1, q2, -⟩ := kc.three; obtain ⟨r0, r1, r2, g0, g1, g2⟩ := kr.three
  have hgr : w.heap.size + 1 + 1 < (((w.alloc (.cells #[.int .i64 N, .int .i64 S, .int .i64 G, .int .i64 W, .int .i64 D, .int .i64 L, .slice Ac nc cc, .slice As ns cs] 25)).alloc (.cells #[.int .i64 st, .int .i64 sl, .slice A n c] 28)).alloc (.cells #[.int .i64 0, .int .i64 0, .slice none 0 0] 28)).heap.size := kr.lt
  clear hgr
  by_cases ho : ok
  · obtain rfl := hy ho
    obtain rfl := qo1 ho
    clear hno hy qo1 qo2
    go_enter Try.func41, Try.ntmps41
    go_wp2_with (first | (go_at_call 34; refine (HCC.out _ bc).mono ?_; rintro e w1 ⟨rfl, hC⟩; dsimp only; (try clear p0 p1 p2 p3 p4 p5 p6 p7); (try clear q0 q1 q2); (try clear r0 r1 r2 g0 g1 g2); replace kc := kc.on hC; replace kr := kr.on hC; replace bc := bc.trans (hC.mono bc.size); clear hC; obtain ⟨q0, q1, q2, -⟩ := kc.three; obtain ⟨r0, r1, r2, g0, g1, g2⟩ := kr.three))
    exact bodyPost_ret (v := .tuple #[.agg #[.int .i64 st, .int .i64 sl, .slice A n c], .int .i64 0]) (by simp [results, Try.results41, go_sem, r0, r1, r2]) rfl ⟨rfl, by repeat (first | refine Below.setCell ?_ (by dsimp only; omega) _ | exact bc)⟩
  · obtain rfl := hno ho
    obtain rfl := qo2 ho
    clear hno hy qo1 qo2
    go_enter Try.func41, Try.ntmps41
    go_wp2_with (first | (go_at_call 34; refine (HCC.out _ bc).mono ?_; rintro e w1 ⟨rfl, hC⟩; dsimp only; (try clear p0 p1 p2 p3 p4 p5 p6 p7); (try clear q0 q1 q2); (try clear r0 r1 r2 g0 g1 g2); replace kc := kc.on hC; replace kr := kr.on hC; replace bc := bc.trans (hC.mono bc.size); clear hC; obtain ⟨q0, q1, q2, -⟩ := kc.three; obtain ⟨r0, r1, r2, g0, g1, g2⟩ := kr.three))
    exact bodyPost_ret (v := .tuple #[.agg #[.int .i64 0, .int .i64 0, .slice none 0 0], .int .i64 130]) (by simp [results, Try.results41, go_sem, r0, r1, r2]) rfl ⟨rfl, by repeat (first | refine Below.setCell ?_ (by dsimp only; omega) _ | exact bc)⟩
end Go.Proofs.Ytlkmipcenlhacaa
