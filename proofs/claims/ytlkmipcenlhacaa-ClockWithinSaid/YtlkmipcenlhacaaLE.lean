/-
  The document's Correct, Join and Same of layer 13. Conditions: lists and clocks that can be read. (Printed by tools/gen13e.py; laid ahead.)
-/
import Derived.Test.YtlkmipcenlhacaaLC
import Derived.Test.YtlkmipcenlhacaaQG
import Derived.Deep.CutBlock
namespace Go.Proofs.Ytlkmipcenlhacaa
open Go.RowKit

theorem ints_of_rowK {w : World} {base : Nat} {A : Option Addr} {n c k : Nat} {l : List Int} (h : w.ownsRow base 2 1 (.slice A n c) k (l.map (Value.int .i64))) : Ints w.heap.size w A l := by
  obtain ⟨A4, c4, e4, -, -, hI⟩ := ints_own h
  injection e4 with e5 e6 e7
  subst e5
  exact hI
/-- append to a row of the call's own. -/
theorem run_append_on (W : World) (base : Nat) (ty : TypeId) (B : Option Addr) (kn d : Nat) (xs : List Value) (h0 : W.ownsRow base 2 1 (.slice B kn d) kn xs) (hb : base ≤ W.heap.size) (hkd : kn ≤ 1000) (n₀ : Nat) (l : List Int) (v : Slc) (h : Ints n₀ W v.A l) (hn : v.n = l.length) (hz : v.A = none → v.n = 0 ∧ v.c = 0) (hm : v.n ≤ 1000) :
    ∃ A c w', (Builtin.append_ #[26, 26] ty #[.slice B kn d, .slice v.A v.n v.c]).run Try.prog W = .ok (.slice A (kn + v.n) c) w' ∧ w'.ownsRow base 2 1 (.slice A (kn + v.n) c) (kn + v.n) (xs ++ valsK l) ∧ W.grownBy w' (Value.slice B kn d).ownBlock := by
  obtain ⟨i0, hi, hz0, hz1, hz2⟩ := info_parts Try.infoJ
  obtain ⟨A, n, c⟩ := v
  dsimp only at h hn hz hm ⊢
  cases A with
  | none =>
    obtain ⟨rfl, rfl⟩ := hz rfl
    obtain rfl : l = [] := List.eq_nil_of_length_eq_zero hn.symm
    have hkd2 : kn ≤ d := by
      rcases h0.2 with ⟨e, e0⟩ | ⟨g, cap, cur, e, _, _, hc, _⟩
      · omega
      · injection e with _ _ e3
        omega
    refine ⟨B, d, W, ?_, by simpa using h0, World.grownBy.refl _ _⟩
    simp [hkd2, Builtin.mayShare, Builtin.append_, run_underlying Try.underlying26, sizeOf, typeInfo, hi, Builtin.lenOf, Builtin.firstCells]
    cases B <;> simp [storeCells]
  | some a =>
    obtain ⟨v', w', hr, hown, hg, -⟩ := run_append_own (P := Try.prog) W base 26 ty 2 i0 (.int .i64 0) 1 8 Try.underlying26 hi hz0 hz1 hz2 rfl (by decide) (.slice B kn d) kn xs h0 a n c (valsK l) (by simp; omega) (ints_cells h) (ints_one l) (by unfold maxLen; omega) (by omega) hb
    obtain ⟨A', c', rfl⟩ : ∃ A' c', v' = .slice A' (kn + n) c' := by
      rcases hown.2 with ⟨rfl, e⟩ | ⟨g, cap, cur, rfl, _⟩
      · exact ⟨none, 0, by rw [e]⟩
      · exact ⟨_, _, rfl⟩
    exact ⟨A', c', w', hr, hown, hg⟩
theorem wpList_append_on {ops : Array Oper} {rest : List Oper} {o : Oper} {a : Act} {Q : Exit → Act → World → Prop} {W : World} (hgd : o.guard = none) (s x : Operand) (ho : o.op = .call { callee := .builtin .append, args := #[s, x], argTypes := #[26, 26] })
    (base : Nat) (B : Option Addr) (kn d : Nat) (xs : List Value) (h0 : W.ownsRow base 2 1 (.slice B kn d) kn xs) (hb : base ≤ W.heap.size) (hkd : kn ≤ 1000)
    (n₀ : Nat) (l : List Int) (v : Slc) (h : Ints n₀ W v.A l) (hn : v.n = l.length) (hz : v.A = none → v.n = 0 ∧ v.c = 0) (hm : v.n ≤ 1000) (hs : a.eval s = .slice B kn d) (hx : a.eval x = .slice v.A v.n v.c)
    (k : ∀ A c w', w'.ownsRow base 2 1 (.slice A (kn + v.n) c) (kn + v.n) (xs ++ valsK l) → W.grownBy w' (Value.slice B kn d).ownBlock → wpList Try.prog ops Q rest (a.put o.dst (.slice A (kn + v.n) c)) w') : wpList Try.prog ops Q (o :: rest) a W :=
  wpList_plain hgd fun _ hK => by
    obtain ⟨A, c, w', hr, h2, h3⟩ := run_append_on W base o.type B kn d xs h0 hb hkd n₀ l v h hn hz hm
    unfold Oper.wp execOp
    simp only [ho, resolve, invoke, builtin, Sem.run_bind, Sem.run_pure, Result.andThen_ok, List.map_toArray, List.map_cons, List.map_nil, hs, hx, hr]
    exact hK _ _ (k A c w' h2 h3)

set_option maxRecDepth 100000 in
set_option maxHeartbeats 4000000 in
theorem rcorK_any (m : ML) (c s : Slc) (k : Ck) (v : Slc) (w : World) (hM : Med w m c s) (hk : CkOk w.heap.size w k v) : Calls Try.prog 21 #[vM m c s, .agg (cK k v)] w fun e w' => e = .returned (.tuple #[.int .i64 (corK m k).2, .int .i64 (corK m k).1]) ∧ Below w.heap.size w w' := by
  have hck := fun U (hb : Below w.heap.size w U) => rchkK_any m c s k v U (hM.on hb) (hk.on hb)
  have qA : ¬ chkK m k = 0 → corK m k = (chkK m k, 0) := fun h => by unfold corK; rw [if_neg h]
  have qB : chkK m k = 0 → corK m k = (0, midOf (0 :: k.dv)) ∧ midS (0 :: k.dv) = (midOf (0 :: k.dv), 0) ∧ v.n ≤ 8 := fun h => by
    obtain ⟨h1, h2⟩ := chkK_zero.1 h
    have hn := okM_nums h1
    refine ⟨by unfold corK; rw [if_pos h]; rfl, midS_in (by simp) (devs_off h2 hn.2.2.2.1.2 (by omega)), by rw [hk.dn]; exact h2.2.1⟩
  generalize corK m k = CC at *
  generalize chkK m k = ck at *
  obtain ⟨hd, hdn, hdc, hdm, hdz⟩ := hk
  clear hM hdc hdm
  obtain ⟨N, S, G, W, D, L, cold, ms⟩ := m
  obtain ⟨Ac, nc, cc⟩ := c
  obtain ⟨As, ns, cs⟩ := s
  obtain ⟨st, sl, dv⟩ := k
  obtain ⟨A, n, c⟩ := v
  dsimp only [vM, cK] at *
  have HCK := Lib.hid hck; have HDN := Lib.hid hdn; clear hck hdn
  obtain ⟨km, kc, bc⟩ := bx2 w #[.int .i64 N, .int .i64 S, .int .i64 G, .int .i64 W, .int .i64 D, .int .i64 L, .slice Ac nc cc, .slice As ns cs] #[.int .i64 st, .int .i64 sl, .slice A n c] 25 28
  obtain ⟨p0, p1, p2, p3, p4, p5, p6, p7⟩ := km.eight; obtain ⟨q0, q1, q2, -⟩ := kc.three
  by_cases h0 : ck = 0
  rotate_left
  · obtain rfl := qA h0
    have d0 : (ck != 0) = true := by simpa using h0
    clear qB hd hdz
    go_enter Try.func21, Try.ntmps21
    go_wp2_with (first | (go_at_call 13; refine (HCK.out _ bc).mono ?_; rintro e w1 ⟨rfl, hC⟩; dsimp only; (try clear p0 p1 p2 p3 p4 p5 p6 p7); (try clear q0 q1 q2); replace km := km.on hC; replace kc := kc.on hC; replace bc := bc.trans (hC.mono bc.size); clear hC; obtain ⟨p0, p1, p2, p3, p4, p5, p6, p7⟩ := km.eight; obtain ⟨q0, q1, q2, -⟩ := kc.three))
    go_ret2
    exact ⟨rfl, bc⟩
  subst h0
  obtain ⟨rfl, hmid, hn8⟩ := qB rfl
  clear qA qB
  have hr := fun A c U (hA : Ints U.heap.size U A (0 :: dv)) => rmid_any A (1 + n) c (0 :: dv) U (by rw [HDN.out]; simp; omega) (by omega) hA
  rw [hmid] at hr
  unfold midV at hr
  dsimp only at hr
  have HR := Lib.hid hr; have HD := Lib.hid hd; clear hr hmid hd
  generalize midOf (0 :: dv) = mv at *
  go_enter Try.func21, Try.ntmps21
  go_upto_region 4 with (first | (go_at_call 13; refine (HCK.out _ bc).mono ?_; rintro e w1 ⟨rfl, hC⟩; dsimp only; (try clear p0 p1 p2 p3 p4 p5 p6 p7); (try clear q0 q1 q2); replace km := km.on hC; replace kc := kc.on hC; replace bc := bc.trans (hC.mono bc.size); clear hC; obtain ⟨p0, p1, p2, p3, p4, p5, p6, p7⟩ := km.eight; obtain ⟨q0, q1, q2, -⟩ := kc.three))
  have al := Below.al w1 (.cells #[.int .i64 0] 2)
  have hrow0 : (w1.alloc (.cells #[.int .i64 0] 2)).ownsRow w1.heap.size 2 1 (.slice (some ⟨w1.heap.size, 0, none⟩) 1 1) 1 [.int .i64 0] := World.ownsRow_lit w1 #[.int .i64 0] 1 (Nat.le_refl _) (by decide) rfl
  have kc2 := kc.on al
  obtain ⟨j0, j1, j2, -⟩ := kc2.three
  have bc2 := bc.trans (al.mono bc.size)
  have hs2 := al.size
  have hbz := bc.size
  clear p0 p1 p2 p3 p4 p5 p6 p7 q0 q1 q2 km kc al
  obtain ⟨q0, q1, q2, -⟩ := kc2.three
  go_wp2_with (first
    | (at_builtin; refine wpList_append_on rfl _ _ rfl w1.heap.size (some ⟨w1.heap.size, 0, none⟩) 1 1 [.int .i64 0] hrow0 hs2 (by omega) w.heap.size dv ⟨A, n, c⟩ (HD.out.below bc2) HDN.out hdz (by dsimp only; omega) rfl rfl ?_; intro A3 c3 w3 hown3 hg3; dsimp only at hown3)
    | (go_at_call 38; refine (HR.out A3 c3 w3 (ints_of_rowK (l := 0 :: dv) hown3)).mono ?_; rintro e w4 ⟨rfl, hC⟩; dsimp only; have b3 : Below w.heap.size w w3 := bc2.grown hg3 bc2.size (fun q e => by simp [Value.ownBlock] at e; omega); clear hown3 hg3; replace bc := b3.trans (hC.mono b3.size)))
  go_ret2
  exact ⟨rfl, bc⟩
set_option maxRecDepth 100000 in
set_option maxHeartbeats 4000000 in
theorem rsameK_any (k : Ck) (v : Slc) (r : Ck) (u : Slc) (w : World) (hk : CkOk w.heap.size w k v) (hr : CkOk w.heap.size w r u) : Calls Try.prog 15 #[.agg (cK k v), .agg (cK r u)] w fun e w' => e = .returned (.bool (sameK k r)) ∧ Below w.heap.size w w' := by
  obtain ⟨R, hR⟩ : ∃ R, R = sameK k r := ⟨_, rfl⟩
  rw [← hR]
  unfold sameK at hR
  have hA := hk.d; have hB := hr.d; have hn := hk.dn; have hn2 := hr.dn; have hm := hk.dm; unfold maxLen at hm
  clear hk hr
  obtain ⟨st, sl, dv⟩ := k
  obtain ⟨A, n, c⟩ := v
  obtain ⟨st2, sl2, dv2⟩ := r
  obtain ⟨A2, n2, c2⟩ := u
  dsimp only [cK] at *
  have hno : ¬ (st = st2 ∧ sl = sl2 ∧ n = n2 ∧ ∀ i, i < n → nth dv i = nth dv2 i) → R = false := fun h => by
    rw [hR]
    refine decide_eq_false (fun h2 => h ⟨h2.1, h2.2.1, by rw [hn, hn2, h2.2.2], fun i _ => by rw [h2.2.2]⟩)
  have hyes : (st = st2 ∧ sl = sl2 ∧ n = n2 ∧ ∀ i, i < n → nth dv i = nth dv2 i) → R = true := fun h => by
    rw [hR]
    refine decide_eq_true ⟨h.1, h.2.1, List.ext_getElem (by omega) fun i h1 h2 => ?_⟩
    have := h.2.2.2 i (by omega)
    rw [nth_at h1, nth_at h2] at this
    exact this
  clear hR
  obtain ⟨ka, kb, bc⟩ := bx2 w #[.int .i64 st, .int .i64 sl, .slice A n c] #[.int .i64 st2, .int .i64 sl2, .slice A2 n2 c2] 28 28
  obtain ⟨p0, p1, p2, -⟩ := ka.three; obtain ⟨q0, q1, q2, -⟩ := kb.three
  have HN := Lib.hid hn; have HN2 := Lib.hid hn2; have HA := Lib.hid hA; have HB := Lib.hid hB; have HNO := Lib.hid hno; have HYES := Lib.hid hyes
  clear hn hn2 hA hB hno hyes
  by_cases c1 : st = st2
  rotate_left
  · obtain rfl := HNO.out (fun h => c1 h.1)
    have d1 : (st != st2) = true := by simpa using c1
    go_enter Try.func15, Try.ntmps15
    go_wp2
    go_ret
    exact ⟨rfl, bc⟩
  subst c1
  by_cases c2 : sl = sl2
  rotate_left
  · obtain rfl := HNO.out (fun h => c2 h.2.1)
    have d1 : (sl != sl2) = true := by simpa using c2
    go_enter Try.func15, Try.ntmps15
    go_wp2
    go_ret
    exact ⟨rfl, bc⟩
  subst c2
  by_cases c3 : n = n2
  rotate_left
  · obtain rfl := HNO.out (fun h => c3 h.2.2.1)
    have d1 : ((n : Int) != (n2 : Int)) = true := by simp; omega
    have d2 : ((n : Int) == (n2 : Int)) = false := by simp; omega
    go_enter Try.func15, Try.ntmps15
    go_wp2
    go_ret
    exact ⟨rfl, bc⟩
  subst c3
  go_enter Try.func15, Try.ntmps15
  go_wp2_with fail
  clear p0 p1 p2 q0 q1 q2
  generalize (w.alloc (.cells #[.int .i64 st, .int .i64 sl, .slice A n c] 28)).alloc (.cells #[.int .i64 st, .int .i64 sl, .slice A2 n c2] 28) = u1 at *
  go_loopw [5] (fun i wr => ∃ j : Nat, j ≤ n ∧ i = .int .i64 j ∧ (∀ i, i < j → nth dv i = nth dv2 i) ∧ Blk wr w.heap.size 28 #[.int .i64 st, .int .i64 sl, .slice A n c] ∧ Blk wr (w.heap.size + 1) 28 #[.int .i64 st, .int .i64 sl, .slice A2 n c2] ∧ Below w.heap.size w wr)
    (fun i _ => n - (intOf i).toNat)
  case atStart => exact ⟨0, by omega, rfl, fun j hj => by omega, ka, kb, bc⟩
  case round =>
    clear ka kb bc
    obtain ⟨j, hj, rfl, hall, ka, kb, bc⟩ := hrel
    obtain ⟨p0, p1, p2, -⟩ := ka.three; obtain ⟨q0, q1, q2, -⟩ := kb.three
    by_cases hlt : j < n
    rotate_left
    · obtain rfl : j = n := by omega
      obtain rfl := HYES.out ⟨by trivial, by trivial, by trivial, hall⟩
      clear hall
      go_wp2
      go_ret
      exact ⟨rfl, bc⟩
    have hlt2 : (j : Int) < (n : Int) := by omega
    obtain ⟨b, off, rfl, hb, hcell⟩ := (HA.out.below bc).nAt (k := j) (by have := HN.out; omega)
    obtain ⟨b', off', rfl, hb', hcell'⟩ := (HB.out.below bc).nAt (k := j) (by have := HN2.out; omega)
    obtain ⟨x0, x1, x2⟩ := near_three ka
    obtain ⟨y0, y1, y2⟩ := near_three kb
    have m0 := near_cellK (Nat.lt_of_lt_of_le hb bc.size) hcell
    have m1 := near_cellK (Nat.lt_of_lt_of_le hb' bc.size) hcell'
    have hno := fun (h : ¬ nth dv j = nth dv2 j) => HNO.out (fun h2 => h (h2.2.2.2 j hlt))
    have hst : nth dv j = nth dv2 j → ∀ i, i < j + 1 → nth dv i = nth dv2 i := fun h1 i hi => by
      rcases Nat.lt_or_ge i j with h2 | h2
      · exact hall i h2
      · obtain rfl : i = j := by omega
        exact h1
    have HST := Lib.hid hst; have HX := Lib.hid hno
    have KA := Lib.hid ka; have KB := Lib.hid kb; have BC := Lib.hid bc
    clear hst hno hall hcell hcell' ka kb bc
    generalize nth dv j = x at *
    generalize nth dv2 j = y at *
    by_cases e1 : x = y
    rotate_left
    · obtain rfl := HX.out e1
      have d5 : (x != y) = true := by simpa using e1
      go_wp2_with fail
      refine wp_region_near (by kernel_rfl) (by kernel_rfl) ?_
      repeat (go_big_quiet_step (first | fail))
      refine wpQuiet_nil ?_
      rintro _ ⟨nw, rfl⟩
      have ka := KA.out.on nw.h
      have kb := KB.out.on nw.h
      have bc := BC.out.trans (nw.h.mono BC.out.size)
      clear x0 x1 x2 y0 y1 y2 m0 m1 p0 p1 p2 q0 q1 q2
      go_wp2
      go_ret
      exact ⟨rfl, bc⟩
    subst e1
    have HS2 := Lib.hid (HST.out rfl)
    go_wp2_with fail
    refine wp_region_near (by kernel_rfl) (by kernel_rfl) ?_
    repeat (go_big_quiet_step (first | fail))
    refine wpQuiet_nil ?_
    rintro _ ⟨nw, rfl⟩
    have ka := KA.out.on nw.h
    have kb := KB.out.on nw.h
    have bc := BC.out.trans (nw.h.mono BC.out.size)
    clear x0 x1 x2 y0 y1 y2 m0 m1 p0 p1 p2 q0 q1 q2
    go_wp2_with fail
    go_roundw
    case rel => exact ⟨j + 1, by omega, by go_num, HS2.out, ka, kb, bc⟩
    case measure => simp [intOf]; omega
set_option maxRecDepth 100000 in
set_option maxHeartbeats 4000000 in
theorem rjoinK_any (m : ML) (c s : Slc) (a q : Int) (w : World) (hM : Med w m c s) : Calls Try.prog 28 #[vM m c s, .int .i64 a, .int .i64 q] w (ResCk w (joinK m a q)) := by
  have hck := fun U (hb : Below w.heap.size w U) => rmcheck_any m c s U (hM.on hb)
  have hkk := fun U (hb : Below w.heap.size w U) => rchkK_any m c s ⟨a - m.G - m.L, q, []⟩ ⟨none, 0, 0⟩ U (hM.on hb) (CkOk.zero _ _ _ _)
  have qA : ¬ okM m → checkM m = 70 ∧ joinK m a q = (70, zeroCk) := fun h => ⟨checkM_no h, by unfold joinK; rw [if_neg h]⟩
  have qB : okM m → checkM m = 0 := checkM_zero.2
  have qC : okM m → ¬ (0 ≤ q ∧ q < m.N) → joinK m a q = (2, zeroCk) := fun h h2 => by unfold joinK; rw [if_pos h, if_neg h2]
  have qD : okM m → (0 ≤ q ∧ q < m.N) → ¬ (0 ≤ a ∧ a ≤ 1099511627776) → joinK m a q = (130, zeroCk) := fun h h2 h3 => by unfold joinK; rw [if_pos h, if_pos h2, if_neg (fun h4 => h3 h4.1)]
  have qE : okM m → (0 ≤ q ∧ q < m.N) → (0 ≤ a ∧ a ≤ 1099511627776) → ¬ okCk m.W ⟨a - m.G - m.L, q, []⟩ → joinK m a q = (130, zeroCk) ∧ chkK m ⟨a - m.G - m.L, q, []⟩ = 130 := fun h h2 h3 h4 => ⟨by unfold joinK; rw [if_pos h, if_pos h2, if_neg (fun h5 => h4 h5.2)], chkK_clock h h4⟩
  have qF : okM m → (0 ≤ q ∧ q < m.N) → (0 ≤ a ∧ a ≤ 1099511627776) → okCk m.W ⟨a - m.G - m.L, q, []⟩ → joinK m a q = (0, ⟨a - m.G - m.L, q, []⟩) ∧ chkK m ⟨a - m.G - m.L, q, []⟩ = 0 := fun h h2 h3 h4 => ⟨by unfold joinK; rw [if_pos h, if_pos h2, if_pos ⟨h3, h4⟩], chkK_zero.2 ⟨h, h4⟩⟩
  have hbn := fun h => okM_nums (m := m) h
  unfold ResCk
  generalize joinK m a q = RR at *
  obtain ⟨ok, hokm⟩ : ∃ ok, ok = okM m := ⟨_, rfl⟩
  rw [← hokm] at qA qB qC qD qE qF hbn
  generalize hkc : okCk m.W ⟨a - m.G - m.L, q, []⟩ = okc at *
  generalize chkK m ⟨a - m.G - m.L, q, []⟩ = ck at *
  generalize checkM m = cm at *
  clear hM hokm hkc
  obtain ⟨N, S, G, W, D, L, cold, ms⟩ := m
  obtain ⟨Ac, nc, cc⟩ := c
  obtain ⟨As, ns, cs⟩ := s
  dsimp only [vM, cK] at *
  obtain ⟨km, kr, bc⟩ := bx2 w #[.int .i64 N, .int .i64 S, .int .i64 G, .int .i64 W, .int .i64 D, .int .i64 L, .slice Ac nc cc, .slice As ns cs] #[.int .i64 0, .int .i64 0, .slice none 0 0] 25 28
  obtain ⟨p0, p1, p2, p3, p4, p5, p6, p7⟩ := km.eight; obtain ⟨r0, r1, r2, g0, g1, g2⟩ := kr.three
  have HCK := Lib.hid hck; have HKK := Lib.hid hkk; clear hck hkk
  by_cases hok : ok
  rotate_left
  · obtain ⟨rfl, rfl⟩ := qA hok
    clear qB qC qD qE qF hbn
    go_enter Try.func28, Try.ntmps28
    go_wp2_with (first | (go_at_call 35; refine (HCK.out _ bc).mono ?_; rintro e w1 ⟨rfl, hC⟩; dsimp only; (try clear p0 p1 p2 p3 p4 p5 p6 p7); (try clear r0 r1 r2 g0 g1 g2); replace km := km.on hC; replace kr := kr.on hC; replace bc := bc.trans (hC.mono bc.size); clear hC; obtain ⟨p0, p1, p2, p3, p4, p5, p6, p7⟩ := km.eight; obtain ⟨r0, r1, r2, g0, g1, g2⟩ := kr.three))
    exact bodyPost_ret (v := .tuple #[.agg #[.int .i64 0, .int .i64 0, .slice none 0 0], .int .i64 70]) (by simp [results, Try.results28, go_sem, r0, r1, r2]) rfl ⟨⟨none, 0, 0⟩, rfl, CkFr.zero _ _ _ _, by repeat (first | refine Below.setCell ?_ (by dsimp only; omega) _ | exact bc)⟩
  obtain rfl := qB hok
  replace qC := qC hok; replace qD := qD hok; replace qE := qE hok; replace qF := qF hok
  obtain ⟨⟨n4, n8⟩, -, ⟨l0, l1⟩, ⟨w0, w9⟩, ⟨g9, g8⟩, -⟩ := hbn hok
  (try dsimp only at n4 n8 l0 l1 w0 w9 g9 g8)
  clear qA qB hbn
  by_cases cA : 0 ≤ q
  rotate_left
  · obtain rfl := qC (by omega)
    have d1 : decide (q < 0) = true := by simp; omega
    clear qD qE qF
    go_enter Try.func28, Try.ntmps28
    go_wp2_with (first | (go_at_call 35; refine (HCK.out _ bc).mono ?_; rintro e w1 ⟨rfl, hC⟩; dsimp only; (try clear p0 p1 p2 p3 p4 p5 p6 p7); (try clear r0 r1 r2 g0 g1 g2); replace km := km.on hC; replace kr := kr.on hC; replace bc := bc.trans (hC.mono bc.size); clear hC; obtain ⟨p0, p1, p2, p3, p4, p5, p6, p7⟩ := km.eight; obtain ⟨r0, r1, r2, g0, g1, g2⟩ := kr.three))
    exact bodyPost_ret (v := .tuple #[.agg #[.int .i64 0, .int .i64 0, .slice none 0 0], .int .i64 2]) (by simp [results, Try.results28, go_sem, r0, r1, r2]) rfl ⟨⟨none, 0, 0⟩, rfl, CkFr.zero _ _ _ _, by repeat (first | refine Below.setCell ?_ (by dsimp only; omega) _ | exact bc)⟩
  have dcA : decide (q < 0) = false := by simp; omega
  by_cases cB : q < N
  rotate_left
  · obtain rfl := qC (by omega)
    have d1 : decide (N ≤ q) = true := by simp; omega
    clear qD qE qF
    go_enter Try.func28, Try.ntmps28
    go_wp2_with (first | (go_at_call 35; refine (HCK.out _ bc).mono ?_; rintro e w1 ⟨rfl, hC⟩; dsimp only; (try clear p0 p1 p2 p3 p4 p5 p6 p7); (try clear r0 r1 r2 g0 g1 g2); replace km := km.on hC; replace kr := kr.on hC; replace bc := bc.trans (hC.mono bc.size); clear hC; obtain ⟨p0, p1, p2, p3, p4, p5, p6, p7⟩ := km.eight; obtain ⟨r0, r1, r2, g0, g1, g2⟩ := kr.three))
    exact bodyPost_ret (v := .tuple #[.agg #[.int .i64 0, .int .i64 0, .slice none 0 0], .int .i64 2]) (by simp [results, Try.results28, go_sem, r0, r1, r2]) rfl ⟨⟨none, 0, 0⟩, rfl, CkFr.zero _ _ _ _, by repeat (first | refine Below.setCell ?_ (by dsimp only; omega) _ | exact bc)⟩
  have dcB : decide (N ≤ q) = false := by simp; omega
  replace qD := qD ⟨cA, cB⟩; replace qE := qE ⟨cA, cB⟩; replace qF := qF ⟨cA, cB⟩; clear qC
  by_cases cC : 0 ≤ a
  rotate_left
  · obtain rfl := qD (by omega)
    have d1 : decide (a < 0) = true := by simp; omega
    clear qE qF
    go_enter Try.func28, Try.ntmps28
    go_wp2_with (first | (go_at_call 35; refine (HCK.out _ bc).mono ?_; rintro e w1 ⟨rfl, hC⟩; dsimp only; (try clear p0 p1 p2 p3 p4 p5 p6 p7); (try clear r0 r1 r2 g0 g1 g2); replace km := km.on hC; replace kr := kr.on hC; replace bc := bc.trans (hC.mono bc.size); clear hC; obtain ⟨p0, p1, p2, p3, p4, p5, p6, p7⟩ := km.eight; obtain ⟨r0, r1, r2, g0, g1, g2⟩ := kr.three))
    exact bodyPost_ret (v := .tuple #[.agg #[.int .i64 0, .int .i64 0, .slice none 0 0], .int .i64 130]) (by simp [results, Try.results28, go_sem, r0, r1, r2]) rfl ⟨⟨none, 0, 0⟩, rfl, CkFr.zero _ _ _ _, by repeat (first | refine Below.setCell ?_ (by dsimp only; omega) _ | exact bc)⟩
  have dcC : decide (a < 0) = false := by simp; omega
  by_cases cD : a ≤ 1099511627776
  rotate_left
  · obtain rfl := qD (by omega)
    have d1 : decide (1099511627776 < a) = true := by simp; omega
    clear qE qF
    go_enter Try.func28, Try.ntmps28
    go_wp2_with (first | (go_at_call 35; refine (HCK.out _ bc).mono ?_; rintro e w1 ⟨rfl, hC⟩; dsimp only; (try clear p0 p1 p2 p3 p4 p5 p6 p7); (try clear r0 r1 r2 g0 g1 g2); replace km := km.on hC; replace kr := kr.on hC; replace bc := bc.trans (hC.mono bc.size); clear hC; obtain ⟨p0, p1, p2, p3, p4, p5, p6, p7⟩ := km.eight; obtain ⟨r0, r1, r2, g0, g1, g2⟩ := kr.three))
    exact bodyPost_ret (v := .tuple #[.agg #[.int .i64 0, .int .i64 0, .slice none 0 0], .int .i64 130]) (by simp [results, Try.results28, go_sem, r0, r1, r2]) rfl ⟨⟨none, 0, 0⟩, rfl, CkFr.zero _ _ _ _, by repeat (first | refine Below.setCell ?_ (by dsimp only; omega) _ | exact bc)⟩
  have dcD : decide (1099511627776 < a) = false := by simp; omega
  replace qE := qE ⟨cC, cD⟩; replace qF := qF ⟨cC, cD⟩; clear qD
  have e1 : IntKind.i64.wrap (a - G) = a - G := IntWalk.i64_in _ (by omega)
  have e2 : IntKind.i64.wrap (a - G - L) = a - G - L := IntWalk.i64_in _ (by omega)
  have QE := Lib.hid qE; have QF := Lib.hid qF; clear qE qF
  go_enter Try.func28, Try.ntmps28
  go_upto_region 9 with (first | (go_at_call 35; refine (HCK.out _ bc).mono ?_; rintro e w1 ⟨rfl, hC⟩; dsimp only; (try clear p0 p1 p2 p3 p4 p5 p6 p7); (try clear r0 r1 r2 g0 g1 g2); replace km := km.on hC; replace kr := kr.on hC; replace bc := bc.trans (hC.mono bc.size); clear hC; obtain ⟨p0, p1, p2, p3, p4, p5, p6, p7⟩ := km.eight; obtain ⟨r0, r1, r2, g0, g1, g2⟩ := kr.three))
  have kx := Blk.new w1 28 #[.int .i64 (a - G - L), .int .i64 q, .slice none 0 0]
  have al := Below.al w1 (.cells #[.int .i64 (a - G - L), .int .i64 q, .slice none 0 0] 28)
  have hgx := kr.lt
  clear p0 p1 p2 p3 p4 p5 p6 p7 r0 r1 r2 g0 g1 g2 e1 e2
  replace km := km.on al; replace kr := kr.on al; replace bc := bc.trans (al.mono bc.size); clear al
  generalize w1.alloc (.cells #[.int .i64 (a - G - L), .int .i64 q, .slice none 0 0] 28) = u1 at *
  generalize w1.heap.size = gx at *
  clear w1
  obtain ⟨p0, p1, p2, p3, p4, p5, p6, p7⟩ := km.eight; obtain ⟨r0, r1, r2, g0, g1, g2⟩ := kr.three; obtain ⟨x0, x1, x2, -⟩ := kx.three
  by_cases hkc : okc
  rotate_left
  · obtain ⟨rfl, rfl⟩ := QE.out hkc
    go_wp2_with (first | (go_at_call 13; refine (HKK.out _ bc).mono ?_; rintro e w2 ⟨rfl, hC⟩; dsimp only; (try clear p0 p1 p2 p3 p4 p5 p6 p7); (try clear r0 r1 r2 g0 g1 g2); (try clear x0 x1 x2); replace km := km.on hC; replace kr := kr.on hC; replace kx := kx.on hC; replace bc := bc.trans (hC.mono bc.size); clear hC; obtain ⟨p0, p1, p2, p3, p4, p5, p6, p7⟩ := km.eight; obtain ⟨r0, r1, r2, g0, g1, g2⟩ := kr.three; obtain ⟨x0, x1, x2, -⟩ := kx.three))
    exact bodyPost_ret (v := .tuple #[.agg #[.int .i64 0, .int .i64 0, .slice none 0 0], .int .i64 130]) (by simp [results, Try.results28, go_sem, r0, r1, r2]) rfl ⟨⟨none, 0, 0⟩, rfl, CkFr.zero _ _ _ _, by repeat (first | refine Below.setCell ?_ (by dsimp only; omega) _ | exact bc)⟩
  obtain ⟨rfl, rfl⟩ := QF.out hkc
  go_wp2_with (first | (go_at_call 13; refine (HKK.out _ bc).mono ?_; rintro e w2 ⟨rfl, hC⟩; dsimp only; (try clear p0 p1 p2 p3 p4 p5 p6 p7); (try clear r0 r1 r2 g0 g1 g2); (try clear x0 x1 x2); replace km := km.on hC; replace kr := kr.on hC; replace kx := kx.on hC; replace bc := bc.trans (hC.mono bc.size); clear hC; obtain ⟨p0, p1, p2, p3, p4, p5, p6, p7⟩ := km.eight; obtain ⟨r0, r1, r2, g0, g1, g2⟩ := kr.three; obtain ⟨x0, x1, x2, -⟩ := kx.three))
  exact bodyPost_ret (v := .tuple #[.agg #[.int .i64 (a - G - L), .int .i64 q, .slice none 0 0], .int .i64 0]) (by simp [results, Try.results28, go_sem, r0, r1, r2]) rfl ⟨⟨none, 0, 0⟩, rfl, CkFr.zero _ _ _ _, by repeat (first | refine Below.setCell ?_ (by dsimp only; omega) _ | exact bc)⟩
end Go.Proofs.Ytlkmipcenlhacaa
