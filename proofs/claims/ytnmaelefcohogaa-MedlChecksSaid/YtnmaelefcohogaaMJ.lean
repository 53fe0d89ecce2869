/-
  Listen, Retry, Kind and Air of package medl answer as the document says, of all lists. Condition: a list that can be read, and numbers that an int holds. (Printed by tools/gen07j.py.)
-/
import Derived.Test.YtnmaelefcohogaaMI
namespace Go.Proofs.Ytnmaelefcohogaa
open Go.RowKit

theorem neq_of {a : Int} (h : ¬ a = 0) : (a != 0) = true := by simpa using h
set_option maxRecDepth 8000 in
set_option maxHeartbeats 2000000 in
theorem listen_any (m : ML) (c s : Slc) (n : Int) (w : World) (hM : Med w m c s) : Calls Try.prog 23 #[vM m c s, .int .i64 n] w (Pr w (listenM m n)) := by
  have hck := fun W (h : Below w.heap.size w W) => checkNode_any m c s n W (hM.on h)
  unfold listenM
  by_cases h : nodeM m n = 0
  · obtain ⟨⟨c1, -⟩, c2, c3⟩ := nodeM_ok h
    rw [if_pos h]
    rw [h] at hck
    have HCK := Lib.hid hck; clear hck hM h
    obtain ⟨N, S, G, W, D, L, cold, ms⟩ := m
    obtain ⟨Ac, nc, cc⟩ := c
    obtain ⟨As, ns, cs⟩ := s
    dsimp only [vM] at *
    have w1 : IntKind.i64.wrap (n + 1) = n + 1 := IntWalk.i64_in _ (by omega)
    have w2 : IntKind.i64.wrap (2 * (n + 1)) = 2 * (n + 1) := IntWalk.i64_in _ (by omega)
    have w3 : IntKind.i64.wrap (4 * N) = 4 * N := IntWalk.i64_in _ (by omega)
    have w4 : IntKind.i64.wrap (4 * N + 2 * (n + 1)) = 4 * N + 2 * (n + 1) := IntWalk.i64_in _ (by omega)
    obtain ⟨kb, bc⟩ := bx1 w #[.int .i64 N, .int .i64 S, .int .i64 G, .int .i64 W, .int .i64 D, .int .i64 L, .slice Ac nc cc, .slice As ns cs] 25
    have hc := HCK.out _ bc
    have HC := Lib.hid hc; clear hc
    go_enter Try.func23, Try.ntmps23
    go_wp2_with (first | (go_at_call 55; refine HC.out.mono ?_; rintro e w1 ⟨rfl, hC⟩; dsimp only; replace kb := kb.on hC; replace bc := bc.trans (hC.mono bc.size); clear hC; obtain ⟨p0, p1, p2, p3, p4, p5, p6, p7⟩ := kb.eight))
    go_ret2
    exact ⟨rfl, bc⟩
  · rw [if_neg h]
    have hne := neq_of h
    clear h
    generalize nodeM m n = er at *
    have HCK := Lib.hid hck; clear hck hM
    obtain ⟨N, S, G, W, D, L, cold, ms⟩ := m
    obtain ⟨Ac, nc, cc⟩ := c
    obtain ⟨As, ns, cs⟩ := s
    dsimp only [vM] at *
    obtain ⟨kb, bc⟩ := bx1 w #[.int .i64 N, .int .i64 S, .int .i64 G, .int .i64 W, .int .i64 D, .int .i64 L, .slice Ac nc cc, .slice As ns cs] 25
    have hc := HCK.out _ bc
    have HC := Lib.hid hc; clear hc
    go_enter Try.func23, Try.ntmps23
    go_wp2_with (first | (go_at_call 55; refine HC.out.mono ?_; rintro e w1 ⟨rfl, hC⟩; dsimp only; replace kb := kb.on hC; replace bc := bc.trans (hC.mono bc.size); clear hC; obtain ⟨p0, p1, p2, p3, p4, p5, p6, p7⟩ := kb.eight))
    go_ret2
    exact ⟨rfl, bc⟩
set_option maxRecDepth 8000 in
set_option maxHeartbeats 2000000 in
theorem retry_any (m : ML) (c s : Slc) (n : Int) (w : World) (hM : Med w m c s) : Calls Try.prog 25 #[vM m c s, .int .i64 n] w (Pr w (retryM m n)) := by
  have hck := fun W (h : Below w.heap.size w W) => checkNode_any m c s n W (hM.on h)
  unfold retryM
  by_cases h : nodeM m n = 0
  · obtain ⟨⟨c1, -⟩, c2, c3⟩ := nodeM_ok h
    rw [if_pos h]
    rw [h] at hck
    have HCK := Lib.hid hck; clear hck hM h
    obtain ⟨N, S, G, W, D, L, cold, ms⟩ := m
    obtain ⟨Ac, nc, cc⟩ := c
    obtain ⟨As, ns, cs⟩ := s
    dsimp only [vM] at *
    have w1 : IntKind.i64.wrap (n + 1) = n + 1 := IntWalk.i64_in _ (by omega)
    have w2 : IntKind.i64.wrap (2 * (n + 1)) = 2 * (n + 1) := IntWalk.i64_in _ (by omega)
    obtain ⟨kb, bc⟩ := bx1 w #[.int .i64 N, .int .i64 S, .int .i64 G, .int .i64 W, .int .i64 D, .int .i64 L, .slice Ac nc cc, .slice As ns cs] 25
    have hc := HCK.out _ bc
    have HC := Lib.hid hc; clear hc
    go_enter Try.func25, Try.ntmps25
    go_wp2_with (first | (go_at_call 55; refine HC.out.mono ?_; rintro e w1 ⟨rfl, hC⟩; dsimp only; replace kb := kb.on hC; replace bc := bc.trans (hC.mono bc.size); clear hC; obtain ⟨p0, p1, p2, p3, p4, p5, p6, p7⟩ := kb.eight))
    go_ret2
    exact ⟨rfl, bc⟩
  · rw [if_neg h]
    have hne := neq_of h
    clear h
    generalize nodeM m n = er at *
    have HCK := Lib.hid hck; clear hck hM
    obtain ⟨N, S, G, W, D, L, cold, ms⟩ := m
    obtain ⟨Ac, nc, cc⟩ := c
    obtain ⟨As, ns, cs⟩ := s
    dsimp only [vM] at *
    obtain ⟨kb, bc⟩ := bx1 w #[.int .i64 N, .int .i64 S, .int .i64 G, .int .i64 W, .int .i64 D, .int .i64 L, .slice Ac nc cc, .slice As ns cs] 25
    have hc := HCK.out _ bc
    have HC := Lib.hid hc; clear hc
    go_enter Try.func25, Try.ntmps25
    go_wp2_with (first | (go_at_call 55; refine HC.out.mono ?_; rintro e w1 ⟨rfl, hC⟩; dsimp only; replace kb := kb.on hC; replace bc := bc.trans (hC.mono bc.size); clear hC; obtain ⟨p0, p1, p2, p3, p4, p5, p6, p7⟩ := kb.eight))
    go_ret2
    exact ⟨rfl, bc⟩
set_option maxRecDepth 8000 in
set_option maxHeartbeats 2000000 in
theorem checkPlace_any (m : ML) (c s : Slc) (mo n : Int) (w : World) (hM : Med w m c s) : Calls Try.prog 52 #[vM m c s, .int .i64 mo, .int .i64 n] w fun e w' => e = .returned (.int .i64 (placeM m mo n)) ∧ Below w.heap.size w w' := by
  have hck := fun W (h : Below w.heap.size w W) => checkNode_any m c s n W (hM.on h)
  have hsn := hM.sn
  unfold placeM
  by_cases h : nodeM m n = 0
  · obtain ⟨⟨c1, c2, -⟩, -⟩ := nodeM_ok h
    rw [if_pos h]
    rw [h] at hck
    have HCK := Lib.hid hck; clear hck hM h
    rw [← hsn] at c2 ⊢
    clear hsn
    obtain ⟨N, S, G, W, D, L, cold, ms⟩ := m
    obtain ⟨Ac, nc, cc⟩ := c
    obtain ⟨As, ns, cs⟩ := s
    dsimp only [vM] at *
    have w1 : IntKind.i64.wrap ((ns : Int) - 1) = (ns : Int) - 1 := IntWalk.i64_in _ (by omega)
    obtain ⟨kb, bc⟩ := bx1 w #[.int .i64 N, .int .i64 S, .int .i64 G, .int .i64 W, .int .i64 D, .int .i64 L, .slice Ac nc cc, .slice As ns cs] 25
    have hc := HCK.out _ bc
    have HC := Lib.hid hc; clear hc
    have hbe := fun W => beyond_any 0 ((ns : Int) - 1) W
    have HBE := Lib.hid hbe; clear hbe
    by_cases b : beyondS 0 ((ns : Int) - 1) mo = true
    · rw [if_neg (fun h => beyond_true b ⟨h.1, by omega⟩)]
      have hb1 := fun g W h1 h2 => beyond1_any 0 ((ns : Int) - 1) mo g W h1 h2
      rw [b] at hb1
      have HB1 := Lib.hid hb1; clear hb1 b
      go_enter Try.func52, Try.ntmps52
      go_wp2_with (first
        | (go_at_call 55; refine HC.out.mono ?_; rintro e w1 ⟨rfl, hC⟩; dsimp only; replace kb := kb.on hC; replace bc := bc.trans (hC.mono bc.size); clear hC; obtain ⟨p0, p1, p2, p3, p4, p5, p6, p7⟩ := kb.eight)
        | (go_at_call 29; refine (HBE.out _).mono ?_; rintro e w2 ⟨g, rfl, hg, k1, k2, hC⟩; dsimp only; replace bc := bc.trans (hC.mono bc.size); clear hC)
        | (go_at_call 56; refine (HB1.out _ _ k1 k2).mono ?_; rintro e w3 ⟨rfl, rfl⟩))
      go_ret
      exact ⟨rfl, bc⟩
    · have bf := not_beyond b
      rw [if_pos (by have := beyond_false b; omega)]
      clear b
      have hb1 := fun g W h1 h2 => beyond1_any 0 ((ns : Int) - 1) mo g W h1 h2
      rw [bf] at hb1
      have HB1 := Lib.hid hb1; clear hb1 bf
      go_enter Try.func52, Try.ntmps52
      go_wp2_with (first
        | (go_at_call 55; refine HC.out.mono ?_; rintro e w1 ⟨rfl, hC⟩; dsimp only; replace kb := kb.on hC; replace bc := bc.trans (hC.mono bc.size); clear hC; obtain ⟨p0, p1, p2, p3, p4, p5, p6, p7⟩ := kb.eight)
        | (go_at_call 29; refine (HBE.out _).mono ?_; rintro e w2 ⟨g, rfl, hg, k1, k2, hC⟩; dsimp only; replace bc := bc.trans (hC.mono bc.size); clear hC)
        | (go_at_call 56; refine (HB1.out _ _ k1 k2).mono ?_; rintro e w3 ⟨rfl, rfl⟩))
      go_ret
      exact ⟨rfl, bc⟩
  · rw [if_neg h]
    have hne := neq_of h
    clear h
    generalize nodeM m n = er at *
    have HCK := Lib.hid hck; clear hck hM hsn
    obtain ⟨N, S, G, W, D, L, cold, ms⟩ := m
    obtain ⟨Ac, nc, cc⟩ := c
    obtain ⟨As, ns, cs⟩ := s
    dsimp only [vM] at *
    obtain ⟨kb, bc⟩ := bx1 w #[.int .i64 N, .int .i64 S, .int .i64 G, .int .i64 W, .int .i64 D, .int .i64 L, .slice Ac nc cc, .slice As ns cs] 25
    have hc := HCK.out _ bc
    have HC := Lib.hid hc; clear hc
    go_enter Try.func52, Try.ntmps52
    go_wp2_with (first | (go_at_call 55; refine HC.out.mono ?_; rintro e w1 ⟨rfl, hC⟩; dsimp only; replace kb := kb.on hC; replace bc := bc.trans (hC.mono bc.size); clear hC; obtain ⟨p0, p1, p2, p3, p4, p5, p6, p7⟩ := kb.eight))
    go_ret
    exact ⟨rfl, bc⟩
set_option maxRecDepth 8000 in
set_option maxHeartbeats 2000000 in
theorem mkind_any (m : ML) (c s : Slc) (mo n : Int) (w : World) (hM : Med w m c s) : Calls Try.prog 17 #[vM m c s, .int .i64 mo, .int .i64 n] w (Pr w (kindM m mo n)) := by
  have hck := fun W (h : Below w.heap.size w W) => checkPlace_any m c s mo n W (hM.on h)
  unfold kindM
  by_cases h : placeM m mo n = 0
  · obtain ⟨hok, ⟨n0, n1⟩, m0, m1⟩ := placeM_ok h
    rw [if_pos h]
    rw [h] at hck
    have HCK := Lib.hid hck; clear hck h
    have hmd := fun o (ho : o ∈ m.ms) => okM_mode hok ho
    obtain ⟨j, rfl⟩ := Int.eq_ofNat_of_zero_le m0
    obtain ⟨k, rfl⟩ := Int.eq_ofNat_of_zero_le n0
    have hjm : j < m.ms.length := by omega
    obtain ⟨o, ho⟩ : ∃ o, m.ms[j]? = some o := ⟨m.ms[j], List.getElem?_eq_getElem hjm⟩
    have hma : modeAt m (j : Int) = o := by unfold modeAt; rw [Int.toNat_natCast, ho]; rfl
    rw [hma, Int.toNat_natCast]
    obtain ⟨b, off, e1, hb, v, h0, h1, h2, hv⟩ := hM.sb.at_ ho
    obtain ⟨q1, q2, -, q4, -⟩ := hmd o (List.mem_of_getElem? ho)
    have hkd : k < o.d.length := by omega
    have hkx : k < o.x.length := by omega
    have hd0 := (data_at q4 k hkd).1
    have hko := fun W (h : Below w.heap.size w W) => kindOf_any o v k W (hv.on h) hkd hkx hd0
    have hsn := hM.sn
    have hjs : j < s.n := by omega
    have hsm : s.n ≤ maxLen := hM.sm
    unfold maxLen at hsm
    have HKO := Lib.hid hko; clear hko hv hM hmd hma ho hjm hok q1 q2 q4 hkd hkx hd0 n1 m1 n0 m0 hsn
    generalize o.d[k]?.getD 0 = d at *
    generalize o.x[k]?.getD false = x at *
    generalize kindS x d = ans at *
    obtain ⟨N, S, G, W, D, L, cold, ms⟩ := m
    obtain ⟨Ac, nc, cc⟩ := c
    obtain ⟨As, ns, cs⟩ := s
    dsimp only [vM] at *
    subst e1
    obtain ⟨⟨Ad, nd, cd⟩, ⟨Ax, nx, cx⟩, ⟨An, nn, cn⟩⟩ := v
    dsimp only [vO] at *
    obtain ⟨kb, bc⟩ := bx1 w #[.int .i64 N, .int .i64 S, .int .i64 G, .int .i64 W, .int .i64 D, .int .i64 L, .slice Ac nc cc, .slice (some ⟨b, off, none⟩) ns cs] 25
    have hc := HCK.out _ bc
    have HC := Lib.hid hc; clear hc
    replace h0 := (bc.cell (p := ⟨b, off + j * 3, none⟩) hb).trans h0; replace h1 := (bc.cell (p := ⟨b, off + j * 3 + 1, none⟩) hb).trans h1; replace h2 := (bc.cell (p := ⟨b, off + j * 3 + 2, none⟩) hb).trans h2
    replace hb := Nat.lt_of_lt_of_le hb bc.size
    go_enter Try.func17, Try.ntmps17
    go_wp2_with (first
      | (go_at_call 52; refine HC.out.mono ?_; rintro e w1 ⟨rfl, hC⟩; dsimp only; replace kb := kb.on hC; replace bc := bc.trans (hC.mono bc.size); replace h0 := (hC.cell (p := ⟨b, off + j * 3, none⟩) hb).trans h0; replace h1 := (hC.cell (p := ⟨b, off + j * 3 + 1, none⟩) hb).trans h1; replace h2 := (hC.cell (p := ⟨b, off + j * 3 + 2, none⟩) hb).trans h2; clear hC; obtain ⟨p0, p1, p2, p3, p4, p5, p6, p7⟩ := kb.eight)
      | (go_at_call 53; refine (HKO.out _ bc).mono ?_; rintro e w1 ⟨rfl, hC⟩; dsimp only; replace bc := bc.trans (hC.mono bc.size); clear hC))
    go_ret2
    exact ⟨rfl, bc⟩
  · rw [if_neg h]
    have hne := neq_of h
    clear h
    generalize placeM m mo n = er at *
    have HCK := Lib.hid hck; clear hck hM
    obtain ⟨N, S, G, W, D, L, cold, ms⟩ := m
    obtain ⟨Ac, nc, cc⟩ := c
    obtain ⟨As, ns, cs⟩ := s
    dsimp only [vM] at *
    obtain ⟨kb, bc⟩ := bx1 w #[.int .i64 N, .int .i64 S, .int .i64 G, .int .i64 W, .int .i64 D, .int .i64 L, .slice Ac nc cc, .slice As ns cs] 25
    have hc := HCK.out _ bc
    have HC := Lib.hid hc; clear hc
    go_enter Try.func17, Try.ntmps17
    go_wp2_with (first | (go_at_call 52; refine HC.out.mono ?_; rintro e w1 ⟨rfl, hC⟩; dsimp only; replace kb := kb.on hC; replace bc := bc.trans (hC.mono bc.size); clear hC; obtain ⟨p0, p1, p2, p3, p4, p5, p6, p7⟩ := kb.eight))
    go_ret2
    exact ⟨rfl, bc⟩
set_option maxRecDepth 8000 in
set_option maxHeartbeats 2000000 in
theorem mair_any (m : ML) (c s : Slc) (mo n : Int) (w : World) (hM : Med w m c s) : Calls Try.prog 19 #[vM m c s, .int .i64 mo, .int .i64 n] w (Pr w (airM m mo n)) := by
  have hck := fun W (h : Below w.heap.size w W) => checkPlace_any m c s mo n W (hM.on h)
  unfold airM
  by_cases h : placeM m mo n = 0
  · obtain ⟨hok, ⟨n0, n1⟩, m0, m1⟩ := placeM_ok h
    rw [if_pos h]
    rw [h] at hck
    have HCK := Lib.hid hck; clear hck h
    have hmd := fun o (ho : o ∈ m.ms) => okM_mode hok ho
    obtain ⟨j, rfl⟩ := Int.eq_ofNat_of_zero_le m0
    obtain ⟨k, rfl⟩ := Int.eq_ofNat_of_zero_le n0
    have hjm : j < m.ms.length := by omega
    obtain ⟨o, ho⟩ : ∃ o, m.ms[j]? = some o := ⟨m.ms[j], List.getElem?_eq_getElem hjm⟩
    have hma : modeAt m (j : Int) = o := by unfold modeAt; rw [Int.toNat_natCast, ho]; rfl
    rw [hma, Int.toNat_natCast]
    obtain ⟨b, off, e1, hb, v, h0, h1, h2, hv⟩ := hM.sb.at_ ho
    obtain ⟨q1, q2, -, q4, -⟩ := hmd o (List.mem_of_getElem? ho)
    have hkd : k < o.d.length := by omega
    have hkx : k < o.x.length := by omega
    have hd0 := (data_at q4 k hkd).1
    have hko := fun W (h : Below w.heap.size w W) => airOf_any o v k W (hv.on h) hkd hkx hd0
    have hsn := hM.sn
    have hjs : j < s.n := by omega
    have hsm : s.n ≤ maxLen := hM.sm
    unfold maxLen at hsm
    have HKO := Lib.hid hko; clear hko hv hM hmd hma ho hjm hok q1 q2 q4 hkd hkx hd0 n1 m1 n0 m0 hsn
    generalize o.d[k]?.getD 0 = d at *
    generalize o.x[k]?.getD false = x at *
    generalize airAt x d = ans at *
    obtain ⟨N, S, G, W, D, L, cold, ms⟩ := m
    obtain ⟨Ac, nc, cc⟩ := c
    obtain ⟨As, ns, cs⟩ := s
    dsimp only [vM] at *
    subst e1
    obtain ⟨⟨Ad, nd, cd⟩, ⟨Ax, nx, cx⟩, ⟨An, nn, cn⟩⟩ := v
    dsimp only [vO] at *
    obtain ⟨kb, bc⟩ := bx1 w #[.int .i64 N, .int .i64 S, .int .i64 G, .int .i64 W, .int .i64 D, .int .i64 L, .slice Ac nc cc, .slice (some ⟨b, off, none⟩) ns cs] 25
    have hc := HCK.out _ bc
    have HC := Lib.hid hc; clear hc
    replace h0 := (bc.cell (p := ⟨b, off + j * 3, none⟩) hb).trans h0; replace h1 := (bc.cell (p := ⟨b, off + j * 3 + 1, none⟩) hb).trans h1; replace h2 := (bc.cell (p := ⟨b, off + j * 3 + 2, none⟩) hb).trans h2
    replace hb := Nat.lt_of_lt_of_le hb bc.size
    go_enter Try.func19, Try.ntmps19
    go_wp2_with (first
      | (go_at_call 52; refine HC.out.mono ?_; rintro e w1 ⟨rfl, hC⟩; dsimp only; replace kb := kb.on hC; replace bc := bc.trans (hC.mono bc.size); replace h0 := (hC.cell (p := ⟨b, off + j * 3, none⟩) hb).trans h0; replace h1 := (hC.cell (p := ⟨b, off + j * 3 + 1, none⟩) hb).trans h1; replace h2 := (hC.cell (p := ⟨b, off + j * 3 + 2, none⟩) hb).trans h2; clear hC; obtain ⟨p0, p1, p2, p3, p4, p5, p6, p7⟩ := kb.eight)
      | (go_at_call 43; refine (HKO.out _ bc).mono ?_; rintro e w1 ⟨rfl, hC⟩; dsimp only; replace bc := bc.trans (hC.mono bc.size); clear hC))
    go_ret2
    exact ⟨rfl, bc⟩
  · rw [if_neg h]
    have hne := neq_of h
    clear h
    generalize placeM m mo n = er at *
    have HCK := Lib.hid hck; clear hck hM
    obtain ⟨N, S, G, W, D, L, cold, ms⟩ := m
    obtain ⟨Ac, nc, cc⟩ := c
    obtain ⟨As, ns, cs⟩ := s
    dsimp only [vM] at *
    obtain ⟨kb, bc⟩ := bx1 w #[.int .i64 N, .int .i64 S, .int .i64 G, .int .i64 W, .int .i64 D, .int .i64 L, .slice Ac nc cc, .slice As ns cs] 25
    have hc := HCK.out _ bc
    have HC := Lib.hid hc; clear hc
    go_enter Try.func19, Try.ntmps19
    go_wp2_with (first | (go_at_call 52; refine HC.out.mono ?_; rintro e w1 ⟨rfl, hC⟩; dsimp only; replace kb := kb.on hC; replace bc := bc.trans (hC.mono bc.size); clear hC; obtain ⟨p0, p1, p2, p3, p4, p5, p6, p7⟩ := kb.eight))
    go_ret2
    exact ⟨rfl, bc⟩
end Go.Proofs.Ytnmaelefcohogaa
