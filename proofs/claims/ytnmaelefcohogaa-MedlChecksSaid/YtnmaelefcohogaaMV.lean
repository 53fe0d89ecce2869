/-
  Same of package medl: field by field. Condition: lists that can be read. (Printed by tools/gen07v.py.)
-/
import Derived.Test.YtnmaelefcohogaaMU
namespace Go.Proofs.Ytnmaelefcohogaa
open Go.RowKit

/-- Are two modes the same? -/
def sameO (o p : Md) : Bool := decide (o.d = p.d) && (decide (o.x = p.x) && decide (o.n = p.n))
/-- Are all of some modes? -/
def sameOs (l m : List Md) : Bool := decide (l.length = m.length) && (List.range l.length).all fun i => sameO (l[i]?.getD ⟨[], [], []⟩) (m[i]?.getD ⟨[], [], []⟩)
/-- Same, by the document. -/
def sameM (a b : ML) : Bool :=
  decide (a.N = b.N) && (decide (a.S = b.S) && (decide (a.G = b.G) && (decide (a.W = b.W) && (decide (a.D = b.D) && (decide (a.L = b.L) && (decide (a.cold = b.cold) && sameOs a.ms b.ms))))))
theorem sameO_self (o : Md) : sameO o o = true := by unfold sameO; simp
theorem sameOs_self (l : List Md) : sameOs l l = true := by
  unfold sameOs
  simp only [decide_true, Bool.true_and, List.all_eq_true]
  intro i _
  exact sameO_self _
theorem sameM_self (a : ML) : sameM a a = true := by unfold sameM; rw [sameOs_self]; simp
theorem os_snoc {l m : List Md} {k : Nat} {o p : Md} (h : ((List.range k).all fun i => sameO (l[i]?.getD ⟨[], [], []⟩) (m[i]?.getD ⟨[], [], []⟩)) = true) (ho : l[k]? = some o) (hp : m[k]? = some p) :
    ((List.range (k + 1)).all fun i => sameO (l[i]?.getD ⟨[], [], []⟩) (m[i]?.getD ⟨[], [], []⟩)) = sameO o p := by
  rw [List.range_succ, List.all_append, h]; simp [ho, hp]
theorem os_not {l m : List Md} {k : Nat} {o p : Md} (ho : l[k]? = some o) (hp : m[k]? = some p) (h : sameO o p = false) : sameOs l m = false := by
  unfold sameOs
  have hk : k < l.length := by
    rcases Nat.lt_or_ge k l.length with h | h
    · exact h
    · rw [List.getElem?_eq_none h] at ho; cases ho
  have : ((List.range l.length).all fun i => sameO (l[i]?.getD ⟨[], [], []⟩) (m[i]?.getD ⟨[], [], []⟩)) = false := by
    rw [List.all_eq_false]
    exact ⟨k, by simpa using hk, by rw [ho, hp]; simp only [Option.getD_some]; rw [h]; decide⟩
  rw [this, Bool.and_false]
theorem os_yes {l m : List Md} (hl : l.length = m.length) (h : ((List.range l.length).all fun i => sameO (l[i]?.getD ⟨[], [], []⟩) (m[i]?.getD ⟨[], [], []⟩)) = true) : sameOs l m = true := by
  unfold sameOs; rw [h]; simp [hl]
theorem os_len {l m : List Md} (hl : ¬ l.length = m.length) : sameOs l m = false := by unfold sameOs; simp [hl]
set_option maxRecDepth 8000 in
set_option maxHeartbeats 2000000 in
theorem sameMode_any (o p : Md) (v u : MdV) (w : World) (hv : MdOk w.heap.size w o v) (hu : MdOk w.heap.size w p u) : Calls Try.prog 49 #[vO v, vO u] w fun e w' => e = .returned (.bool (sameO o p)) ∧ Below w.heap.size w w' := by
  have h0 := fun W (h : Below w.heap.size w W) => isameI_any v.d.A u.d.A v.d.n u.d.n v.d.c u.d.c o.d p.d W hv.dn hu.dn hv.dm hu.dm ((hv.d.below h).mono h.size) ((hu.d.below h).mono h.size)
  have h1 := fun W (h : Below w.heap.size w W) => isameB_any v.x.A u.x.A v.x.n u.x.n v.x.c u.x.c o.x p.x W hv.xn hu.xn hv.xm hu.xm ((hv.x.below h).mono h.size) ((hu.x.below h).mono h.size)
  have h2 := fun W (h : Below w.heap.size w W) => isameB_any v.n.A u.n.A v.n.n u.n.n v.n.c u.n.c o.n p.n W hv.nn hu.nn hv.nm hu.nm ((hv.n.below h).mono h.size) ((hu.n.below h).mono h.size)
  unfold sameO
  generalize decide (o.d = p.d) = z0 at *
  generalize decide (o.x = p.x) = z1 at *
  generalize decide (o.n = p.n) = z2 at *
  clear hv hu
  obtain ⟨⟨Ad, nd, cd⟩, ⟨Ax, nx, cx⟩, ⟨An, nn, cn⟩⟩ := v
  obtain ⟨⟨Bd, md, dd⟩, ⟨Bx, mx, dx⟩, ⟨Bn, mn, dn⟩⟩ := u
  dsimp only [vO] at *
  have H0 := Lib.hid h0; have H1 := Lib.hid h1; have H2 := Lib.hid h2; clear h0 h1 h2
  obtain ⟨k1, k2, bc⟩ := bx2 w #[.slice Ad nd cd, .slice Ax nx cx, .slice An nn cn] #[.slice Bd md dd, .slice Bx mx dx, .slice Bn mn dn] 50 50
  cases z0 <;> cases z1
  all_goals
    go_enter Try.func49, Try.ntmps49
    go_wp2_with (first
      | (go_at_call 65; with_reducible refine (H0.out _ bc).mono ?_; rintro e w1 ⟨rfl, hC⟩; replace k1 := k1.on hC; replace k2 := k2.on hC; replace bc := bc.trans (hC.mono bc.size); clear hC; (try clear p0 p1 p2 q0 q1 q2); obtain ⟨p0, p1, p2, -⟩ := k1.three; obtain ⟨q0, q1, q2, -⟩ := k2.three)
      | (go_at_call 47; with_reducible refine (H1.out _ bc).mono ?_; rintro e w1 ⟨rfl, hC⟩; replace k1 := k1.on hC; replace k2 := k2.on hC; replace bc := bc.trans (hC.mono bc.size); clear hC; (try clear p0 p1 p2 q0 q1 q2); obtain ⟨p0, p1, p2, -⟩ := k1.three; obtain ⟨q0, q1, q2, -⟩ := k2.three)
      | (go_at_call 47; with_reducible refine (H2.out _ bc).mono ?_; rintro e w1 ⟨rfl, hC⟩; replace k1 := k1.on hC; replace k2 := k2.on hC; replace bc := bc.trans (hC.mono bc.size); clear hC; (try clear p0 p1 p2 q0 q1 q2); obtain ⟨p0, p1, p2, -⟩ := k1.three; obtain ⟨q0, q1, q2, -⟩ := k2.three))
    go_ret
    exact ⟨rfl, bc⟩
set_option maxRecDepth 8000 in
set_option maxHeartbeats 2000000 in
theorem equalM_any (A B : Option Addr) (n m c d : Nat) (l r : List Md) (w : World) (hn : n = l.length) (hm : m = r.length) (hx : n ≤ maxLen) (hy : m ≤ maxLen) (hA : Mds w.heap.size w A l) (hB : Mds w.heap.size w B r) :
    Calls Try.prog 48 #[.slice A n c, .slice B m d, .func (.func 49) #[] #[]] w fun e w' => e = .returned (.bool (sameOs l r)) ∧ Below w.heap.size w w' := by
  unfold maxLen at hx hy
  by_cases hl : n = m
  rotate_left
  · have hne := os_len (l := l) (m := r) (by omega)
    have d0 : decide ((n : Int) = (m : Int)) = false := by simp; omega
    have d1 : ((n : Int) != (m : Int)) = true := by simp; omega
    have d2 : ((n : Int) == (m : Int)) = false := by simp; omega
    rw [hne]
    clear hn hm hA hB hl hne
    go_enter Try.func48, Try.ntmps48
    go_wp2
    go_ret
    exact ⟨rfl, Below.refl _ _⟩
  subst hl
  obtain ⟨R, hR⟩ : ∃ R, R = sameOs l r := ⟨_, rfl⟩
  rw [← hR]
  have HN := Lib.hid hn; have HM := Lib.hid hm; have HA := Lib.hid hA; have HB := Lib.hid hB; have HR := Lib.hid hR; clear hn hm hA hB hR hy
  go_enter Try.func48, Try.ntmps48
  go_wp2
  go_loopw [17] (fun i wr => ∃ k : Nat, k ≤ n ∧ i = .int .i64 k ∧ ((List.range k).all fun i => sameO (l[i]?.getD ⟨[], [], []⟩) (r[i]?.getD ⟨[], [], []⟩)) = true ∧ Below w.heap.size w wr) (fun i _ => n - (intOf i).toNat)
  case atStart => exact ⟨0, by omega, rfl, rfl, Below.refl _ _⟩
  case round =>
    obtain ⟨k, hk, rfl, hs, hBr⟩ := hrel
    have HS := Lib.hid hs; clear hs
    by_cases hlt : k < n
    · have hkl : k < l.length := by have := HN.out; omega
      have hkm : k < r.length := by have := HM.out; omega
      obtain ⟨o, ho⟩ : ∃ o, l[k]? = some o := ⟨l[k], List.getElem?_eq_getElem hkl⟩
      obtain ⟨p, hp⟩ : ∃ p, r[k]? = some p := ⟨r[k], List.getElem?_eq_getElem hkm⟩
      obtain ⟨b, off, rfl, hbl, v, hc0, hc1, hc2, hv⟩ := (HA.out.below hBr).at_ ho
      obtain ⟨b', off', rfl, hbl', u, he0, he1, he2, hu⟩ := (HB.out.below hBr).at_ hp
      have hbs : b < wr.heap.size := Nat.lt_of_lt_of_le hbl hBr.size
      have hbs' : b' < wr.heap.size := Nat.lt_of_lt_of_le hbl' hBr.size
      have hs2 := os_snoc HS.out ho hp
      have hn2 := os_not ho hp
      have hsm := fun W (h : Below wr.heap.size wr W) => sameMode_any o p v u W ((hv.mono hBr.size).on h) ((hu.mono hBr.size).on h)
      obtain ⟨z, hz⟩ : ∃ z, z = sameO o p := ⟨_, rfl⟩
      rw [← hz] at hs2 hn2 hsm
      have HS2 := Lib.hid hs2; have HN2 := Lib.hid hn2; have HSM := Lib.hid hsm; clear hs2 hn2 hsm hv hu hz hkl hkm ho hp
      obtain ⟨⟨Ad, nd, cd⟩, ⟨Ax, nx, cx⟩, ⟨An, nn, cn⟩⟩ := v
      obtain ⟨⟨Bd, md, dd⟩, ⟨Bx, mx, dx⟩, ⟨Bn, mn, dn⟩⟩ := u
      dsimp only [vO] at *
      replace HSM := Lib.hid HSM.out
      obtain ⟨k1, k2, bc⟩ := bx2 wr #[.slice Ad nd cd, .slice Ax nx cx, .slice An nn cn] #[.slice Bd md dd, .slice Bx mx dx, .slice Bn mn dn] 50 50
      cases z with
      | true =>
        go_wp2_with (go_at_call 49; with_reducible refine (HSM.out _ bc).mono ?_; rintro e w1 ⟨rfl, hC⟩; replace bc := bc.trans (hC.mono bc.size); clear hC)
        go_roundw
        case rel => exact ⟨k + 1, by omega, by go_num, HS2.out, hBr.trans (bc.mono hBr.size)⟩
        case measure => simp [intOf]; omega
      | false =>
        obtain rfl : R = false := HR.out.trans (HN2.out rfl)
        go_wp2_with (go_at_call 49; with_reducible refine (HSM.out _ bc).mono ?_; rintro e w1 ⟨rfl, hC⟩; replace bc := bc.trans (hC.mono bc.size); clear hC)
        go_ret
        exact ⟨rfl, hBr.trans (bc.mono hBr.size)⟩
    · obtain rfl : R = true := by
        rw [HR.out]; have h1 := HN.out; have h2 := HM.out; have h3 := HS.out; rw [show k = l.length by omega] at h3; exact os_yes (by omega) h3
      go_wp2
      go_ret
      exact ⟨rfl, hBr⟩
set_option maxRecDepth 100000 in
set_option maxHeartbeats 8000000 in
theorem sameM_any (a b : ML) (c s c2 s2 : Slc) (w : World) (ha : Med w a c s) (hb : Med w b c2 s2) : Calls Try.prog 15 #[vM a c s, vM b c2 s2] w fun e w' => e = .returned (.bool (sameM a b)) ∧ Below w.heap.size w w' := by
  have h0 := fun W (h : Below w.heap.size w W) => isameB_any c.A c2.A c.n c2.n c.c c2.c a.cold b.cold W ha.cn hb.cn ha.cm hb.cm ((ha.cb.below h).mono h.size) ((hb.cb.below h).mono h.size)
  have h1 := fun W (h : Below w.heap.size w W) => equalM_any s.A s2.A s.n s2.n s.c s2.c a.ms b.ms W ha.sn hb.sn ha.sm hb.sm ((ha.sb.below h).mono h.size) ((hb.sb.below h).mono h.size)
  obtain ⟨R, hR⟩ : ∃ R, R = sameM a b := ⟨_, rfl⟩
  rw [← hR]
  unfold sameM at hR
  obtain ⟨zc, hzc⟩ : ∃ z, z = decide (a.cold = b.cold) := ⟨_, rfl⟩
  rw [← hzc] at h0 hR
  obtain ⟨zs, hzs⟩ : ∃ z, z = sameOs a.ms b.ms := ⟨_, rfl⟩
  rw [← hzs] at h1 hR
  clear ha hb hzc hzs
  obtain ⟨N, S, G, W, D, L, cold, ms⟩ := a
  obtain ⟨N2, S2, G2, W2, D2, L2, cold2, mt⟩ := b
  obtain ⟨Ac, nc, cc⟩ := c
  obtain ⟨As, ns, cs⟩ := s
  obtain ⟨Bc, mc, dc⟩ := c2
  obtain ⟨Bs, ms2, ds⟩ := s2
  dsimp only [vM] at *
  have H0 := Lib.hid h0; have H1 := Lib.hid h1; clear h0 h1
  obtain ⟨k1, k2, bc⟩ := bx2 w #[.int .i64 N, .int .i64 S, .int .i64 G, .int .i64 W, .int .i64 D, .int .i64 L, .slice Ac nc cc, .slice As ns cs] #[.int .i64 N2, .int .i64 S2, .int .i64 G2, .int .i64 W2, .int .i64 D2, .int .i64 L2, .slice Bc mc dc, .slice Bs ms2 ds] 25 25
  by_cases e_N : N = N2
  rotate_left
  · obtain rfl : R = false := by rw [hR, show decide (N = N2) = false by simpa using e_N]; simp
    have d_N : (N == N2) = false := by simpa using e_N
    clear hR e_N
    go_enter Try.func15, Try.ntmps15
    go_wp2_with (first
      | (go_at_call 47; with_reducible refine (H0.out _ bc).mono ?_; rintro e w1 ⟨rfl, hC⟩; replace k1 := k1.on hC; replace k2 := k2.on hC; replace bc := bc.trans (hC.mono bc.size); clear hC; (try clear p0 p1 p2 p3 p4 p5 p6 p7 q0 q1 q2 q3 q4 q5 q6 q7); obtain ⟨p0, p1, p2, p3, p4, p5, p6, p7⟩ := k1.eight; obtain ⟨q0, q1, q2, q3, q4, q5, q6, q7⟩ := k2.eight)
      | (go_at_call 48; with_reducible refine (H1.out _ bc).mono ?_; rintro e w1 ⟨rfl, hC⟩; replace k1 := k1.on hC; replace k2 := k2.on hC; replace bc := bc.trans (hC.mono bc.size); clear hC; (try clear p0 p1 p2 p3 p4 p5 p6 p7 q0 q1 q2 q3 q4 q5 q6 q7); obtain ⟨p0, p1, p2, p3, p4, p5, p6, p7⟩ := k1.eight; obtain ⟨q0, q1, q2, q3, q4, q5, q6, q7⟩ := k2.eight))
    go_ret
    exact ⟨rfl, bc⟩
  have d_N : (N == N2) = true := by simpa using e_N
  rw [show decide (N = N2) = true by simpa using e_N, Bool.true_and] at hR
  clear e_N
  by_cases e_S : S = S2
  rotate_left
  · obtain rfl : R = false := by rw [hR, show decide (S = S2) = false by simpa using e_S]; simp
    have d_S : (S == S2) = false := by simpa using e_S
    clear hR e_S
    go_enter Try.func15, Try.ntmps15
    go_wp2_with (first
      | (go_at_call 47; with_reducible refine (H0.out _ bc).mono ?_; rintro e w1 ⟨rfl, hC⟩; replace k1 := k1.on hC; replace k2 := k2.on hC; replace bc := bc.trans (hC.mono bc.size); clear hC; (try clear p0 p1 p2 p3 p4 p5 p6 p7 q0 q1 q2 q3 q4 q5 q6 q7); obtain ⟨p0, p1, p2, p3, p4, p5, p6, p7⟩ := k1.eight; obtain ⟨q0, q1, q2, q3, q4, q5, q6, q7⟩ := k2.eight)
      | (go_at_call 48; with_reducible refine (H1.out _ bc).mono ?_; rintro e w1 ⟨rfl, hC⟩; replace k1 := k1.on hC; replace k2 := k2.on hC; replace bc := bc.trans (hC.mono bc.size); clear hC; (try clear p0 p1 p2 p3 p4 p5 p6 p7 q0 q1 q2 q3 q4 q5 q6 q7); obtain ⟨p0, p1, p2, p3, p4, p5, p6, p7⟩ := k1.eight; obtain ⟨q0, q1, q2, q3, q4, q5, q6, q7⟩ := k2.eight))
    go_ret
    exact ⟨rfl, bc⟩
  have d_S : (S == S2) = true := by simpa using e_S
  rw [show decide (S = S2) = true by simpa using e_S, Bool.true_and] at hR
  clear e_S
  by_cases e_G : G = G2
  rotate_left
  · obtain rfl : R = false := by rw [hR, show decide (G = G2) = false by simpa using e_G]; simp
    have d_G : (G == G2) = false := by simpa using e_G
    clear hR e_G
    go_enter Try.func15, Try.ntmps15
    go_wp2_with (first
      | (go_at_call 47; with_reducible refine (H0.out _ bc).mono ?_; rintro e w1 ⟨rfl, hC⟩; replace k1 := k1.on hC; replace k2 := k2.on hC; replace bc := bc.trans (hC.mono bc.size); clear hC; (try clear p0 p1 p2 p3 p4 p5 p6 p7 q0 q1 q2 q3 q4 q5 q6 q7); obtain ⟨p0, p1, p2, p3, p4, p5, p6, p7⟩ := k1.eight; obtain ⟨q0, q1, q2, q3, q4, q5, q6, q7⟩ := k2.eight)
      | (go_at_call 48; with_reducible refine (H1.out _ bc).mono ?_; rintro e w1 ⟨rfl, hC⟩; replace k1 := k1.on hC; replace k2 := k2.on hC; replace bc := bc.trans (hC.mono bc.size); clear hC; (try clear p0 p1 p2 p3 p4 p5 p6 p7 q0 q1 q2 q3 q4 q5 q6 q7); obtain ⟨p0, p1, p2, p3, p4, p5, p6, p7⟩ := k1.eight; obtain ⟨q0, q1, q2, q3, q4, q5, q6, q7⟩ := k2.eight))
    go_ret
    exact ⟨rfl, bc⟩
  have d_G : (G == G2) = true := by simpa using e_G
  rw [show decide (G = G2) = true by simpa using e_G, Bool.true_and] at hR
  clear e_G
  by_cases e_W : W = W2
  rotate_left
  · obtain rfl : R = false := by rw [hR, show decide (W = W2) = false by simpa using e_W]; simp
    have d_W : (W == W2) = false := by simpa using e_W
    clear hR e_W
    go_enter Try.func15, Try.ntmps15
    go_wp2_with (first
      | (go_at_call 47; with_reducible refine (H0.out _ bc).mono ?_; rintro e w1 ⟨rfl, hC⟩; replace k1 := k1.on hC; replace k2 := k2.on hC; replace bc := bc.trans (hC.mono bc.size); clear hC; (try clear p0 p1 p2 p3 p4 p5 p6 p7 q0 q1 q2 q3 q4 q5 q6 q7); obtain ⟨p0, p1, p2, p3, p4, p5, p6, p7⟩ := k1.eight; obtain ⟨q0, q1, q2, q3, q4, q5, q6, q7⟩ := k2.eight)
      | (go_at_call 48; with_reducible refine (H1.out _ bc).mono ?_; rintro e w1 ⟨rfl, hC⟩; replace k1 := k1.on hC; replace k2 := k2.on hC; replace bc := bc.trans (hC.mono bc.size); clear hC; (try clear p0 p1 p2 p3 p4 p5 p6 p7 q0 q1 q2 q3 q4 q5 q6 q7); obtain ⟨p0, p1, p2, p3, p4, p5, p6, p7⟩ := k1.eight; obtain ⟨q0, q1, q2, q3, q4, q5, q6, q7⟩ := k2.eight))
    go_ret
    exact ⟨rfl, bc⟩
  have d_W : (W == W2) = true := by simpa using e_W
  rw [show decide (W = W2) = true by simpa using e_W, Bool.true_and] at hR
  clear e_W
  by_cases e_D : D = D2
  rotate_left
  · obtain rfl : R = false := by rw [hR, show decide (D = D2) = false by simpa using e_D]; simp
    have d_D : (D == D2) = false := by simpa using e_D
    clear hR e_D
    go_enter Try.func15, Try.ntmps15
    go_wp2_with (first
      | (go_at_call 47; with_reducible refine (H0.out _ bc).mono ?_; rintro e w1 ⟨rfl, hC⟩; replace k1 := k1.on hC; replace k2 := k2.on hC; replace bc := bc.trans (hC.mono bc.size); clear hC; (try clear p0 p1 p2 p3 p4 p5 p6 p7 q0 q1 q2 q3 q4 q5 q6 q7); obtain ⟨p0, p1, p2, p3, p4, p5, p6, p7⟩ := k1.eight; obtain ⟨q0, q1, q2, q3, q4, q5, q6, q7⟩ := k2.eight)
      | (go_at_call 48; with_reducible refine (H1.out _ bc).mono ?_; rintro e w1 ⟨rfl, hC⟩; replace k1 := k1.on hC; replace k2 := k2.on hC; replace bc := bc.trans (hC.mono bc.size); clear hC; (try clear p0 p1 p2 p3 p4 p5 p6 p7 q0 q1 q2 q3 q4 q5 q6 q7); obtain ⟨p0, p1, p2, p3, p4, p5, p6, p7⟩ := k1.eight; obtain ⟨q0, q1, q2, q3, q4, q5, q6, q7⟩ := k2.eight))
    go_ret
    exact ⟨rfl, bc⟩
  have d_D : (D == D2) = true := by simpa using e_D
  rw [show decide (D = D2) = true by simpa using e_D, Bool.true_and] at hR
  clear e_D
  by_cases e_L : L = L2
  rotate_left
  · obtain rfl : R = false := by rw [hR, show decide (L = L2) = false by simpa using e_L]; simp
    have d_L : (L == L2) = false := by simpa using e_L
    clear hR e_L
    go_enter Try.func15, Try.ntmps15
    go_wp2_with (first
      | (go_at_call 47; with_reducible refine (H0.out _ bc).mono ?_; rintro e w1 ⟨rfl, hC⟩; replace k1 := k1.on hC; replace k2 := k2.on hC; replace bc := bc.trans (hC.mono bc.size); clear hC; (try clear p0 p1 p2 p3 p4 p5 p6 p7 q0 q1 q2 q3 q4 q5 q6 q7); obtain ⟨p0, p1, p2, p3, p4, p5, p6, p7⟩ := k1.eight; obtain ⟨q0, q1, q2, q3, q4, q5, q6, q7⟩ := k2.eight)
      | (go_at_call 48; with_reducible refine (H1.out _ bc).mono ?_; rintro e w1 ⟨rfl, hC⟩; replace k1 := k1.on hC; replace k2 := k2.on hC; replace bc := bc.trans (hC.mono bc.size); clear hC; (try clear p0 p1 p2 p3 p4 p5 p6 p7 q0 q1 q2 q3 q4 q5 q6 q7); obtain ⟨p0, p1, p2, p3, p4, p5, p6, p7⟩ := k1.eight; obtain ⟨q0, q1, q2, q3, q4, q5, q6, q7⟩ := k2.eight))
    go_ret
    exact ⟨rfl, bc⟩
  have d_L : (L == L2) = true := by simpa using e_L
  rw [show decide (L = L2) = true by simpa using e_L, Bool.true_and] at hR
  clear e_L
  cases zc with
  | false =>
    obtain rfl : R = false := by rw [hR]; rfl
    clear hR
    go_enter Try.func15, Try.ntmps15
    go_wp2_with (first
      | (go_at_call 47; with_reducible refine (H0.out _ bc).mono ?_; rintro e w1 ⟨rfl, hC⟩; replace k1 := k1.on hC; replace k2 := k2.on hC; replace bc := bc.trans (hC.mono bc.size); clear hC; (try clear p0 p1 p2 p3 p4 p5 p6 p7 q0 q1 q2 q3 q4 q5 q6 q7); obtain ⟨p0, p1, p2, p3, p4, p5, p6, p7⟩ := k1.eight; obtain ⟨q0, q1, q2, q3, q4, q5, q6, q7⟩ := k2.eight)
      | (go_at_call 48; with_reducible refine (H1.out _ bc).mono ?_; rintro e w1 ⟨rfl, hC⟩; replace k1 := k1.on hC; replace k2 := k2.on hC; replace bc := bc.trans (hC.mono bc.size); clear hC; (try clear p0 p1 p2 p3 p4 p5 p6 p7 q0 q1 q2 q3 q4 q5 q6 q7); obtain ⟨p0, p1, p2, p3, p4, p5, p6, p7⟩ := k1.eight; obtain ⟨q0, q1, q2, q3, q4, q5, q6, q7⟩ := k2.eight))
    go_ret
    exact ⟨rfl, bc⟩
  | true =>
    obtain rfl : R = zs := by rw [hR]; rfl
    clear hR
    go_enter Try.func15, Try.ntmps15
    go_wp2_with (first
      | (go_at_call 47; with_reducible refine (H0.out _ bc).mono ?_; rintro e w1 ⟨rfl, hC⟩; replace k1 := k1.on hC; replace k2 := k2.on hC; replace bc := bc.trans (hC.mono bc.size); clear hC; (try clear p0 p1 p2 p3 p4 p5 p6 p7 q0 q1 q2 q3 q4 q5 q6 q7); obtain ⟨p0, p1, p2, p3, p4, p5, p6, p7⟩ := k1.eight; obtain ⟨q0, q1, q2, q3, q4, q5, q6, q7⟩ := k2.eight)
      | (go_at_call 48; with_reducible refine (H1.out _ bc).mono ?_; rintro e w1 ⟨rfl, hC⟩; replace k1 := k1.on hC; replace k2 := k2.on hC; replace bc := bc.trans (hC.mono bc.size); clear hC; (try clear p0 p1 p2 p3 p4 p5 p6 p7 q0 q1 q2 q3 q4 q5 q6 q7); obtain ⟨p0, p1, p2, p3, p4, p5, p6, p7⟩ := k1.eight; obtain ⟨q0, q1, q2, q3, q4, q5, q6, q7⟩ := k2.eight))
    go_ret
    exact ⟨rfl, bc⟩
end Go.Proofs.Ytnmaelefcohogaa
