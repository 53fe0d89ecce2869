/-
  Same of package cni. Conditions: two interfaces that can be read. (Printed by tools/gen12ji.py.)
-/
import Derived.Test.YtnlmpemfpkmodaaJH
namespace Go.Proofs.Ytnlmpemfpkmodaa
open Go.RowKit

/-- Two messages that are the same. -/
def sameMs (x y : Ms) : Bool := decide (x.g = y.g ∧ x.d = y.d)
def sameLs (l r : List Ms) : Bool := decide (l.length = r.length) && (List.range l.length).all fun i => sameMs (l[i]?.getD default) (r[i]?.getD default)
theorem ls_len {l m : List Ms} (h : l.length ≠ m.length) : sameLs l m = false := by simp [sameLs, h]
theorem ls_snoc {l m : List Ms} {k : Nat} (h : ((List.range k).all fun i => sameMs (l[i]?.getD default) (m[i]?.getD default)) = true) (hs : sameMs (l[k]?.getD default) (m[k]?.getD default) = true) : ((List.range (k + 1)).all fun i => sameMs (l[i]?.getD default) (m[i]?.getD default)) = true := by
  rw [List.range_succ, List.all_append, h]; simp [hs]
theorem ls_not {l m : List Ms} {k : Nat} (hk : k < l.length) (hs : sameMs (l[k]?.getD default) (m[k]?.getD default) = false) : sameLs l m = false := by
  unfold sameLs
  rw [Bool.and_eq_false_iff]
  right
  rw [List.all_eq_false]
  exact ⟨k, List.mem_range.2 hk, by simp [hs]⟩
theorem ls_yes {l m : List Ms} (hl : l.length = m.length) (h : ((List.range l.length).all fun i => sameMs (l[i]?.getD default) (m[i]?.getD default)) = true) : sameLs l m = true := by simp only [sameLs, hl, decide_true, Bool.true_and]; rw [← hl]; exact h
theorem sameCn_ls (a b : Cn) : sameCn a b = (decide (a.id = b.id) && decide (a.life = b.life) && decide (a.want = b.want) && decide (a.out = b.out) && sameLs a.ms b.ms) := by
  rw [Bool.eq_iff_iff]
  unfold sameCn sameLs sameMs
  simp only [Bool.and_eq_true, decide_eq_true_eq, List.all_eq_true, List.mem_range]
  constructor
  · rintro ⟨⟨h1, h2, h3, h4, h5⟩, h6⟩
    exact ⟨⟨⟨⟨h1, h3⟩, h4⟩, h2⟩, h5, fun k hk => ⟨(h6 k hk).2, (h6 k hk).1⟩⟩
  · rintro ⟨⟨⟨⟨h1, h3⟩, h4⟩, h2⟩, h5, h6⟩
    exact ⟨⟨h1, h2, h3, h4, h5⟩, fun k hk => ⟨(h6 k hk).2, (h6 k hk).1⟩⟩
set_option maxRecDepth 4000 in
set_option maxHeartbeats 1000000 in
theorem sameMs_any (x y : Ms) (v v' : Sl3) (w : World) (hv : BOk w.heap.size w x.d v) (hv' : BOk w.heap.size w y.d v') : Calls Try.prog 41 #[.agg #[.slice v.A v.n v.c, .int .i64 x.g], .agg #[.slice v'.A v'.n v'.c, .int .i64 y.g]] w fun e w' => e = .returned (.bool (sameMs x y)) ∧ Below w.heap.size w w' := by
  obtain ⟨R, hR⟩ : ∃ R, R = sameMs x y := ⟨_, rfl⟩
  rw [← hR]
  unfold sameMs at hR
  obtain ⟨xd, xg⟩ := x
  obtain ⟨yd, yg⟩ := y
  obtain ⟨A, n, c⟩ := v
  obtain ⟨B, m, d⟩ := v'
  dsimp only at *
  obtain ⟨kb, kc, bc⟩ := bx2 w #[.slice A n c, .int .i64 xg] #[.slice B m d, .int .i64 yg] 51 51
  have he := bequal_any A B n m c d xd yd _ hv.bn hv'.bn (hv.on bc).by_ (hv'.on bc).by_
  obtain ⟨p0, p1, -, -⟩ := kb.two
  obtain ⟨q0, q1, -, -⟩ := kc.two
  clear hv hv'
  by_cases c1 : xg = yg
  · subst c1
    have HE := Lib.hid he; clear he
    obtain rfl : R = decide (xd = yd) := by rw [hR]; simp
    clear hR
    go_enter Try.func41, Try.ntmps41
    go_wp2_with (first | (go_at_call 24; refine HE.out.mono ?_; rintro e w5 ⟨rfl, rfl⟩; dsimp only))
    go_ret
    exact ⟨rfl, bc⟩
  · have d1 : (xg == yg) = false := by simpa using c1
    obtain rfl : R = false := by rw [hR]; simp [c1]
    clear hR he
    go_enter Try.func41, Try.ntmps41
    go_wp2
    go_ret
    exact ⟨rfl, bc⟩
set_option maxRecDepth 8000 in
set_option maxHeartbeats 2000000 in
theorem equalMs_any (A B : Option Addr) (n m c d : Nat) (l r : List Ms) (w : World) (hn : n = l.length) (hm : m = r.length) (hx : n ≤ 1048576) (hA : Msgs w.heap.size w A l) (hB : Msgs w.heap.size w B r) :
    Calls Try.prog 40 #[.slice A n c, .slice B m d, .func (.func 41) #[] #[]] w fun e w' => e = .returned (.bool (sameLs l r)) ∧ Below w.heap.size w w' := by
  by_cases hl : n = m
  rotate_left
  · have hne := ls_len (l := l) (m := r) (by omega)
    have d0 : decide ((n : Int) = (m : Int)) = false := by simp; omega
    have d1 : ((n : Int) != (m : Int)) = true := by simp; omega
    have d2 : ((n : Int) == (m : Int)) = false := by simp; omega
    rw [hne]
    clear hn hm hA hB hl hne
    go_enter Try.func40, Try.ntmps40
    go_wp2
    go_ret
    exact ⟨rfl, Below.refl _ _⟩
  subst hl
  obtain ⟨R, hR⟩ : ∃ R, R = sameLs l r := ⟨_, rfl⟩
  rw [← hR]
  have HN := Lib.hid hn; have HM := Lib.hid hm; have HA := Lib.hid hA; have HB := Lib.hid hB; have HR := Lib.hid hR; clear hn hm hA hB hR
  go_enter Try.func40, Try.ntmps40
  go_wp2
  go_loopw [17] (fun i wr => ∃ k : Nat, k ≤ n ∧ i = .int .i64 k ∧ ((List.range k).all fun i => sameMs (l[i]?.getD default) (r[i]?.getD default)) = true ∧ Below w.heap.size w wr) (fun i _ => n - (intOf i).toNat)
  case atStart => exact ⟨0, by omega, rfl, rfl, Below.refl _ _⟩
  case round =>
    obtain ⟨k, hk, rfl, hs, hBr⟩ := hrel
    have HS := Lib.hid hs; clear hs
    by_cases hlt : k < n
    · have hkl : k < l.length := by have := HN.out; omega
      have hkm : k < r.length := by have := HM.out; omega
      have hlt2 : (k : Int) < (n : Int) := by omega
      obtain ⟨b, off, rfl, hbl, v, ⟨hc0, hc1⟩, hv⟩ := (HA.out.below hBr).at_ hkl
      obtain ⟨b', off', rfl, hbl', u, ⟨he0, he1⟩, hu⟩ := (HB.out.below hBr).at_ hkm
      have hbs : b < wr.heap.size := Nat.lt_of_lt_of_le hbl hBr.size
      have hbs' : b' < wr.heap.size := Nat.lt_of_lt_of_le hbl' hBr.size
      have hs2 := ls_snoc (k := k) HS.out
      have hn2 := ls_not (l := l) (m := r) hkl
      have hsm := fun W (h : Below wr.heap.size wr W) => sameMs_any (l[k]?.getD default) (r[k]?.getD default) v u W ((hv.mono hBr.size).on h) ((hu.mono hBr.size).on h)
      obtain ⟨z, hz⟩ : ∃ z, z = sameMs (l[k]?.getD default) (r[k]?.getD default) := ⟨_, rfl⟩
      rw [← hz] at hs2 hn2
      rw [← hz] at hsm
      have HS2 := Lib.hid hs2; have HN2 := Lib.hid hn2; have HSM := Lib.hid hsm; clear hs2 hn2 hsm hv hu hz hkl hkm
      generalize (l[k]?.getD default).g = gl at *
      generalize (r[k]?.getD default).g = gr at *
      obtain ⟨vA, vn, vc⟩ := v
      obtain ⟨uA, un, uc⟩ := u
      dsimp only at *
      replace HSM := Lib.hid HSM.out
      obtain ⟨k1, k2, bc⟩ := bx2 wr #[.slice vA vn vc, .int .i64 gl] #[.slice uA un uc, .int .i64 gr] 51 51
      cases z with
      | true =>
        go_wp2_with (go_at_call 41; with_reducible refine (HSM.out _ bc).mono ?_; rintro e w1 ⟨rfl, hC⟩; replace bc := bc.trans (hC.mono bc.size); clear hC)
        go_roundw
        case rel => exact ⟨k + 1, by omega, by go_num, HS2.out (by trivial), hBr.trans (bc.mono hBr.size)⟩
        case measure => simp [intOf]; omega
      | false =>
        obtain rfl : R = false := HR.out.trans (HN2.out (by trivial))
        go_wp2_with (go_at_call 41; with_reducible refine (HSM.out _ bc).mono ?_; rintro e w1 ⟨rfl, hC⟩; replace bc := bc.trans (hC.mono bc.size); clear hC)
        go_ret
        exact ⟨rfl, hBr.trans (bc.mono hBr.size)⟩
    · obtain rfl : R = true := by
        rw [HR.out]; have h1 := HN.out; have h2 := HM.out; have h3 := HS.out; rw [show k = l.length by omega] at h3; exact ls_yes (by omega) h3
      go_wp2
      go_ret
      exact ⟨rfl, hBr⟩

set_option maxRecDepth 100000 in
set_option maxHeartbeats 4000000 in
theorem sameP_any : CniSameC := fun s r v u v' u' w h k hm => by
  obtain ⟨R, hR⟩ : ∃ R, R = sameCn s r := ⟨_, rfl⟩
  rw [← hR]
  rw [sameCn_ls] at hR
  have hO := h.out; have hO2 := k.out
  have hls := fun U (hb : Below w.heap.size w U) => equalMs_any u.A u'.A u.n u'.n u.c u'.c s.ms r.ms U h.mn k.mn hm (h.ms.on hb) (k.ms.on hb)
  clear h k
  obtain ⟨z, hz⟩ : ∃ z, z = sameLs s.ms r.ms := ⟨_, rfl⟩
  rw [← hz] at hls hR
  clear hz
  obtain ⟨id, out, ms, life, want⟩ := s
  obtain ⟨A, n, c⟩ := v
  obtain ⟨B, m, d⟩ := u
  obtain ⟨id2, out2, ms2, life2, want2⟩ := r
  obtain ⟨A2, n2, c2⟩ := v'
  obtain ⟨B2, m2, d2⟩ := u'
  dsimp only [cCn] at *
  have HLS := Lib.hid hls; clear hls
  obtain ⟨kb, kc, bc⟩ := bx2 w #[.int .i64 id, .slice A n c, .slice B m d, .int .i64 life, .int .i64 want] #[.int .i64 id2, .slice A2 n2 c2, .slice B2 m2 d2, .int .i64 life2, .int .i64 want2] 25 25
  have he := bequal_any A A2 n n2 c c2 out out2 _ hO.bn hO2.bn (hO.on bc).by_ (hO2.on bc).by_
  clear hO hO2
  obtain ⟨p0, p1, p2, p3, p4⟩ := kb.fiveI
  obtain ⟨q0, q1, q2, q3, q4⟩ := kc.fiveI
  have HE := Lib.hid he; clear he
  by_cases c1 : id = id2
  rotate_left
  · have d1 : (id == id2) = false := by simpa using c1
    obtain rfl : R = false := by rw [hR]; simp [c1]
    clear hR
    go_enter Try.func15, Try.ntmps15
    go_wp2_with (first | (go_at_call 24; refine HE.out.mono ?_; rintro e w5 ⟨rfl, rfl⟩; dsimp only) | (go_at_call 40; refine (HLS.out _ bc).mono ?_; rintro e w6 ⟨rfl, hC⟩; dsimp only; replace bc := bc.trans (hC.mono bc.size); clear hC))
    go_ret
    exact ⟨rfl, bc⟩
  subst c1
  by_cases c3 : life = life2
  rotate_left
  · have d3 : (life == life2) = false := by simpa using c3
    obtain rfl : R = false := by rw [hR]; simp [c3]
    clear hR
    go_enter Try.func15, Try.ntmps15
    go_wp2_with (first | (go_at_call 24; refine HE.out.mono ?_; rintro e w5 ⟨rfl, rfl⟩; dsimp only) | (go_at_call 40; refine (HLS.out _ bc).mono ?_; rintro e w6 ⟨rfl, hC⟩; dsimp only; replace bc := bc.trans (hC.mono bc.size); clear hC))
    go_ret
    exact ⟨rfl, bc⟩
  subst c3
  by_cases c4 : want = want2
  rotate_left
  · have d4 : (want == want2) = false := by simpa using c4
    obtain rfl : R = false := by rw [hR]; simp [c4]
    clear hR
    go_enter Try.func15, Try.ntmps15
    go_wp2_with (first | (go_at_call 24; refine HE.out.mono ?_; rintro e w5 ⟨rfl, rfl⟩; dsimp only) | (go_at_call 40; refine (HLS.out _ bc).mono ?_; rintro e w6 ⟨rfl, hC⟩; dsimp only; replace bc := bc.trans (hC.mono bc.size); clear hC))
    go_ret
    exact ⟨rfl, bc⟩
  subst c4
  by_cases c2 : out = out2
  rotate_left
  · rw [decide_eq_false c2] at HE
    obtain rfl : R = false := by rw [hR]; simp [c2]
    clear hR
    go_enter Try.func15, Try.ntmps15
    go_wp2_with (first | (go_at_call 24; refine HE.out.mono ?_; rintro e w5 ⟨rfl, rfl⟩; dsimp only) | (go_at_call 40; refine (HLS.out _ bc).mono ?_; rintro e w6 ⟨rfl, hC⟩; dsimp only; replace bc := bc.trans (hC.mono bc.size); clear hC))
    go_ret
    exact ⟨rfl, bc⟩
  have he := HE.out
  rw [decide_eq_true c2] at he
  replace HE := Lib.hid he; clear he
  obtain rfl : R = z := by rw [hR]; simp [c2]
  clear hR
  go_enter Try.func15, Try.ntmps15
  go_wp2_with (first | (go_at_call 24; refine HE.out.mono ?_; rintro e w5 ⟨rfl, rfl⟩; dsimp only) | (go_at_call 40; refine (HLS.out _ bc).mono ?_; rintro e w6 ⟨rfl, hC⟩; dsimp only; replace bc := bc.trans (hC.mono bc.size); clear hC))
  go_ret
  exact ⟨rfl, bc⟩
end Go.Proofs.Ytnlmpemfpkmodaa
