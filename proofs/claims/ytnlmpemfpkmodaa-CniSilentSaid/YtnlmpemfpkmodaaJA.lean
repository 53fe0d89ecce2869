/-
  Copies of bytes, the small functions and Check of package cni. Conditions: those that each theorem names. (Printed by tools/gen12ja.py.)
-/
import Derived.Test.YtnlmpemfpkmodaaIR
namespace Go.Proofs.Ytnlmpemfpkmodaa
open Go.RowKit

set_option maxRecDepth 4000 in
set_option maxHeartbeats 1000000 in
theorem copied12_any (v : Sl3) (bs : List UInt8) (w : World) (h : BOk w.heap.size w bs v) (hl : bs.length ≤ 8) : Calls Try.prog 43 #[.slice v.A v.n v.c] w fun e w' => ∃ A c, e = .returned (.slice A v.n c) ∧ w'.ownsRow w.heap.size 5 1 (.slice A v.n c) v.n (cellsU bs) ∧ Below w.heap.size w w' := by
  obtain ⟨A, n, c⟩ := v
  obtain ⟨hA, hn, -, -, -⟩ := h
  dsimp only at hA hn ⊢
  have hmk := run_make_bytes n (by omega)
  have k1 := Blk.new w 5 (encB (List.replicate n 0))
  have al := Below.al w (.cells (encB (List.replicate n 0)) 5)
  obtain ⟨w2, hrun, hb2, hg2⟩ := run_copy_bytes (P := Try.prog) _ 22 22 3 5 Try.underlying22 (by kernel_rfl) w.heap.size n n A n c (List.replicate n 0) bs k1 _ ((hA.below al).mono al.size) hn (by simp) (Nat.le_refl _)
  have hw2 : Below w.heap.size w w2 := al.grown hg2 (by simp) (by intro k hk; injection hk with hk; omega)
  rw [List.drop_replicate, ← hn, Nat.sub_self, List.replicate_zero, List.append_nil] at hb2
  have hlen : goInt bs.length = .int .i64 (n : Int) := by rw [← hn]; rfl
  rw [hlen] at hrun
  have ho := own_bytes_blk hb2 (Nat.le_refl _) (by omega)
  rw [← hn] at ho
  have HO := Lib.hid ho; have HW := Lib.hid hw2
  clear hb2 hw2 hn hg2 k1 al hA hlen ho hl
  go_enter Try.func43, Try.ntmps43
  go_wp2
  go_ret
  exact ⟨some ⟨w.heap.size, 0, none⟩, n, rfl, HO.out, HW.out⟩

theorem isSlot_any (a b : Int) (w : World) : Calls Try.prog 36 #[.int .i64 a, .int .i64 b] w fun e w' => e = .returned (.bool (decide (0 ≤ a) && decide (a < b))) ∧ w = w' := by
  by_cases h : 0 ≤ a
  · have d : decide ((0 : Int) ≤ a) = true := by simpa using h
    rw [d]
    generalize hq : decide (a < b) = q at *
    go_enter Try.func36, Try.ntmps36
    go_wp2
    go_ret
    first | exact ⟨rfl, rfl⟩ | simp
  · have d : decide ((0 : Int) ≤ a) = false := by simpa using h
    rw [d]
    go_enter Try.func36, Try.ntmps36
    go_wp2
    go_ret
    first | exact ⟨rfl, rfl⟩ | simp
theorem isWant_any (a : Int) (w : World) : Calls Try.prog 39 #[.int .i64 a] w fun e w' => e = .returned (.bool (decide (-1 ≤ a) && decide (a < 4))) ∧ w = w' := by
  by_cases h : -1 ≤ a
  · have d : decide (-1 ≤ a) = true := by simpa using h
    rw [d]
    generalize hq : decide (a < 4) = q at *
    go_enter Try.func39, Try.ntmps39
    go_wp2
    go_ret
    first | exact ⟨rfl, rfl⟩ | simp
  · have d : decide (-1 ≤ a) = false := by simpa using h
    rw [d]
    go_enter Try.func39, Try.ntmps39
    go_wp2
    go_ret
    first | exact ⟨rfl, rfl⟩ | simp
/-- A message that may not be. -/
def badMs (m : Ms) : Bool := !decide (okMs m)
theorem badMs_yes {m : Ms} (h : ¬ okMs m) : badMs m = true := by simp [badMs, h]
theorem badMs_no {m : Ms} (h : okMs m) : badMs m = false := by simp [badMs, h]
set_option maxRecDepth 4000 in
set_option maxHeartbeats 1000000 in
theorem notMs_any (m : Ms) (A : Option Addr) (n c : Nat) (w : World) (hn : n = m.d.length) : Calls Try.prog 38 #[.agg #[.slice A n c, .int .i64 m.g]] w fun e w' => e = .returned (.bool (badMs m)) ∧ Below w.heap.size w w' := by
  obtain ⟨R, hR⟩ : ∃ R, R = badMs m := ⟨_, rfl⟩
  rw [← hR]
  have hno : ¬ okMs m → R = true := fun h => by rw [hR]; exact badMs_yes h
  have hyes : okMs m → R = false := fun h => by rw [hR]; exact badMs_no h
  clear hR
  obtain ⟨d, g⟩ := m
  unfold okMs at hno hyes
  dsimp only at *
  obtain ⟨kb, bc⟩ := bx1 w #[.slice A n c, .int .i64 g] 51
  obtain ⟨k0, k1, -, -⟩ := kb.two
  by_cases q1 : n ≤ 8
  rotate_left
  · obtain rfl : R = true := hno (fun hh => q1 (by omega))
    have e2 : decide (8 < (n : Int)) = true := by simp; omega
    clear hno hyes hn
    go_enter Try.func38, Try.ntmps38
    go_wp2
    go_ret
    exact ⟨rfl, bc⟩
  have e2 : decide (8 < (n : Int)) = false := by simp; omega
  by_cases q2 : 0 ≤ g
  rotate_left
  · obtain rfl : R = true := hno (fun hh => q2 (by omega))
    have e3 : decide (g < 0) = true := by simp; omega
    clear hno hyes hn
    go_enter Try.func38, Try.ntmps38
    go_wp2
    go_ret
    exact ⟨rfl, bc⟩
  have e3 : decide (g < 0) = false := by simp; omega
  by_cases q3 : g ≤ 255
  rotate_left
  · obtain rfl : R = true := hno (fun hh => q3 (by omega))
    have e4 : decide (255 < g) = true := by simp; omega
    clear hno hyes hn
    go_enter Try.func38, Try.ntmps38
    go_wp2
    go_ret
    exact ⟨rfl, bc⟩
  have e4 : decide (255 < g) = false := by simp; omega
  obtain rfl : R = false := hyes ⟨by omega, q2, q3⟩
  clear hno hyes hn
  go_enter Try.func38, Try.ntmps38
  go_wp2
  go_ret
  exact ⟨rfl, bc⟩
theorem anyM_snoc (p : Ms → Bool) (l : List Ms) (k : Nat) (h : k < l.length) : (l.take (k + 1)).any p = ((l.take k).any p || p (l[k]?.getD default)) := by
  rw [List.take_add_one, List.getElem?_eq_getElem h, List.any_append]; simp
theorem anyM_from (p : Ms → Bool) (l : List Ms) (k : Nat) (h : k < l.length) (hp : p (l[k]?.getD default) = true) : l.any p = true := by
  rw [List.any_eq_true]; exact ⟨l[k], List.getElem_mem h, by simpa [h] using hp⟩
theorem okCn_any {c : Cn} : okCn c ↔ headCn c ∧ c.ms.any badMs = false := by
  unfold okCn
  refine and_congr Iff.rfl ⟨fun h => ?_, fun h k hk => ?_⟩
  · rw [List.any_eq_false]
    intro x hx
    obtain ⟨k, hk, rfl⟩ := List.getElem_of_mem hx
    have := h k hk
    simp only [List.getElem?_eq_getElem hk, Option.getD_some] at this
    simp [badMs, this]
  · rw [List.any_eq_false] at h
    have := h _ (List.getElem_mem hk)
    simp only [List.getElem?_eq_getElem hk, Option.getD_some]
    simpa [badMs] using this
set_option maxRecDepth 4000 in
set_option maxHeartbeats 1000000 in
theorem indexMs_any (A : Option Addr) (n c : Nat) (l : List Ms) (w : World) (hn : n = l.length) (hm : n ≤ 8) (hA : Msgs w.heap.size w A l) :
    Calls Try.prog 47 #[.slice A n c, .func (.func 38) #[] #[]] w fun e w' => ∃ r, e = .returned (.int .i64 r) ∧ decide (0 ≤ r) = l.any badMs ∧ Below w.heap.size w w' := by
  have HA := Lib.hid hA
  have HN := Lib.hid hn; clear hn hA
  go_enter Try.func47, Try.ntmps47
  go_wp2
  go_loopw [5, 8] (fun _ i wr => ∃ k : Nat, k ≤ n ∧ i = .int .i64 k ∧ (l.take k).any badMs = false ∧ Below w.heap.size w wr) (fun _ i _ => n - (intOf i).toNat)
  case atStart => exact ⟨0, by omega, rfl, rfl, Below.refl _ _⟩
  case round =>
    obtain ⟨k, hk, rfl, hno, bc⟩ := hrel
    have HNO := Lib.hid hno; clear hno
    by_cases hlt : k < n
    · have hkl : k < l.length := by have := HN.out; omega
      have hlt2 : (k : Int) < (n : Int) := by omega
      obtain ⟨b, off, rfl, hbl, ⟨vA, vn, vc⟩, ⟨e0, e1⟩, hv⟩ := (HA.out.below bc).at_ (k := k) hkl
      have hs := anyM_snoc badMs l k hkl
      rw [HNO.out] at hs
      have hf := anyM_from badMs l k hkl
      have hbk := notMs_any (l[k]?.getD default) vA vn vc wr hv.bn
      obtain ⟨q, hq⟩ : ∃ q, q = badMs (l[k]?.getD default) := ⟨_, rfl⟩
      rw [← hq] at hs hf hbk
      generalize (l[k]?.getD default).g = g at *
      have HS := Lib.hid hs; have HF := Lib.hid hf; have HBK := Lib.hid hbk
      clear hs hf hbk hq hv hkl
      dsimp only at e0
      cases q with
      | true =>
        go_wp2_with (go_at_call 38; refine HBK.out.mono ?_; rintro e w3 ⟨rfl, hC⟩; dsimp only; replace bc := bc.trans (hC.mono bc.size); clear hC)
        go_ret
        exact ⟨_, rfl, by rw [HF.out (by trivial)]; simp, bc⟩
      | false =>
        go_wp2_with (go_at_call 38; refine HBK.out.mono ?_; rintro e w3 ⟨rfl, hC⟩; dsimp only; replace bc := bc.trans (hC.mono bc.size); clear hC)
        go_roundw
        case rel => exact ⟨k + 1, by omega, by go_num, by rw [HS.out]; rfl, bc⟩
        case measure => simp [intOf]; omega
    · go_wp2
      go_ret
      have h3 := HNO.out
      rw [List.take_of_length_le (by have := HN.out; omega)] at h3
      exact ⟨_, rfl, by rw [h3]; decide, bc⟩
set_option maxRecDepth 4000 in
set_option maxHeartbeats 1000000 in
theorem containsMs_any (A : Option Addr) (n c : Nat) (l : List Ms) (w : World) (hn : n = l.length) (hm : n ≤ 8) (hA : Msgs w.heap.size w A l) :
    Calls Try.prog 37 #[.slice A n c, .func (.func 38) #[] #[]] w fun e w' => e = .returned (.bool (l.any badMs)) ∧ Below w.heap.size w w' := by
  have hc := indexMs_any A n c l w hn hm hA
  have HC := Lib.hid hc; clear hc hA hn
  go_enter Try.func37, Try.ntmps37
  go_wp2_with (go_at_call 47; refine HC.out.mono ?_; rintro e w3 ⟨r, rfl, hr, hB⟩)
  go_ret
  rw [← hr]
  exact ⟨rfl, hB⟩

set_option maxRecDepth 100000 in
set_option maxHeartbeats 4000000 in
theorem chkCnP_any (s : Cn) (v u : Sl3) (w : World) (h : CnOk w.heap.size w s v u) : Calls Try.prog 13 #[.agg (cCn s v u)] w fun e w' => e = .returned (.int .i64 (chkCn s)) ∧ Below w.heap.size w w' := by
  obtain ⟨R, hR⟩ : ∃ R, R = chkCn s := ⟨_, rfl⟩
  rw [← hR]
  have hno : ¬ (headCn s ∧ s.ms.any badMs = false) → R = 120 := fun hh => by rw [hR]; exact chkCn_no (fun h => hh (okCn_any.1 h))
  have hyes : (headCn s ∧ s.ms.any badMs = false) → R = 0 := fun hh => by rw [hR]; exact chkCn_yes (okCn_any.2 hh)
  clear hR
  have hbn := h.out.bn; have hmn := h.mn; have hM := h.ms
  have hsl := fun U => isSlot_any s.id u.n U
  have hwa := fun U => isWant_any s.want U
  have hct := fun U (hm : u.n ≤ 8) (hb : Below w.heap.size w U) => containsMs_any u.A u.n u.c s.ms U hmn hm (hM.on hb)
  clear h hM
  obtain ⟨id, out, ms, life, want⟩ := s
  obtain ⟨A, n, c⟩ := v
  obtain ⟨B, m, d⟩ := u
  dsimp only [cCn] at *
  unfold headCn at hno hyes
  dsimp only at hno hyes
  obtain ⟨zs, hzs⟩ : ∃ z, z = (decide (0 ≤ id) && decide (id < (m : Int))) := ⟨_, rfl⟩
  obtain ⟨zw, hzw⟩ : ∃ z, z = (decide (-1 ≤ want) && decide (want < 4)) := ⟨_, rfl⟩
  obtain ⟨za, hza⟩ : ∃ z, z = ms.any badMs := ⟨_, rfl⟩
  rw [← hzs] at hsl
  rw [← hzw] at hwa
  rw [← hza] at hct hno hyes
  have s1 : zs = true → 0 ≤ id ∧ id < (m : Int) := fun e => by rw [hzs] at e; simpa using e
  have s0 : zs = false → ¬ (0 ≤ id ∧ id < (m : Int)) := fun e h => by rw [hzs] at e; simp [h.1, h.2] at e
  have w1 : zw = true → -1 ≤ want ∧ want < 4 := fun e => by rw [hzw] at e; simpa using e
  have w0 : zw = false → ¬ (-1 ≤ want ∧ want < 4) := fun e h => by rw [hzw] at e; simp [h.1, h.2] at e
  clear hzs hzw hza
  have HSL := Lib.hid hsl; have HWA := Lib.hid hwa; clear hsl hwa
  obtain ⟨kb, bc⟩ := bx1 w #[.int .i64 id, .slice A n c, .slice B m d, .int .i64 life, .int .i64 want] 25
  obtain ⟨k0, k1, k2, k3, k4⟩ := kb.fiveI
  by_cases c0 : 4 ≤ m
  rotate_left
  · obtain rfl : R = 120 := hno (fun hh => c0 (by have := hh.1.1; omega))
    have d0 : decide ((m : Int) < 4) = true := by simp; omega
    have HCT := Lib.hid hct; clear hct
    clear hno hyes s1 s0 w1 w0 hmn hbn
    go_enter Try.func13, Try.ntmps13
    go_wp2_with (first | (go_at_call 36; refine (HSL.out _).mono ?_; rintro e w1 ⟨rfl, rfl⟩; dsimp only) | (go_at_call 37; refine (HCT.out _ bc).mono ?_; rintro e w1 ⟨rfl, hC⟩; dsimp only; clear k0 k1 k2 k3 k4; replace kb := kb.on hC; replace bc := bc.trans (hC.mono bc.size); clear hC; obtain ⟨k0, k1, k2, k3, k4⟩ := kb.fiveI) | (go_at_call 39; refine (HWA.out _).mono ?_; rintro e w1 ⟨rfl, rfl⟩; dsimp only))
    go_ret
    exact ⟨rfl, bc⟩
  have d0 : decide ((m : Int) < 4) = false := by simp; omega
  by_cases c1 : m ≤ 8
  rotate_left
  · obtain rfl : R = 120 := hno (fun hh => c1 (by have := hh.1.2.1; omega))
    have d1 : decide (8 < (m : Int)) = true := by simp; omega
    have HCT := Lib.hid hct; clear hct
    clear hno hyes s1 s0 w1 w0 hmn hbn
    go_enter Try.func13, Try.ntmps13
    go_wp2_with (first | (go_at_call 36; refine (HSL.out _).mono ?_; rintro e w1 ⟨rfl, rfl⟩; dsimp only) | (go_at_call 37; refine (HCT.out _ bc).mono ?_; rintro e w1 ⟨rfl, hC⟩; dsimp only; clear k0 k1 k2 k3 k4; replace kb := kb.on hC; replace bc := bc.trans (hC.mono bc.size); clear hC; obtain ⟨k0, k1, k2, k3, k4⟩ := kb.fiveI) | (go_at_call 39; refine (HWA.out _).mono ?_; rintro e w1 ⟨rfl, rfl⟩; dsimp only))
    go_ret
    exact ⟨rfl, bc⟩
  have d1 : decide (8 < (m : Int)) = false := by simp; omega
  have hct := fun U hb => hct U c1 hb
  have HCT := Lib.hid hct; clear hct
  cases zs with
  | false =>
    obtain rfl : R = 120 := hno (fun hh => s0 rfl ⟨hh.1.2.2.1, by have := hh.1.2.2.2.1; omega⟩)
    clear hno hyes s1 s0 w1 w0 hmn hbn
    go_enter Try.func13, Try.ntmps13
    go_wp2_with (first | (go_at_call 36; refine (HSL.out _).mono ?_; rintro e w1 ⟨rfl, rfl⟩; dsimp only) | (go_at_call 37; refine (HCT.out _ bc).mono ?_; rintro e w1 ⟨rfl, hC⟩; dsimp only; clear k0 k1 k2 k3 k4; replace kb := kb.on hC; replace bc := bc.trans (hC.mono bc.size); clear hC; obtain ⟨k0, k1, k2, k3, k4⟩ := kb.fiveI) | (go_at_call 39; refine (HWA.out _).mono ?_; rintro e w1 ⟨rfl, rfl⟩; dsimp only))
    go_ret
    exact ⟨rfl, bc⟩
  | true =>
    obtain ⟨i1, i2⟩ := s1 rfl
    by_cases c4 : n ≤ 8
    rotate_left
    · obtain rfl : R = 120 := hno (fun hh => c4 (by have := hh.1.2.2.2.2.1; omega))
      have d4 : decide (8 < (n : Int)) = true := by simp; omega
      clear hno hyes s1 s0 w1 w0 hmn hbn
      go_enter Try.func13, Try.ntmps13
      go_wp2_with (first | (go_at_call 36; refine (HSL.out _).mono ?_; rintro e w1 ⟨rfl, rfl⟩; dsimp only) | (go_at_call 37; refine (HCT.out _ bc).mono ?_; rintro e w1 ⟨rfl, hC⟩; dsimp only; clear k0 k1 k2 k3 k4; replace kb := kb.on hC; replace bc := bc.trans (hC.mono bc.size); clear hC; obtain ⟨k0, k1, k2, k3, k4⟩ := kb.fiveI) | (go_at_call 39; refine (HWA.out _).mono ?_; rintro e w1 ⟨rfl, rfl⟩; dsimp only))
      go_ret
      exact ⟨rfl, bc⟩
    have d4 : decide (8 < (n : Int)) = false := by simp; omega
    cases za with
    | true =>
      obtain rfl : R = 120 := hno (fun hh => by cases hh.2)
      clear hno hyes s1 s0 w1 w0 hmn hbn
      go_enter Try.func13, Try.ntmps13
      go_wp2_with (first | (go_at_call 36; refine (HSL.out _).mono ?_; rintro e w1 ⟨rfl, rfl⟩; dsimp only) | (go_at_call 37; refine (HCT.out _ bc).mono ?_; rintro e w1 ⟨rfl, hC⟩; dsimp only; clear k0 k1 k2 k3 k4; replace kb := kb.on hC; replace bc := bc.trans (hC.mono bc.size); clear hC; obtain ⟨k0, k1, k2, k3, k4⟩ := kb.fiveI) | (go_at_call 39; refine (HWA.out _).mono ?_; rintro e w1 ⟨rfl, rfl⟩; dsimp only))
      go_ret
      exact ⟨rfl, bc⟩
    | false =>
      by_cases c5 : 0 ≤ life
      rotate_left
      · obtain rfl : R = 120 := hno (fun hh => c5 (by have := hh.1.2.2.2.2.2.1; omega))
        have d5 : decide (life < 0) = true := by simp; omega
        clear hno hyes s1 s0 w1 w0 hmn hbn
        go_enter Try.func13, Try.ntmps13
        go_wp2_with (first | (go_at_call 36; refine (HSL.out _).mono ?_; rintro e w1 ⟨rfl, rfl⟩; dsimp only) | (go_at_call 37; refine (HCT.out _ bc).mono ?_; rintro e w1 ⟨rfl, hC⟩; dsimp only; clear k0 k1 k2 k3 k4; replace kb := kb.on hC; replace bc := bc.trans (hC.mono bc.size); clear hC; obtain ⟨k0, k1, k2, k3, k4⟩ := kb.fiveI) | (go_at_call 39; refine (HWA.out _).mono ?_; rintro e w1 ⟨rfl, rfl⟩; dsimp only))
        go_ret
        exact ⟨rfl, bc⟩
      have d5 : decide (life < 0) = false := by simp; omega
      by_cases c6 : life ≤ 4
      rotate_left
      · obtain rfl : R = 120 := hno (fun hh => c6 (by have := hh.1.2.2.2.2.2.2.1; omega))
        have d6 : decide (4 < life) = true := by simp; omega
        clear hno hyes s1 s0 w1 w0 hmn hbn
        go_enter Try.func13, Try.ntmps13
        go_wp2_with (first | (go_at_call 36; refine (HSL.out _).mono ?_; rintro e w1 ⟨rfl, rfl⟩; dsimp only) | (go_at_call 37; refine (HCT.out _ bc).mono ?_; rintro e w1 ⟨rfl, hC⟩; dsimp only; clear k0 k1 k2 k3 k4; replace kb := kb.on hC; replace bc := bc.trans (hC.mono bc.size); clear hC; obtain ⟨k0, k1, k2, k3, k4⟩ := kb.fiveI) | (go_at_call 39; refine (HWA.out _).mono ?_; rintro e w1 ⟨rfl, rfl⟩; dsimp only))
        go_ret
        exact ⟨rfl, bc⟩
      have d6 : decide (4 < life) = false := by simp; omega
      cases zw with
      | false =>
        obtain rfl : R = 120 := hno (fun hh => w0 rfl ⟨hh.1.2.2.2.2.2.2.2.1, hh.1.2.2.2.2.2.2.2.2⟩)
        clear hno hyes s1 s0 w1 w0 hmn hbn
        go_enter Try.func13, Try.ntmps13
        go_wp2_with (first | (go_at_call 36; refine (HSL.out _).mono ?_; rintro e w1 ⟨rfl, rfl⟩; dsimp only) | (go_at_call 37; refine (HCT.out _ bc).mono ?_; rintro e w1 ⟨rfl, hC⟩; dsimp only; clear k0 k1 k2 k3 k4; replace kb := kb.on hC; replace bc := bc.trans (hC.mono bc.size); clear hC; obtain ⟨k0, k1, k2, k3, k4⟩ := kb.fiveI) | (go_at_call 39; refine (HWA.out _).mono ?_; rintro e w1 ⟨rfl, rfl⟩; dsimp only))
        go_ret
        exact ⟨rfl, bc⟩
      | true =>
        obtain ⟨j1, j2⟩ := w1 rfl
        obtain rfl : R = 0 := hyes ⟨⟨by omega, by omega, by omega, by omega, by omega, by omega, by omega, by omega, by omega⟩, rfl⟩
        clear hno hyes s1 s0 w1 w0 hmn hbn
        go_enter Try.func13, Try.ntmps13
        go_wp2_with (first | (go_at_call 36; refine (HSL.out _).mono ?_; rintro e w1 ⟨rfl, rfl⟩; dsimp only) | (go_at_call 37; refine (HCT.out _ bc).mono ?_; rintro e w1 ⟨rfl, hC⟩; dsimp only; clear k0 k1 k2 k3 k4; replace kb := kb.on hC; replace bc := bc.trans (hC.mono bc.size); clear hC; obtain ⟨k0, k1, k2, k3, k4⟩ := kb.fiveI) | (go_at_call 39; refine (HWA.out _).mono ?_; rintro e w1 ⟨rfl, rfl⟩; dsimp only))
        go_ret
        exact ⟨rfl, bc⟩
end Go.Proofs.Ytnlmpemfpkmodaa
