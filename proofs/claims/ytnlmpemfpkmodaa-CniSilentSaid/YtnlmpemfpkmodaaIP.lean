/-
  The statement of a host that gives no sign. Conditions: what the program's functions answer. (Printed by tools/gen12p.py; laid ahead.)
-/
import Derived.Test.YtnlmpemfpkmodaaIL
import Derived.Lib.Hide
namespace Go.Proofs.Ytnlmpemfpkmodaa
open Go.RowKit

/-- A round later. -/
def olderCn (c : Cn) : Cn := ⟨c.id, c.out, c.ms.map olderMs, max (c.life - 1) 0, c.want⟩
theorem older_ok {c : Cn} (h : okCn c) : okCn (olderCn c) := by
  obtain ⟨⟨h1, h2, h3, h4, h5, h6, h7, h8, h9⟩, hm⟩ := h
  refine ⟨⟨by simpa [olderCn] using h1, by simpa [olderCn] using h2, h3, by simpa [olderCn] using h4, h5, by show 0 ≤ max (c.life - 1) 0; omega, by show max (c.life - 1) 0 ≤ 4; omega, h8, h9⟩, fun k hk => ?_⟩
  have hk2 : k < c.ms.length := by simpa [olderCn] using hk
  have h0 := hm k hk2
  have e : (olderCn c).ms[k]?.getD default = olderMs (c.ms[k]?.getD default) := by simp [olderCn, hk2]
  rw [e]
  obtain ⟨a, b, d⟩ := h0
  exact ⟨a, by show 0 ≤ min _ 255; omega, by show min _ 255 ≤ (255 : Int); omega⟩
theorem round_ok {c : Cn} (h : okCn c) : roundCn c = (0, olderCn c) := by unfold roundCn; rw [if_pos h]; rfl
/-- So many rounds later. -/
def roundsCn (c : Cn) : Nat → Cn
  | 0 => c
  | k + 1 => olderCn (roundsCn c k)
theorem rounds_ok {c : Cn} (h : okCn c) (k : Nat) : okCn (roundsCn c k) := by
  induction k with
  | zero => exact h
  | succ k ih => exact older_ok ih
theorem rounds_out (c : Cn) (k : Nat) : (roundsCn c k).out = c.out := by
  induction k with
  | zero => rfl
  | succ k ih => exact ih
theorem rounds_life (c : Cn) (h0 : 0 ≤ c.life) (k : Nat) : (roundsCn c k).life = max (c.life - k) 0 := by
  induction k with
  | zero => show c.life = _; simp; omega
  | succ k ih =>
    show max ((roundsCn c k).life - 1) 0 = _
    rw [ih]; omega
theorem write_ok {c : Cn} {bs : List UInt8} (h : (writeCn c bs).1 = 0) : okCn (writeCn c bs).2 ∧ (writeCn c bs).2.out = bs ∧ bs.length ≤ 8 := by
  unfold writeCn at h ⊢
  by_cases h1 : okCn c
  · rw [if_pos h1] at h ⊢
    by_cases h2 : bs.length ≤ 8
    · rw [if_pos h2] at h ⊢
      obtain ⟨⟨k1, k2, k3, k4, k5, k6, k7, k8, k9⟩, hm⟩ := h1
      exact ⟨⟨⟨k1, k2, k3, k4, h2, k6, k7, k8, k9⟩, hm⟩, rfl, h2⟩
    · rw [if_neg h2] at h; exact absurd h (by decide)
  · rw [if_neg h1] at h; exact absurd h (by decide)
theorem silent_send {c : Cn} (h : c.life = 0) (N : Nat) : sentB c N = List.replicate N 0 := by
  refine List.ext_getElem (by simp [sentB]) fun i h1 h2 => ?_
  simp [sentB, h]
theorem lively_send {c : Cn} (h : 0 < c.life) (N q : Nat) (hq : q = min c.out.length N) : (sentB c N).take q = c.out.take q := by
  refine List.ext_getElem (by simp [sentB]; omega) fun i h1 h2 => ?_
  have hi : i < c.out.length := by simp at h2; omega
  simp [sentB, h, hi]
theorem sentB_length (c : Cn) (N : Nat) : (sentB c N).length = N := by simp [sentB]
theorem byt_takeI {n₀ : Nat} {W : World} {A : Option Addr} {bs : List UInt8} (h : Byt n₀ W A bs) (k : Nat) : Byt n₀ W A (bs.take k) := fun hne => by
  obtain ⟨b, off, e, hb, hc⟩ := h (by rintro rfl; simp at hne)
  refine ⟨b, off, e, hb, fun j hj => ?_⟩
  have hj2 : j < k ∧ j < bs.length := by rw [List.length_take] at hj; omega
  rw [hc j hj2.2]
  simp [hj2.1]
set_option maxRecDepth 4000 in
set_option maxHeartbeats 400000 in
theorem nz_any (w : World) : Calls Try.prog 35 #[.int .u8 0] w fun e w' => e = .returned (.bool false) ∧ w = w' := by
  go_enter Try.func35, Try.ntmps35
  go_wp2
  go_ret
  exact ⟨rfl, rfl⟩
set_option maxRecDepth 4000 in
set_option maxHeartbeats 1000000 in
theorem indexZ_any (A : Option Addr) (n c : Nat) (w : World) (hm : n ≤ 8) (hA : Byt w.heap.size w A (List.replicate n 0)) :
    Calls Try.prog 46 #[.slice A n c, .func (.func 35) #[] #[]] w fun e w' => e = .returned (.int .i64 (-1)) ∧ w = w' := by
  have HB := Lib.hid (nz_any w)
  have HA := Lib.hid hA; clear hA
  go_enter Try.func46, Try.ntmps46
  go_wp2
  go_loopw [5, 8] (fun _ i wr => ∃ k : Nat, k ≤ n ∧ i = .int .i64 k ∧ wr = w) (fun _ i _ => n - (intOf i).toNat)
  case atStart => exact ⟨0, by omega, rfl, rfl⟩
  case round =>
    obtain ⟨k, hk, rfl, rfl⟩ := hrel
    by_cases hlt : k < n
    · obtain ⟨b, off, rfl, hbl, hcell⟩ := HA.out.atI (j := k) (by simpa using hlt)
      have hz : ((List.replicate n (0 : UInt8))[k]?.getD 0).toNat = 0 := by simp [hlt]
      rw [hz] at hcell
      clear hz
      go_wp2_with (go_at_call 35; refine HB.out.mono ?_; rintro e w3 ⟨rfl, rfl⟩)
      go_roundw
      case rel => exact ⟨k + 1, by omega, by go_num, by trivial⟩
      case measure => simp [intOf]; omega
    · go_wp2
      go_ret
      exact ⟨rfl, rfl⟩
set_option maxRecDepth 4000 in
set_option maxHeartbeats 1000000 in
theorem containsZ_any (A : Option Addr) (n c : Nat) (w : World) (hm : n ≤ 8) (hA : Byt w.heap.size w A (List.replicate n 0)) :
    Calls Try.prog 34 #[.slice A n c, .func (.func 35) #[] #[]] w fun e w' => e = .returned (.bool false) ∧ w = w' := by
  have hc := indexZ_any A n c w hm hA
  have HC := Lib.hid hc; clear hc hA
  go_enter Try.func34, Try.ntmps34
  go_wp2_with (go_at_call 46; refine HC.out.mono ?_; rintro e w3 ⟨rfl, rfl⟩)
  go_ret
  exact ⟨rfl, rfl⟩

end Go.Proofs.Ytnlmpemfpkmodaa
