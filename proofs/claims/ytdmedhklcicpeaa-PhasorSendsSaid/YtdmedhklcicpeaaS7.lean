/-
  The document's Find. Conditions: rows that can be read, of up to 65,536 samples.
-/
import Derived.Test.YtdmedhklcicpeaaS6
namespace Go.Proofs.Ytdmedhklcicpeaa
open Go.RowKit

/-- Find, by the document. -/
def findS (l : List Sp) (fr : Int) : Int × Int × Int :=
  if fr < 0 then (0, 0, 2)
  else match (List.range' fr.toNat (l.length - fr.toNat)).find? fun (a : Nat) => (matchS l (a : Int)).2.2 with
    | some a => ((a : Int), quartS (matchS l (a : Int)).1, 0)
    | none => (0, 0, 4)
theorem match_bound (l : List Sp) (at_ : Int) : (-4194304 ≤ (matchS l at_).1.1 ∧ (matchS l at_).1.1 ≤ 4194304) ∧ -4194304 ≤ (matchS l at_).1.2 ∧ (matchS l at_).1.2 ≤ 4194304 := by
  unfold matchS
  split
  · decide
  · rename_i h
    have h1 : ((l.drop at_.toNat).take 8).all mayS = true := by
      cases hb : ((l.drop at_.toNat).take 8).all mayS
      · exact absurd (.inr (.inr hb)) h
      · rfl
    have hlen : ((l.drop at_.toNat).take 8).length = 8 := by
      have h2 : ¬ at_ < 0 := fun hh => h (.inl hh)
      have h3 : ¬ (l.length : Int) - 8 < at_ := fun hh => h (.inr (.inl hh))
      simp; omega
    have := corr_bound _ hlen h1 8 (by omega)
    dsimp only
    omega
theorem find_none (l : List Sp) (f : Nat) (h : ∀ j, f ≤ j → j < l.length → (matchS l j).2.2 = false) : findS l f = (0, 0, 4) := by
  unfold findS
  rw [if_neg (by omega)]
  have : (List.range' (f : Int).toNat (l.length - (f : Int).toNat)).find? (fun (a : Nat) => (matchS l (a : Int)).2.2) = none := by
    rw [List.find?_eq_none]
    intro x hx
    rw [List.mem_range'_1] at hx
    rw [h x (by omega) (by omega)]; simp
  rw [this]
theorem find_some (l : List Sp) (f k : Nat) (hf : f ≤ k) (hk : k < l.length) (h : ∀ j, f ≤ j → j < k → (matchS l j).2.2 = false) (hk2 : (matchS l k).2.2 = true) : findS l f = (((k : Nat) : Int), quartS (matchS l k).1, 0) := by
  unfold findS
  rw [if_neg (by omega)]
  have : (List.range' (f : Int).toNat (l.length - (f : Int).toNat)).find? (fun (a : Nat) => (matchS l (a : Int)).2.2) = some k := by
    rw [List.find?_eq_some_iff_append]
    refine ⟨hk2, List.range' f (k - f), List.range' (k + 1) (l.length - k - 1), ?_, ?_⟩
    · rw [Int.toNat_natCast]
      have e : List.range' k (l.length - k) = k :: List.range' (k + 1) (l.length - k - 1) := by
        rw [show l.length - k = (l.length - k - 1) + 1 by omega, List.range'_succ]; simp
      rw [← e]
      have := List.range'_append_1 (s := f) (m := k - f) (n := l.length - k)
      rw [show f + (k - f) = k by omega, show k - f + (l.length - k) = l.length - f by omega] at this
      exact this.symm
    · intro x hx
      rw [List.mem_range'_1] at hx
      rw [h x (by omega) (by omega)]; rfl
  rw [this]

set_option maxRecDepth 4000 in
set_option maxHeartbeats 2000000 in
theorem rfind_any (A : Option Addr) (n c : Nat) (l : List Sp) (fr : Int) (w : World) (hn : n = l.length) (hm : n ≤ 65536) (hcap : n ≤ c) (hA : Smps w.heap.size w A l) :
    Calls Try.prog 27 #[.slice A n c, .int .i64 fr] w fun e w' => e = .returned (.tuple #[.int .i64 (findS l fr).1, .int .i64 (findS l fr).2.1, .int .i64 (findS l fr).2.2]) ∧ Below w.heap.size w w' := by
  have hma := fun (w1 : World) (k : Nat) (h : Below w.heap.size w w1) => rmatch_any A n c l (k : Nat) w1 hn hm hcap ((hA.below h).mono h.size)
  have HMA := Lib.hid hma; have HN := Lib.hid hn; clear hma hA hn
  by_cases h0 : fr < 0
  · have e : findS l fr = (0, 0, 2) := by unfold findS; rw [if_pos h0]
    rw [e]
    have hd : decide (fr < 0) = true := by simpa using h0
    go_enter Try.func27, Try.ntmps27
    go_wp2
    exact bodyPost_ret (v := .tuple #[.int .i64 0, .int .i64 0, .int .i64 2]) (by simp [results, Try.results27, go_sem]) rfl ⟨rfl, Below.refl _ _⟩
  · have hd : decide (fr < 0) = false := by simpa using h0
    obtain ⟨f, rfl⟩ := Int.eq_ofNat_of_zero_le (show 0 ≤ fr by omega)
    obtain ⟨R, hR⟩ : ∃ R, R = findS l (f : Nat) := ⟨_, rfl⟩
    rw [← hR]
    have HR := Lib.hid hR; clear hR
    go_enter Try.func27, Try.ntmps27
    go_wp2
    go_loopw [7] (fun i wr => ∃ k : Nat, f ≤ k ∧ i = .int .i64 k ∧ (∀ j, f ≤ j → j < k → (matchS l j).2.2 = false) ∧ Below w.heap.size w wr)
      (fun i _ => n - (intOf i).toNat)
    case atStart => exact ⟨f, Nat.le_refl _, rfl, fun j h1 h2 => by omega, Below.refl _ _⟩
    case round =>
      obtain ⟨k, hfk, rfl, hno, hBr⟩ := hrel
      have HNO := Lib.hid hno; clear hno
      by_cases hlt : k < n
      · have hmc := HMA.out wr k hBr
        have hbd := match_bound l (k : Nat)
        have hso := find_some l f k hfk (by have := HN.out; omega) HNO.out
        generalize hmm : matchS l (k : Nat) = mm at *
        obtain ⟨⟨mI, mQ⟩, mn, mb⟩ := mm
        dsimp only at hmc hbd hso
        have HMC := Lib.hid hmc; clear hmc
        cases mb
        · have hno2 : ∀ j, f ≤ j → j < k + 1 → (matchS l j).2.2 = false := fun j h1 h2 => by
            rcases Nat.lt_or_ge j k with h | h
            · exact HNO.out j h1 h
            · obtain rfl : j = k := by omega
              rw [hmm]
          have HNO2 := Lib.hid hno2
          clear hno2 hso hmm
          go_wp2_with fail
          refine HMC.out.mono ?_
          rintro e w2 ⟨rfl, hB2⟩
          go_wp2
          go_roundw
          case rel => exact ⟨k + 1, by omega, by go_num, HNO2.out, (hBr.trans (hB2.mono hBr.size)).alloc (hBr.trans (hB2.mono hBr.size)).size _⟩
          case measure => simp [intOf]; omega
        · have hr := hso rfl
          have hqu := fun (w1 : World) => rquarters_any mI mQ w1 hbd.1.1 hbd.1.2 hbd.2.1 hbd.2.2
          generalize quartS (mI, mQ) = qq at *
          have HRR := Lib.hid hr; have HQ := Lib.hid hqu
          clear hr hqu hso hmm
          go_wp2_with fail
          refine HMC.out.mono ?_
          rintro e w2 ⟨rfl, hB2⟩
          have bw2 := (hBr.trans (hB2.mono hBr.size)).alloc (hBr.trans (hB2.mono hBr.size)).size (.cells #[.int .i64 mI, .int .i64 mQ] 38)
          go_wp2_with fail
          refine (HQ.out _).mono ?_
          rintro e w3 ⟨rfl, hB3⟩
          go_wp2
          exact bodyPost_ret (v := .tuple #[.int .i64 k, .int .i64 qq, .int .i64 0]) (by simp [results, Try.results27, go_sem]) rfl ⟨by rw [HR.out, HRR.out], bw2.trans (hB3.mono bw2.size)⟩
      · have hr := find_none l f (fun j h1 h2 => HNO.out j h1 (by have := HN.out; omega))
        have HRR := Lib.hid hr; clear hr
        have hd0 : decide (k < n) = false := by simpa using hlt
        go_wp2
        exact bodyPost_ret (v := .tuple #[.int .i64 0, .int .i64 0, .int .i64 4]) (by simp [results, Try.results27, go_sem]) rfl ⟨by rw [HR.out, HRR.out], hBr⟩
end Go.Proofs.Ytdmedhklcicpeaa
