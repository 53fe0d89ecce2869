/-
  The law of the means: what Kept, Midpoint and Spread answer is the document's. Conditions: those that the theorem names.
-/
import Derived.Test.YtfncccjiiipfoaaFH
namespace Go.Proofs.Ytfncccjiiipfoaa
open Go.RowKit

theorem jcopy_any (A : Option Addr) (n c : Nat) (l : List Int) (w : World) (hn : n = l.length) (hm : n ≤ 65536) (hA : Ints w.heap.size w A l) (hc : A = none → n = 0 ∧ c = 0) :
    Calls Try.prog 10 #[.slice A n c] w fun e w' => ∃ B d, e = .returned (.slice B n d) ∧ n ≤ d ∧ (B = none → n = 0 ∧ d = 0) ∧ w'.ownsRow w.heap.size 2 1 (.slice B n d) n (l.map (Value.int .i64)) ∧ Ints w'.heap.size w' B l ∧ Below w.heap.size w w' := by
  refine (jclone_any A n c l w hn hm hA hc).mono ?_
  rintro e w' ⟨v, rfl, ho, hB⟩
  obtain ⟨B, d, rfl, h1, h2, h3⟩ := ints_own ho
  rw [← hn] at h1 h2 ho ⊢
  exact ⟨B, d, rfl, h1, h2, ho, h3, hB⟩
set_option maxRecDepth 8000 in
set_option maxHeartbeats 4000000 in
theorem means_law (A : Option Addr) (n c : Nat) (l : List Int) (w : World) (hn : n = l.length) (hm : n ≤ maxLen) (hcap : n ≤ c) (hcn : A = none → n = 0 ∧ c = 0) (hA : Ints w.heap.size w A l) :
    Calls Try.prog 3 #[.slice A n c] w fun e w' => e = .returned (.bool true) ∧ Below w.heap.size w w' := by
  obtain ⟨m, hmin⟩ : ∃ m, m = min n 60 := ⟨_, rfl⟩
  have hfew := fewJ_any A n c m w hcap hm hmin hcn
  have hml : m = (l.take m).length := by rw [List.length_take]; omega
  have hI := hA.take m
  have hnil : A = none → m = 0 ∧ c = 0 := fun h => ⟨by have := hcn h; omega, (hcn h).2⟩
  have hm6 : m ≤ 65536 := by omega
  have hmx : m ≤ maxLen := by unfold maxLen; omega
  clear hmin hA hn hcn hcap hm
  generalize l.take m = t at *
  have hin := fun w1 (h : Below w.heap.size w w1) => (hI.below h).mono h.size
  have hcl := fun w1 (h : Below w.heap.size w w1) => jcopy_any A m c t w1 hml hm6 (hin w1 h) hnil
  have hk := fun w1 (h : Below w.heap.size w w1) => kept_any A m c t w1 hml hm6 (hin w1 h)
  have hrk := fun w1 (h : Below w.heap.size w w1) => rkept_any A m c t w1 hml hm6 (hin w1 h)
  have hmi := fun w1 (h : Below w.heap.size w w1) => mid_any A m c t w1 hml hm6 (hin w1 h)
  have hrm := fun w1 (h : Below w.heap.size w w1) => rmid_any A m c t w1 hml hm6 (hin w1 h)
  have hs := fun w1 (h : Below w.heap.size w w1) => spread_any A m c t w1 hml hm6 (hin w1 h)
  have hrs := fun w1 (h : Below w.heap.size w w1) => rspread_any A m c t w1 hml hm6 (hin w1 h)
  have hq := fun B d w1 (h : Below w.heap.size w w1) (hB : Ints w1.heap.size w1 B t) => jsame_any A B m m c d t t w1 hml hml hmx hmx (hin w1 h) hB
  rw [show decide (t = t) = true from by simp] at hq
  unfold keptV at hk hrk
  unfold midV at hmi hrm
  generalize keptS t = r at *
  obtain ⟨r1, r2, r3⟩ := r
  generalize midS t = p at *
  obtain ⟨p1, p2⟩ := p
  generalize wrap64 (spreadS t) = s at *
  dsimp only at *
  have HF := Lib.hid hfew; have HCL := Lib.hid hcl; have HK := Lib.hid hk; have HRK := Lib.hid hrk; have HMI := Lib.hid hmi; have HRM := Lib.hid hrm; have HS := Lib.hid hs; have HRS := Lib.hid hrs; have HQ := Lib.hid hq
  clear hfew hcl hk hrk hmi hrm hs hrs hq hin hI hnil hml hm6 hmx
  have hB := Below.refl w.heap.size w
  go_enter Try.func3, Try.ntmps3
  go_wp2_with (first
    | (go_at_call 9; refine HF.out.mono ?_; rintro e w1 ⟨rfl, rfl⟩)
    | (go_at_call 10; refine (HCL.out _ hB).mono ?_; rintro e w1 ⟨B, d, rfl, -, -, -, hT, hC⟩; replace hB := hB.trans (hC.mono hB.size); clear hC)
    | (go_at_call 11; refine (HK.out _ hB).mono ?_; rintro e w1 ⟨rfl, hC⟩; replace hB := hB.trans (hC.mono hB.size); replace hT := (hT.below hC).mono hC.size; clear hC)
    | (go_at_call 12; refine (HRK.out _ hB).mono ?_; rintro e w1 ⟨rfl, hC⟩; replace hB := hB.trans (hC.mono hB.size); replace hT := (hT.below hC).mono hC.size; clear hC)
    | (go_at_call 13; refine (HMI.out _ hB).mono ?_; rintro e w1 ⟨rfl, hC⟩; replace hB := hB.trans (hC.mono hB.size); replace hT := (hT.below hC).mono hC.size; clear hC)
    | (go_at_call 14; refine (HRM.out _ hB).mono ?_; rintro e w1 ⟨rfl, hC⟩; replace hB := hB.trans (hC.mono hB.size); replace hT := (hT.below hC).mono hC.size; clear hC)
    | (go_at_call 15; refine (begun_any _).mono ?_; rintro e w1 ⟨rfl, hC⟩; replace hB := hB.trans (hC.mono hB.size); replace hT := (hT.below hC).mono hC.size; clear hC)
    | (go_at_call 16; refine (HS.out _ hB).mono ?_; rintro e w1 ⟨rfl, rfl⟩)
    | (go_at_call 17; refine (HRS.out _ hB).mono ?_; rintro e w1 ⟨rfl, rfl⟩)
    | (go_at_call 18; refine (HQ.out _ _ _ hB hT).mono ?_; rintro e w1 ⟨rfl, hC⟩; replace hB := hB.trans (hC.mono hB.size); replace hT := (hT.below hC).mono hC.size; clear hC))
  go_ret
  exact ⟨rfl, hB⟩
end Go.Proofs.Ytfncccjiiipfoaa
