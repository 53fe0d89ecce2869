/-
  The statement of spans put together, of package sched. Condition: a list of spans that can be read.
-/
import Derived.Test.YtjdhodobfkkoiaaSW
namespace Go.Proofs.Ytjdhodobfkkoiaa
open Go.RowKit

set_option maxRecDepth 100000 in
set_option maxHeartbeats 4000000 in
theorem norms_law (A : Option Addr) (n c : Nat) (l : List Sp) (i : Int) (w : World) (hn : n = l.length) (hm : n ≤ maxLen) (hcap : n ≤ c) (hcn : A = none → n = 0 ∧ c = 0) (hA : Smps w.heap.size w A l) :
    Calls Try.prog 4 #[.slice A n c, .int .i64 i] w fun e w' => e = .returned (.bool true) ∧ Below w.heap.size w w' := by
  obtain ⟨m, hmin⟩ : ∃ m, m = min n 60 := ⟨_, rfl⟩
  obtain ⟨lf, hlf⟩ : ∃ lf, lf = l.take m := ⟨_, rfl⟩
  have hlm : m = lf.length := by rw [hlf, List.length_take]; omega
  have hSf : Smps w.heap.size w A lf := by rw [hlf]; exact hA.take m
  have h0 := fun W => sfew_any A n c m W hcap hm hmin hcn
  have hcm : A = none → m = 0 ∧ c = 0 := fun h => by have := hcn h; omega
  have hm60 : m ≤ 60 := by omega
  have h1 := fun (W : World) (h : Below w.heap.size w W) => sclone_any A m c lf W hlm (by omega) (hSf.on h) hcm
  have h2 := fun (W : World) (h : Below w.heap.size w W) => norm_any A m c lf W hlm hm60 (hSf.on h)
  have h3 := fun (W : World) (h : Below w.heap.size w W) => rnorm_any A m c lf W hlm hm60 (hSf.on h)
  have h4 := fun (W : World) (h : Below w.heap.size w W) => total_any A m c lf W hlm hm60 (hSf.on h)
  have h5 := fun (W : World) (h : Below w.heap.size w W) => rtotal_any A m c lf W hlm hm60 (hSf.on h)
  have h6 := fun (W : World) (h : Below w.heap.size w W) => alone_any A m c lf i W hlm hm60 (hSf.on h)
  have h7 := fun (W : World) (h : Below w.heap.size w W) => ralone_any A m c lf i W hlm hm60 (hSf.on h)
  have h8 := fun (W : World) (h : Below w.heap.size w W) (B : Option Addr) (c' : Nat) (hB : Smps W.heap.size W B lf) => sequal_yes A B m c c' lf W hlm (by unfold maxLen; omega) (hSf.on h) hB
  have hrl := normR_length lf
  unfold ResN at h2 h3
  generalize totalS lf = tt at *
  generalize aloneS lf i = al at *
  generalize normR lf = r at *
  obtain ⟨er, xl⟩ := r
  dsimp only at h2 h3 hrl
  have h9 := fun (W : World) (B C : Option Addr) (c' c'' : Nat) (hB : Smps W.heap.size W B xl) (hC : Smps W.heap.size W C xl) => sequal_yes B C xl.length c' c'' xl W rfl (by unfold maxLen; omega) hB hC
  have H0 := Lib.hid h0; have H1 := Lib.hid h1; have H2 := Lib.hid h2; have H3 := Lib.hid h3; have H4 := Lib.hid h4; have H5 := Lib.hid h5; have H6 := Lib.hid h6; have H7 := Lib.hid h7; have H8 := Lib.hid h8; have H9 := Lib.hid h9; have HLM := Lib.hid hlm
  clear h0 h1 h2 h3 h4 h5 h6 h7 h8 h9 hlm hlf hSf hA hn hm hcap hcn hmin hcm hrl
  have bc := Below.refl w.heap.size w
  go_enter Try.func4, Try.ntmps4
  go_wp2_with fail
  refine (H0.out _).mono ?_
  rintro e w0 ⟨rfl, rfl⟩
  dsimp only
  go_wp2_with fail
  refine (H1.out _ bc).mono ?_
  rintro e w1 ⟨v5, rfl, hrow, hC⟩
  dsimp only
  replace bc := below_then bc hC; clear hC
  obtain ⟨CA, cc, rfl, -, -, hCl⟩ := spans_of_own hrow
  rw [← HLM.out] at hrow ⊢
  clear hrow
  go_wp2_with fail
  refine (H2.out _ bc).mono ?_
  rintro e w2 ⟨v6, rfl, hrow, hC⟩
  dsimp only
  replace hCl := hCl.on hC; replace bc := below_then bc hC; clear hC
  obtain ⟨XA, xc, rfl, -, -, hX⟩ := spans_of_own hrow
  clear hrow
  go_wp2_with fail
  refine (H3.out _ bc).mono ?_
  rintro e w3 ⟨v7, rfl, hrow, hC⟩
  dsimp only
  replace hCl := hCl.on hC; replace hX := hX.on hC; replace bc := below_then bc hC; clear hC
  obtain ⟨YA, yc, rfl, -, -, hY⟩ := spans_of_own hrow
  clear hrow
  go_wp2_with fail
  refine (sbegun_any _).mono ?_
  rintro e w4 ⟨rfl, hC⟩
  dsimp only
  replace hCl := hCl.on hC; replace hX := hX.on hC; replace hY := hY.on hC; replace bc := below_then bc hC; clear hC
  go_wp2_with fail
  refine (H9.out _ _ _ _ _ hX hY).mono ?_
  rintro e w5 ⟨rfl, hC⟩
  dsimp only
  replace hCl := hCl.on hC; replace bc := below_then bc hC; clear hC
  go_wp2_with fail
  refine (H4.out _ bc).mono ?_
  rintro e w6 ⟨rfl, hC⟩
  dsimp only
  replace hCl := hCl.on hC; replace bc := below_then bc hC; clear hC
  go_wp2_with fail
  refine (H5.out _ bc).mono ?_
  rintro e w7 ⟨rfl, hC⟩
  dsimp only
  replace hCl := hCl.on hC; replace bc := below_then bc hC; clear hC
  go_wp2_with fail
  refine (H6.out _ bc).mono ?_
  rintro e w8 ⟨rfl, hC⟩
  dsimp only
  replace hCl := hCl.on hC; replace bc := below_then bc hC; clear hC
  go_wp2_with fail
  refine (H7.out _ bc).mono ?_
  rintro e w9 ⟨rfl, hC⟩
  dsimp only
  replace hCl := hCl.on hC; replace bc := below_then bc hC; clear hC
  go_wp2_with fail
  refine (H8.out _ bc _ _ hCl).mono ?_
  rintro e w10 ⟨rfl, hC⟩
  dsimp only
  replace bc := below_then bc hC; clear hC
  go_wp2
  go_ret
  exact ⟨rfl, bc⟩
end Go.Proofs.Ytjdhodobfkkoiaa
