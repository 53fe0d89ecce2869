/-
  FtaTogether returns true for every input, and its arguments read afterwards as they read before: clocks come together. No condition.
-/
import Derived.Test.YtfncccjiiipfoaaFK
import Derived.Test.YtfncccjiiipfoaaFY
namespace Go.Proofs.Ytfncccjiiipfoaa.Together
open Go.ChangeShapes Go.WideShapes Go.ChangeAt Go.RowKit Go.Joins

set_option maxRecDepth 100000 in
theorem lifted (os : Os) (started : os.Started) (H : Type) (enc : TypeId × Value → H) :
    ReturnsInHanded {} Try.checked os 7 .any (Rows.ftaTogetherSpec.pre6 enc Try.prog Try.f7 Rows.ftaTogetherRow.domain false) (Rows.ftaTogetherSpec.post enc Try.prog Try.f7 false true false false) := by
  refine returnsInHanded_of_change (C := Try.checked) Try.own started (by kernel_rfl) Try.func7
    (ChangeSpec.witness6 (enc := enc) (C := Try.checked) false ⟨#[], #[.slice none 0 0, .slice none 0 0], []⟩ 8 (by kernel_rfl) (by kernel_rfl) (by kernel_rfl) (by kernel_rfl)) ?_
  intro W base args ds gs before hval0 hW _ _
  have hval : ∀ (j : Nat) t v, Try.f7.params[j]? = some t → args[j]? = some v → Value.okWide Try.prog W .any base t v := hval0
  have hW' := hW
  obtain ⟨p, q, hA0, hV, rfl, hfz, hnd⟩ := hW
  have hA : DataW.TrodAll enc Try.prog W 0 (fun _ => true) true Try.f7.params.toList args.toList ds p := hA0
  rw [Try.params7] at hA hval
  obtain ⟨v0, vs0, d0, ds0, p0, q0, hargs, rfl, rfl, h0, r0⟩ := trodAll_cons hA
  obtain ⟨v1, vs1, d1, ds1, p1, q1, rfl, rfl, rfl, h1, r1⟩ := trodAll_cons r0
  obtain ⟨rfl, rfl, rfl⟩ := trodAll_nil r1
  obtain rfl : args = #[v0, v1] := by cases args; simp_all
  obtain ⟨rfl, rfl⟩ := trodVars_none hV
  have k0 := h0
  have lt0 : ∀ x ∈ p0, x.block < W.heap.size := by obtain ⟨m, hm⟩ := k0; exact DataW.trod_lt m _ _ _ hm
  have k1 := h1
  have lt1 : ∀ x ∈ p1, x.block < W.heap.size := by obtain ⟨m, hm⟩ := k1; exact DataW.trod_lt m _ _ _ hm
  obtain ⟨A, n, c, l, rfl, hn0, hm0, hcap0, hcn0, hI0⟩ : ∃ (A : Option Addr) (n c : Nat) (l : List Int), v0 = .slice A n c ∧ n = l.length ∧ n ≤ maxLen ∧ n ≤ c ∧ (A = none → n = 0 ∧ c = 0) ∧ Ints W.heap.size W A l := by
    obtain ⟨m, hf⟩ := h0
    obtain ⟨A', n', c', he⟩ := okWide_slice Try.underlying22 (hval 0 22 v0 rfl rfl)
    subst he
    exact open_js (by simpa [Value.cells] using hf)
  obtain ⟨X, xn, xc, rs, rfl, hn1, hm1, hI1⟩ : ∃ (A : Option Addr) (n c : Nat) (l : List RJ), v1 = .slice A n c ∧ n = l.length ∧ n ≤ maxLen ∧ RowsJ W.heap.size W A l := by
    obtain ⟨m, hf⟩ := h1
    obtain ⟨A', n', c', he⟩ := okWide_slice Try.underlying36 (hval 1 36 v1 rfl rfl)
    subst he
    exact open_rowsJ (by simpa [Value.cells] using hf)
  clear hA0 hval0
  refine (together_law A X n c xn xc l rs W hn0 hm0 hI0 hn1 hm1 hI1).mono fun e W' ⟨he, bel⟩ => ?_
  subst he
  exact ⟨_, rfl, _, _, _, [], _, [], hW', trodAll_mk1 (shut_bool Try.underlying4 _), (trodAll_cons_mk (Below.trod Try.laidOut (by kernel_rfl) (of_decide_eq_true (by kernel_rfl)) k0 bel lt0) (trodAll_cons_mk (Below.trod Try.laidOut (by kernel_rfl) (of_decide_eq_true (by kernel_rfl)) k1 bel lt1) trodAll_mk0)), rfl, bel.frame _, fun h => by cases h⟩

theorem over : Rows.ftaTogetherRow.holds Try.pinned (OpenSpec.ofChange Rows.ftaTogetherSpec) :=
  OpenClaim.holds_of_wide 7 Try.f7 rfl rfl rfl rfl rfl rfl rfl ⟨rfl, rfl, rfl, rfl, rfl⟩ rfl rfl rfl rfl rfl (by kernel_rfl) Try.func7 (by kernel_rfl)
    (of_decide_eq_true (by kernel_rfl)) (by unfold Func.isWrapper; first | (rw [if_pos (by decide +kernel)]; kernel_rfl) | (rw [if_neg (by decide +kernel)]; exact ⟨rfl, rfl⟩))
    (fun os started H enc _ => lifted os started H enc)
end Go.Proofs.Ytfncccjiiipfoaa.Together

namespace Go.Proofs.Ytfncccjiiipfoaa
theorem ftaTogether_holds : Rows.FtaTogetherSaid := Together.over
#print axioms ftaTogether_holds
end Go.Proofs.Ytfncccjiiipfoaa
