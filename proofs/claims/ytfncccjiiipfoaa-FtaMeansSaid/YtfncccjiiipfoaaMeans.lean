/-
  FtaMeans returns true for every input, and its arguments read afterwards as they read before: the mean of any numbers, what is kept of them, and how far they are apart, are the document's. No condition.
-/
import Derived.Test.YtfncccjiiipfoaaFK
import Derived.Test.YtfncccjiiipfoaaFI
namespace Go.Proofs.Ytfncccjiiipfoaa.Means
open Go.ChangeShapes Go.WideShapes Go.ChangeAt Go.RowKit Go.Joins

set_option maxRecDepth 100000 in
theorem lifted (os : Os) (started : os.Started) (H : Type) (enc : TypeId × Value → H) :
    ReturnsInHanded {} Try.checked os 3 .any (Rows.ftaMeansSpec.pre6 enc Try.prog Try.f3 Rows.ftaMeansRow.domain false) (Rows.ftaMeansSpec.post enc Try.prog Try.f3 false true false false) := by
  refine returnsInHanded_of_change (C := Try.checked) Try.own started (by kernel_rfl) Try.func3
    (ChangeSpec.witness6 (enc := enc) (C := Try.checked) false ⟨#[], #[.slice none 0 0], []⟩ 8 (by kernel_rfl) (by kernel_rfl) (by kernel_rfl) (by kernel_rfl)) ?_
  intro W base args ds gs before hval0 hW _ _
  have hval : ∀ (j : Nat) t v, Try.f3.params[j]? = some t → args[j]? = some v → Value.okWide Try.prog W .any base t v := hval0
  have hW' := hW
  obtain ⟨p, q, hA0, hV, rfl, hfz, hnd⟩ := hW
  have hA : DataW.TrodAll enc Try.prog W 0 (fun _ => true) true Try.f3.params.toList args.toList ds p := hA0
  rw [Try.params3] at hA hval
  obtain ⟨v0, vs0, d0, ds0, p0, q0, hargs, rfl, rfl, h0, r0⟩ := trodAll_cons hA
  obtain ⟨rfl, rfl, rfl⟩ := trodAll_nil r0
  obtain rfl : args = #[v0] := by cases args; simp_all
  obtain ⟨rfl, rfl⟩ := trodVars_none hV
  have k0 := h0
  have lt0 : ∀ x ∈ p0, x.block < W.heap.size := by obtain ⟨m, hm⟩ := k0; exact DataW.trod_lt m _ _ _ hm
  obtain ⟨A, n, c, l, rfl, hn0, hm0, hcap0, hcn0, hI0⟩ : ∃ (A : Option Addr) (n c : Nat) (l : List Int), v0 = .slice A n c ∧ n = l.length ∧ n ≤ maxLen ∧ n ≤ c ∧ (A = none → n = 0 ∧ c = 0) ∧ Ints W.heap.size W A l := by
    obtain ⟨m, hf⟩ := h0
    obtain ⟨A', n', c', he⟩ := okWide_slice Try.underlying22 (hval 0 22 v0 rfl rfl)
    subst he
    exact open_js (by simpa [Value.cells] using hf)
  clear hA0 hval0
  refine (means_law A n c l W hn0 hm0 hcap0 hcn0 hI0).mono fun e W' ⟨he, bel⟩ => ?_
  subst he
  exact ⟨_, rfl, _, _, _, [], _, [], hW', trodAll_mk1 (shut_bool Try.underlying4 _), (trodAll_cons_mk (Below.trod Try.laidOut (by kernel_rfl) (of_decide_eq_true (by kernel_rfl)) k0 bel lt0) trodAll_mk0), rfl, bel.frame _, fun h => by cases h⟩

theorem over : Rows.ftaMeansRow.holds Try.pinned (OpenSpec.ofChange Rows.ftaMeansSpec) :=
  OpenClaim.holds_of_wide 3 Try.f3 rfl rfl rfl rfl rfl rfl rfl ⟨rfl, rfl, rfl, rfl, rfl⟩ rfl rfl rfl rfl rfl (by kernel_rfl) Try.func3 (by kernel_rfl)
    (of_decide_eq_true (by kernel_rfl)) (by unfold Func.isWrapper; first | (rw [if_pos (by decide +kernel)]; kernel_rfl) | (rw [if_neg (by decide +kernel)]; exact ⟨rfl, rfl⟩))
    (fun os started H enc _ => lifted os started H enc)
end Go.Proofs.Ytfncccjiiipfoaa.Means

namespace Go.Proofs.Ytfncccjiiipfoaa
theorem ftaMeans_holds : Rows.FtaMeansSaid := Means.over
#print axioms ftaMeans_holds
end Go.Proofs.Ytfncccjiiipfoaa
