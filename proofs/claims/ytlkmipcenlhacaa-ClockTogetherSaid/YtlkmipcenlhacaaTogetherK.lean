/-
  ClockTogether returns true for every input, and its arguments read afterwards as they read before: clocks that are no further apart than the precision at a round's beginning, of which each sees each other's frame, are no further apart than 6 * Nodes * Drift and 2 at the next one's, whatever the drifts are. No condition.
-/
import Derived.Test.YtlkmipcenlhacaaMX
import Derived.Test.YtlkmipcenlhacaaLX
import Derived.Test.YtlkmipcenlhacaaLV
import Derived.Test.YtlkmipcenlhacaaLO
namespace Go.Proofs.Ytlkmipcenlhacaa.TogetherK
open Go.ChangeShapes Go.WideShapes Go.ChangeAt Go.RowKit Go.Joins

set_option maxRecDepth 100000 in
theorem lifted (os : Os) (started : os.Started) (H : Type) (enc : TypeId × Value → H) :
    ReturnsInHanded {} Try.checked os 7 .any (Rows.clockTogetherSpec.pre6 enc Try.prog Try.f7 Rows.clockTogetherRow.domain false) (Rows.clockTogetherSpec.post enc Try.prog Try.f7 false true false false) := by
  refine returnsInHanded_of_change (C := Try.checked) Try.own started (by kernel_rfl) Try.func7
    (ChangeSpec.witness6 (enc := enc) (C := Try.checked) false ⟨#[], #[.agg #[.int .i64 0, .int .i64 0, .int .i64 0, .int .i64 0, .int .i64 0, .int .i64 0, .slice none 0 0, .slice none 0 0], .int .i64 0, .slice none 0 0, .slice none 0 0], []⟩ 8 (by kernel_rfl) (by kernel_rfl) (by kernel_rfl) (by kernel_rfl)) ?_
  intro W base args ds gs before hval0 hW _ _
  have hval : ∀ (j : Nat) t v, Try.f7.params[j]? = some t → args[j]? = some v → Value.okWide Try.prog W .any base t v := hval0
  have hW' := hW
  obtain ⟨p, q, hA0, hV, rfl, hfz, hnd⟩ := hW
  have hA : DataW.TrodAll enc Try.prog W 0 (fun _ => true) true Try.f7.params.toList args.toList ds p := hA0
  rw [Try.params7] at hA hval
  obtain ⟨v0, vs0, d0, ds0, p0, q0, hargs, rfl, rfl, h0, r0⟩ := trodAll_cons hA
  obtain ⟨v1, vs1, d1, ds1, p1, q1, rfl, rfl, rfl, h1, r1⟩ := trodAll_cons r0
  obtain ⟨v2, vs2, d2, ds2, p2, q2, rfl, rfl, rfl, h2, r2⟩ := trodAll_cons r1
  obtain ⟨v3, vs3, d3, ds3, p3, q3, rfl, rfl, rfl, h3, r3⟩ := trodAll_cons r2
  obtain ⟨rfl, rfl, rfl⟩ := trodAll_nil r3
  obtain rfl : args = #[v0, v1, v2, v3] := by cases args; simp_all
  obtain ⟨rfl, rfl⟩ := trodVars_none hV
  have k0 := h0
  have lt0 : ∀ x ∈ p0, x.block < W.heap.size := by obtain ⟨m, hm⟩ := k0; exact DataW.trod_lt m _ _ _ hm
  obtain ⟨m0, c0, s0, rfl, hM0⟩ := open_medl (hval 0 25 v0 rfl rfl) h0
  obtain ⟨a1, rfl, rfl, rfl, w1⟩ := open_int Try.underlying2 (hval 1 2 v1 rfl rfl) h1
  have k2 := h2
  have lt2 : ∀ x ∈ p2, x.block < W.heap.size := by obtain ⟨m, hm⟩ := k2; exact DataW.trod_lt m _ _ _ hm
  obtain ⟨y2, zs2, rfl, hn2, hm2, hI2, hz2⟩ : ∃ (y : Slc) (zs : List Int), v2 = .slice y.A y.n y.c ∧ y.n = zs.length ∧ y.n ≤ maxLen ∧ Smalls .u16 W.heap.size W y.A zs ∧ ∀ j, j < zs.length → 0 ≤ nth zs j ∧ nth zs j ≤ 65535 := by
    obtain ⟨m, hf⟩ := h2
    obtain ⟨A', n', c', he⟩ := okWide_slice Try.underlying52 (hval 2 52 v2 rfl rfl)
    subst he
    exact open_u16K (by simpa [Value.cells] using hf)
  have k3 := h3
  have lt3 : ∀ x ∈ p3, x.block < W.heap.size := by obtain ⟨m, hm⟩ := k3; exact DataW.trod_lt m _ _ _ hm
  obtain ⟨y3, zs3, rfl, hn3, hm3, hI3, hz3⟩ : ∃ (y : Slc) (zs : List Int), v3 = .slice y.A y.n y.c ∧ y.n = zs.length ∧ y.n ≤ maxLen ∧ Smalls .i8 W.heap.size W y.A zs ∧ ∀ j, j < zs.length → -128 ≤ nth zs j ∧ nth zs j ≤ 127 := by
    obtain ⟨m, hf⟩ := h3
    obtain ⟨A', n', c', he⟩ := okWide_slice Try.underlying53 (hval 3 53 v3 rfl rfl)
    subst he
    exact open_i8K (by simpa [Value.cells] using hf)
  clear hA0 hval0
  refine (together_law send13 window13 correct13 see13 next13 m0 c0 s0 a1 y2 zs2 y3 zs3 W hM0 hI2 hn2 hm2 hz2 hI3 hn3 hm3 hz3).mono fun e W' ⟨he, bel⟩ => ?_
  subst he
  exact ⟨_, rfl, _, _, _, [], _, [], hW', trodAll_mk1 (shut_bool Try.underlying4 _), (trodAll_cons_mk (Below.trod Try.laidOut (by kernel_rfl) (of_decide_eq_true (by kernel_rfl)) k0 bel lt0) (trodAll_cons_mk (shut_int Try.underlying2 w1) (trodAll_cons_mk (Below.trod Try.laidOut (by kernel_rfl) (of_decide_eq_true (by kernel_rfl)) k2 bel lt2) (trodAll_cons_mk (Below.trod Try.laidOut (by kernel_rfl) (of_decide_eq_true (by kernel_rfl)) k3 bel lt3) trodAll_mk0)))), rfl, bel.frame _, fun h => by cases h⟩

theorem over : Rows.clockTogetherRow.holds Try.pinned (OpenSpec.ofChange Rows.clockTogetherSpec) :=
  OpenClaim.holds_of_wide 7 Try.f7 rfl rfl rfl rfl rfl rfl rfl ⟨rfl, rfl, rfl, rfl, rfl⟩ rfl rfl rfl rfl rfl (by kernel_rfl) Try.func7 (by kernel_rfl)
    (of_decide_eq_true (by kernel_rfl)) (by unfold Func.isWrapper; first | (rw [if_pos (by decide +kernel)]; kernel_rfl) | (rw [if_neg (by decide +kernel)]; exact ⟨rfl, rfl⟩))
    (fun os started H enc _ => lifted os started H enc)
end Go.Proofs.Ytlkmipcenlhacaa.TogetherK

namespace Go.Proofs.Ytlkmipcenlhacaa
theorem clockTogether_holds : Rows.ClockTogetherSaid := TogetherK.over
#print axioms clockTogether_holds
end Go.Proofs.Ytlkmipcenlhacaa
