/-
  The document's own Parse of layer 7, where bytes are too few, or of too many nodes or modes. Condition: bytes that can be read. (Printed by tools/gen07mh.py.)
-/
import Derived.Test.YtnmaelefcohogaaDoorMg
import Derived.BigQuiet
namespace Go.Proofs.YtnmaelefcohogaaDoor
open Go.RowKit

set_option maxRecDepth 100000 in
set_option maxHeartbeats 4000000 in
theorem rparse_bad (A : Option Addr) (n c : Nat) (bs : List UInt8) (w : World) (hn : n = bs.length) (hA : Byt w.heap.size w A bs) (hx : bs.length < 18 ∨ 8 < byteN bs 1 ∨ 4 < byteN bs 2 ∨ bs.length ≠ 18 + byteN bs 2 * (byteN bs 1 + 2) + 3) : Calls Tryd.prog 8 #[.slice A n c] w (PaR w bs) := by
  have hbad := not_parse hx
  rw [← hn] at hx
  obtain ⟨kr, bc⟩ := bx1 w #[.int .i64 0, .int .i64 0, .int .i64 0, .int .i64 0, .int .i64 0, .int .i64 0, .slice none 0 0, .slice none 0 0] 25
  by_cases h18 : n < 18
  · have d0 : decide ((n : Int) < 18) = true := by simp; omega
    clear hx hA hn
    go_enter Tryd.func8, Tryd.ntmps8
    go_wp2_with fail
    generalize w.alloc (.cells #[.int .i64 0, .int .i64 0, .int .i64 0, .int .i64 0, .int .i64 0, .int .i64 0, .slice none 0 0, .slice none 0 0] 25) = u0 at *
    refine wp_region_near (by kernel_rfl) (by kernel_rfl) ?_
    repeat (go_big_quiet_step (fail))
    refine wpQuiet_nil ?_
    rintro _ ⟨nw, rfl⟩
    replace kr := kr.on nw.h; replace bc := below_then bc nw.h
    generalize nw.W = u1 at *
    have hst := run_storeVar_row (P := Tryd.prog) u1 w.heap.size 25 25 _ #[.int .i64 0, .int .i64 0, .int .i64 0, .int .i64 0, .int .i64 0, .int .i64 0, .slice none 0 0, .slice none 0 0] kr infoM rfl (by simp [Value.oneCell'])
    simp [go_sem] at hst
    have hG := only_setRow u1 w.heap.size #[.int .i64 0, .int .i64 0, .int .i64 0, .int .i64 0, .int .i64 0, .int .i64 0, .slice none 0 0, .slice none 0 0]
    replace bc := Below.off bc bc.size (Nat.le_refl _) hG
    have kr2 := kr.row8 #[.int .i64 0, .int .i64 0, .int .i64 0, .int .i64 0, .int .i64 0, .int .i64 0, .slice none 0 0, .slice none 0 0]
    obtain ⟨q0, q1, q2, q3, q4, q5, q6, q7⟩ := kr2.eight
    clear hG kr kr2
    go_wp2_with fail
    refine bodyPost_ret (v := .tuple #[.agg #[.int .i64 0, .int .i64 0, .int .i64 0, .int .i64 0, .int .i64 0, .int .i64 0, .slice none 0 0, .slice none 0 0], .int .i64 71]) (by simp [results, Tryd.results8, go_sem, q0, q1, q2, q3, q4, q5, q6, q7]) rfl ?_
    exact pa_bad hbad bc
  have d0 : decide ((n : Int) < 18) = false := by simp; omega
  obtain ⟨b, off, rfl, hb, hcl⟩ := hA (by rintro rfl; simp at hn; omega)
  have c1 : ∀ m : NearW (w.alloc (.cells #[.int .i64 0, .int .i64 0, .int .i64 0, .int .i64 0, .int .i64 0, .int .i64 0, .slice none 0 0, .slice none 0 0] 25)), m.W.cell? ⟨b, off + 1, none⟩ = some (.int .u8 (byteN bs 1 : Nat)) := fun m => ((below_then bc m.h).cell (p := ⟨b, off + 1, none⟩) hb).trans (hcl 1 (by omega))
  have c2 : ∀ m : NearW (w.alloc (.cells #[.int .i64 0, .int .i64 0, .int .i64 0, .int .i64 0, .int .i64 0, .int .i64 0, .slice none 0 0, .slice none 0 0] 25)), m.W.cell? ⟨b, off + 2, none⟩ = some (.int .u8 (byteN bs 2 : Nat)) := fun m => ((below_then bc m.h).cell (p := ⟨b, off + 2, none⟩) hb).trans (hcl 2 (by omega))
  have hN : byteN bs 1 < 256 := (bs[1]?.getD 0).toNat_lt
  have hM : byteN bs 2 < 256 := (bs[2]?.getD 0).toNat_lt
  have HX := Lib.hid hx; have HBAD := Lib.hid hbad
  clear hcl hn hx hbad
  generalize byteN bs 1 = N at *
  generalize byteN bs 2 = M at *
  by_cases h8 : 8 < N
  · have d1 : decide ((8 : Int) < (N : Int)) = true := by simp; omega
    have hbad := HBAD.out
    clear HX HBAD c2
    go_enter Tryd.func8, Tryd.ntmps8
    go_wp2_with fail
    generalize w.alloc (.cells #[.int .i64 0, .int .i64 0, .int .i64 0, .int .i64 0, .int .i64 0, .int .i64 0, .slice none 0 0, .slice none 0 0] 25) = u0 at *
    refine wp_region_near (by kernel_rfl) (by kernel_rfl) ?_
    repeat (go_big_quiet_step (fail))
    refine wpQuiet_nil ?_
    rintro _ ⟨nw, rfl⟩
    replace kr := kr.on nw.h; replace bc := below_then bc nw.h
    generalize nw.W = u1 at *
    have hst := run_storeVar_row (P := Tryd.prog) u1 w.heap.size 25 25 _ #[.int .i64 0, .int .i64 0, .int .i64 0, .int .i64 0, .int .i64 0, .int .i64 0, .slice none 0 0, .slice none 0 0] kr infoM rfl (by simp [Value.oneCell'])
    simp [go_sem] at hst
    have hG := only_setRow u1 w.heap.size #[.int .i64 0, .int .i64 0, .int .i64 0, .int .i64 0, .int .i64 0, .int .i64 0, .slice none 0 0, .slice none 0 0]
    replace bc := Below.off bc bc.size (Nat.le_refl _) hG
    have kr2 := kr.row8 #[.int .i64 0, .int .i64 0, .int .i64 0, .int .i64 0, .int .i64 0, .int .i64 0, .slice none 0 0, .slice none 0 0]
    obtain ⟨q0, q1, q2, q3, q4, q5, q6, q7⟩ := kr2.eight
    clear hG kr kr2
    go_wp2_with fail
    refine bodyPost_ret (v := .tuple #[.agg #[.int .i64 0, .int .i64 0, .int .i64 0, .int .i64 0, .int .i64 0, .int .i64 0, .slice none 0 0, .slice none 0 0], .int .i64 71]) (by simp [results, Tryd.results8, go_sem, q0, q1, q2, q3, q4, q5, q6, q7]) rfl ?_
    exact pa_bad hbad bc
  have d1 : decide ((8 : Int) < (N : Int)) = false := by simp; omega
  by_cases h4 : 4 < M
  · have d2 : decide ((4 : Int) < (M : Int)) = true := by simp; omega
    have hbad := HBAD.out
    clear HX HBAD
    go_enter Tryd.func8, Tryd.ntmps8
    go_wp2_with fail
    generalize w.alloc (.cells #[.int .i64 0, .int .i64 0, .int .i64 0, .int .i64 0, .int .i64 0, .int .i64 0, .slice none 0 0, .slice none 0 0] 25) = u0 at *
    refine wp_region_near (by kernel_rfl) (by kernel_rfl) ?_
    repeat (go_big_quiet_step (fail))
    refine wpQuiet_nil ?_
    rintro _ ⟨nw, rfl⟩
    replace kr := kr.on nw.h; replace bc := below_then bc nw.h
    generalize nw.W = u1 at *
    have hst := run_storeVar_row (P := Tryd.prog) u1 w.heap.size 25 25 _ #[.int .i64 0, .int .i64 0, .int .i64 0, .int .i64 0, .int .i64 0, .int .i64 0, .slice none 0 0, .slice none 0 0] kr infoM rfl (by simp [Value.oneCell'])
    simp [go_sem] at hst
    have hG := only_setRow u1 w.heap.size #[.int .i64 0, .int .i64 0, .int .i64 0, .int .i64 0, .int .i64 0, .int .i64 0, .slice none 0 0, .slice none 0 0]
    replace bc := Below.off bc bc.size (Nat.le_refl _) hG
    have kr2 := kr.row8 #[.int .i64 0, .int .i64 0, .int .i64 0, .int .i64 0, .int .i64 0, .int .i64 0, .slice none 0 0, .slice none 0 0]
    obtain ⟨q0, q1, q2, q3, q4, q5, q6, q7⟩ := kr2.eight
    clear hG kr kr2
    go_wp2_with fail
    refine bodyPost_ret (v := .tuple #[.agg #[.int .i64 0, .int .i64 0, .int .i64 0, .int .i64 0, .int .i64 0, .int .i64 0, .slice none 0 0, .slice none 0 0], .int .i64 71]) (by simp [results, Tryd.results8, go_sem, q0, q1, q2, q3, q4, q5, q6, q7]) rfl ?_
    exact pa_bad hbad bc
  have d2 : decide ((4 : Int) < (M : Int)) = false := by simp; omega
  have hMN : M * (N + 2) ≤ 255 * 257 := Nat.mul_le_mul (by omega) (by omega)
  have e1 : IntKind.i64.wrap (N : Int) = (N : Int) := IntWalk.i64_in _ (by omega)
  have e2 : IntKind.i64.wrap (M : Int) = (M : Int) := IntWalk.i64_in _ (by omega)
  have e3 : IntKind.i64.wrap ((N : Int) + 2) = (N : Int) + 2 := IntWalk.i64_in _ (by omega)
  have e0 : (M : Int) * ((N : Int) + 2) = ((M * (N + 2) : Nat) : Int) := by simp
  obtain ⟨Q, hQ⟩ : ∃ Q, Q = M * (N + 2) := ⟨_, rfl⟩
  have hne := HX.out
  rw [← hQ] at e0 hne hMN
  have e4 : IntKind.i64.wrap ((M : Int) * ((N : Int) + 2)) = (Q : Int) := by rw [e0]; exact IntWalk.i64_in _ (by omega)
  have e5 : IntKind.i64.wrap (Q : Int) = (Q : Int) := IntWalk.i64_in _ (by omega)
  have e6 : IntKind.i64.wrap (18 + (Q : Int)) = 18 + (Q : Int) := IntWalk.i64_in _ (by omega)
  have e7 : IntKind.i64.wrap (18 + (Q : Int) + 3) = 18 + (Q : Int) + 3 := IntWalk.i64_in _ (by omega)
  have hres : ((n : Int) == 18 + (Q : Int) + 3) = false := by
    rw [beq_eq_false_iff_ne]
    omega
  have hbad := HBAD.out
  clear hQ e0 hne HX HBAD
  go_enter Tryd.func8, Tryd.ntmps8
  go_wp2_with fail
  generalize w.alloc (.cells #[.int .i64 0, .int .i64 0, .int .i64 0, .int .i64 0, .int .i64 0, .int .i64 0, .slice none 0 0, .slice none 0 0] 25) = u0 at *
  refine wp_region_near (by kernel_rfl) (by kernel_rfl) ?_
  repeat (go_big_quiet_step (fail))
  refine wpQuiet_nil ?_
  rintro _ ⟨nw, rfl⟩
  replace kr := kr.on nw.h; replace bc := below_then bc nw.h
  generalize nw.W = u1 at *
  have hst := run_storeVar_row (P := Tryd.prog) u1 w.heap.size 25 25 _ #[.int .i64 0, .int .i64 0, .int .i64 0, .int .i64 0, .int .i64 0, .int .i64 0, .slice none 0 0, .slice none 0 0] kr infoM rfl (by simp [Value.oneCell'])
  simp [go_sem] at hst
  have hG := only_setRow u1 w.heap.size #[.int .i64 0, .int .i64 0, .int .i64 0, .int .i64 0, .int .i64 0, .int .i64 0, .slice none 0 0, .slice none 0 0]
  replace bc := Below.off bc bc.size (Nat.le_refl _) hG
  have kr2 := kr.row8 #[.int .i64 0, .int .i64 0, .int .i64 0, .int .i64 0, .int .i64 0, .int .i64 0, .slice none 0 0, .slice none 0 0]
  obtain ⟨q0, q1, q2, q3, q4, q5, q6, q7⟩ := kr2.eight
  clear hG kr kr2
  go_wp2_with fail
  refine bodyPost_ret (v := .tuple #[.agg #[.int .i64 0, .int .i64 0, .int .i64 0, .int .i64 0, .int .i64 0, .int .i64 0, .slice none 0 0, .slice none 0 0], .int .i64 71]) (by simp [results, Tryd.results8, go_sem, q0, q1, q2, q3, q4, q5, q6, q7]) rfl ?_
  exact pa_bad hbad bc
end Go.Proofs.YtnmaelefcohogaaDoor
