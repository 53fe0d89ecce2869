/-
  begun of the statements of layer 7: the smallest list of four nodes. No condition.
-/
import Derived.Test.YtnmaelefcohogaaDoorML
namespace Go.Proofs.YtnmaelefcohogaaDoor
open Go.RowKit

def smallM : ML := ⟨4, 138, 38, 16, 0, 1, [true, true, true, true], plainB 4⟩
theorem plain_small : plainM 4 0 = smallM := by
  have h : maxAirS 4 (plainB 4) = 62 := by decide
  have hG : plainG 4 0 = 38 := by decide
  have hW : plainW 4 0 = 16 := by decide
  unfold plainM
  rw [show ((4 : Nat) : Int) = 4 from rfl, h, hG, hW]
  rfl
theorem small_ok : okM smallM := by decide
theorem small_air : maxAirS smallM.N smallM.ms = 62 := by decide
set_option maxRecDepth 100000 in
set_option maxHeartbeats 4000000 in
theorem begun_any (w : World) : Calls Tryd.prog 9 #[] w fun e w' => e = .returned (.bool true) ∧ Below w.heap.size w w' := by
  have hp := plain_good 4 0 w (by decide) (by decide) (by decide) (by decide)
  rw [plain_small, show ((4 : Nat) : Int) = 4 from rfl] at hp
  have hck := fun c s W h => mcheck_any smallM c s W h
  rw [checkM_yes small_ok] at hck
  have hbo := fun c s W h => bound_any smallM c s W h
  have hb : boundM smallM = (0, 160) := by unfold boundM; rw [if_pos (checkM_yes small_ok)]; rfl
  rw [hb] at hbo
  have hma := fun c s W h => maxAir_any smallM c s W h
  rw [small_air] at hma
  have hshow : ∀ c s W, Med W smallM c s → Med W ⟨4, 138, 38, 16, 0, 1, [true, true, true, true], plainB 4⟩ c s := fun _ _ _ h => h
  unfold Pr at hbo
  dsimp only [smallM, vM] at hp hck hbo hma
  have HP := Lib.hid hp; have HCK := Lib.hid hck; have HBO := Lib.hid hbo; have HMA := Lib.hid hma
  clear hp hck hbo hma hb hshow
  go_enter Tryd.func9, Tryd.ntmps9
  go_wp2_with fail
  refine HP.out.mono ?_
  rintro e w1 ⟨⟨Ac, nc, cc⟩, ⟨As, ns, cs⟩, rfl, hM, hC⟩
  dsimp only at hM ⊢
  obtain ⟨kb, bx⟩ := bx1 w1 #[.int .i64 4, .int .i64 138, .int .i64 38, .int .i64 16, .int .i64 0, .int .i64 1, .slice Ac nc cc, .slice As ns cs] 25
  replace hM := hM.on bx
  have bc := hC.trans (bx.mono hC.size)
  clear bx hC HP
  have hb1 := HBO.out ⟨Ac, nc, cc⟩ ⟨As, ns, cs⟩ _ hM
  have hck1 := fun W h => HCK.out ⟨Ac, nc, cc⟩ ⟨As, ns, cs⟩ W h
  have hma1 := fun W h => HMA.out ⟨Ac, nc, cc⟩ ⟨As, ns, cs⟩ W h
  dsimp only at hb1 hck1 hma1
  replace HCK := Lib.hid hck1; replace HMA := Lib.hid hma1; clear hck1 hma1
  have HB1 := Lib.hid hb1; clear hb1 HBO
  go_wp2_with fail
  refine HB1.out.mono ?_
  rintro e w2 ⟨rfl, hC⟩
  dsimp only
  generalize w1.alloc (.cells #[.int .i64 4, .int .i64 138, .int .i64 38, .int .i64 16, .int .i64 0, .int .i64 1, .slice Ac nc cc, .slice As ns cs] 25) = u1 at *
  replace kb := kb.on hC; replace hM := hM.on hC; replace bc := bc.trans (hC.mono bc.size); clear hC HB1
  obtain ⟨n0, n1, n2, n3, n4, n5, n6, n7⟩ := near_eight kb
  have HM := Lib.hid hM; have BC := Lib.hid bc; clear kb hM bc
  go_wp2_with fail
  refine wp_region_near (by kernel_rfl) (by kernel_rfl) ?_
  repeat (go_big_quiet_step (first
    | (go_at_call 12; exact near_call (HCK.out _ (HM.out.on (NearW.h _))))
    | (go_at_call 26; exact near_call (HMA.out _ (HM.out.on (NearW.h _))))))
  refine wpQuiet_nil ?_
  rintro _ ⟨nw, rfl⟩
  go_wp2
  go_ret
  exact ⟨rfl, below_then BC.out nw.h⟩
end Go.Proofs.YtnmaelefcohogaaDoor
