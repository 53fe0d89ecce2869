/-
  Encode of package frame answers as the document says, for every frame. Conditions: that the bytes can be read, and that the program's tables hold what its text lays.
-/
import Derived.Test.YtcfbeelljhjnoaaDoorN9
namespace Go.Proofs.YtcfbeelljhjnoaaDoor
open Go.RowKit

set_option maxRecDepth 8000 in
set_option maxHeartbeats 2000000 in
theorem encode_not (f : FR) (A : Option Addr) (n c : Nat) (w : World) (hn : n = f.ds.length) (hm : ¬ mayF f = true) :
    Calls Tryd.prog 8 #[.agg (f.cells A n c)] w (ResV w (50, [])) := by
  have hck := fun (W : World) => checkF_any f A n c W hn
  rw [checkF_no (fun h => hm h)] at hck
  obtain ⟨K, R, ⟨T, P, Mo, Nx, Me⟩, F, ds⟩ := f
  unfold FR.cells at *
  dsimp only at hck ⊢
  have HCK := Lib.hid hck
  clear hck hm hn
  obtain ⟨kf, kr, bc⟩ := bx2 w #[.int .i64 K, .int .i64 R, .int .i64 T, .int .i64 P, .int .i64 Mo, .int .i64 Nx, .int .i64 Me, .int .i64 F, .slice A n c] #[.int .i64 0, .slice none 0 0] 26 28
  go_enter Tryd.func8, Tryd.ntmps8
  go_wp2_with fail
  generalize (w.alloc (.cells #[.int .i64 K, .int .i64 R, .int .i64 T, .int .i64 P, .int .i64 Mo, .int .i64 Nx, .int .i64 Me, .int .i64 F, .slice A n c] 26)).alloc (.cells #[.int .i64 0, .slice none 0 0] 28) = u1 at *
  refine (HCK.out _).mono ?_
  rintro e w1 ⟨rfl, hC⟩
  dsimp only
  replace kf := kf.on hC; replace kr := kr.on hC; replace bc := bc.trans (hC.mono bc.size); clear hC
  obtain ⟨ykr_0, ykr_1, ykr_0f, ykr_1f⟩ := kr.two
  have hG := st2 w1 (w.heap.size + 1) (.int .i64 0) (.slice none 0 0)
  replace kf := kf.grown hG (some_ne (by omega)); replace bc := Below.off bc bc.size (by omega) hG; replace kr := kr.put2 (.int .i64 0) (.slice none 0 0); clear hG
  go_wp2
  exact bodyPost_ret (v := .tuple #[.agg #[.int .i64 0, .slice none 0 0], .int .i64 50]) (by simp [results, Tryd.results8, go_sem, ykr_0, ykr_1]) rfl ⟨none, 0, 0, rfl, Bv.nil _, bc⟩
theorem encode_any (f : FR) (A : Option Addr) (n c : Nat) (w : World) (hn : n = f.ds.length) (hA : Byt w.heap.size w A f.ds) (hT : Tab w) (hW : WTab w) :
    Calls Tryd.prog 8 #[.agg (f.cells A n c)] w (ResV w (encF f)) := by
  by_cases hm : mayF f = true
  · have he : encF f = (0, bitsF f) := if_pos hm
    rw [he]
    obtain ⟨h1, h4, -⟩ := (mayF_iff f).1 hm
    obtain ⟨K, R, ⟨T, P, Mo, Nx, Me⟩, F, ds⟩ := f
    dsimp only at h1 h4 hn hA
    rcases (show K = 1 ∨ K = 2 ∨ K = 3 ∨ K = 4 by omega) with rfl | rfl | rfl | rfl
    · exact encode_1 R T P Mo Nx Me F ds A n c w hn hA hm hT hW
    · exact encode_2 R T P Mo Nx Me F ds A n c w hn hA hm hT hW
    · exact encode_3 R T P Mo Nx Me F ds A n c w hn hA hm hT hW
    · exact encode_4 R T P Mo Nx Me F ds A n c w hn hA hm hT hW
  · have he : encF f = (50, []) := if_neg hm
    rw [he]
    exact encode_not f A n c w hn hm
end Go.Proofs.YtcfbeelljhjnoaaDoor
