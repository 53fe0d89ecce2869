/-
  kindOf, airOf and MaxAir of package medl. Conditions: those that each theorem names.
-/
import Derived.Test.YtlkmipcenlhacaaMC
namespace Go.Proofs.Ytlkmipcenlhacaa
open Go.RowKit

theorem near_eight {w0 : World} {g : Nat} {t : TypeId} {a b c d e f k l : Value} (h : Blk w0 g t #[a, b, c, d, e, f, k, l]) :
    (∀ n : NearW w0, n.W.cell? ⟨g, 0, none⟩ = some a) ∧ (∀ n : NearW w0, n.W.cell? ⟨g, 1, none⟩ = some b) ∧ (∀ n : NearW w0, n.W.cell? ⟨g, 2, none⟩ = some c) ∧ (∀ n : NearW w0, n.W.cell? ⟨g, 3, none⟩ = some d) ∧
    (∀ n : NearW w0, n.W.cell? ⟨g, 4, none⟩ = some e) ∧ (∀ n : NearW w0, n.W.cell? ⟨g, 5, none⟩ = some f) ∧ (∀ n : NearW w0, n.W.cell? ⟨g, 6, none⟩ = some k) ∧ (∀ n : NearW w0, n.W.cell? ⟨g, 7, none⟩ = some l) :=
  ⟨fun n => (h.below n.h h.lt).eight.1, fun n => (h.below n.h h.lt).eight.2.1, fun n => (h.below n.h h.lt).eight.2.2.1, fun n => (h.below n.h h.lt).eight.2.2.2.1, fun n => (h.below n.h h.lt).eight.2.2.2.2.1, fun n => (h.below n.h h.lt).eight.2.2.2.2.2.1, fun n => (h.below n.h h.lt).eight.2.2.2.2.2.2.1, fun n => (h.below n.h h.lt).eight.2.2.2.2.2.2.2⟩
theorem near_cell {w0 : World} {b off : Nat} {v : Value} (hb : b < w0.heap.size) (h : w0.cell? ⟨b, off, none⟩ = some v) : ∀ n : NearW w0, n.W.cell? ⟨b, off, none⟩ = some v := fun n => (n.h.cell (p := ⟨b, off, none⟩) hb).trans h

set_option maxRecDepth 8000 in
set_option maxHeartbeats 1000000 in
theorem kindOf_any (o : Md) (v : MdV) (k : Nat) (w : World) (hv : MdOk w.heap.size w o v) (hd : k < o.d.length) (hx : k < o.x.length) (h0 : 0 ≤ o.d[k]?.getD 0) :
    Calls Try.prog 77 #[vO v, .int .i64 k] w fun e w' => e = .returned (.int .i64 (kindS (o.x[k]?.getD false) (o.d[k]?.getD 0))) ∧ Below w.heap.size w w' := by
  obtain ⟨⟨Ad, nd, cd⟩, ⟨Ax, nx, cx⟩, ⟨An, nn, cn⟩⟩ := v
  have hnd : k < nd := by have := hv.dn; dsimp only at this; omega
  have hnx : k < nx := by have := hv.xn; dsimp only at this; omega
  have hmd : nd ≤ maxLen := hv.dm
  have hmx : nx ≤ maxLen := hv.xm
  unfold maxLen at hmd hmx
  obtain ⟨b, off, e1, hb, hc1⟩ := hv.d.at_ (k := k) hd
  obtain ⟨b2, off2, e2, hb2, hc2⟩ := hv.x.at_ (k := k) hx
  dsimp only at e1 e2
  subst e1; subst e2
  obtain ⟨kb, bc⟩ := bx1 w (cO ⟨⟨some ⟨b, off, none⟩, nd, cd⟩, ⟨some ⟨b2, off2, none⟩, nx, cx⟩, ⟨An, nn, cn⟩⟩) 71
  replace hc1 := (bc.cell (p := ⟨b, off + k, none⟩) hb).trans hc1
  replace hc2 := (bc.cell (p := ⟨b2, off2 + k, none⟩) hb2).trans hc2
  clear hv hd hx
  generalize o.d[k]?.getD 0 = d at *
  generalize o.x[k]?.getD false = x at *
  dsimp only [vO, cO] at *
  cases x with
  | false =>
    go_enter Try.func77, Try.ntmps77
    go_wp2
    go_ret
    exact ⟨rfl, bc⟩
  | true =>
    by_cases hz : d = 0
    · subst hz
      go_enter Try.func77, Try.ntmps77
      go_wp2
      go_ret
      exact ⟨rfl, bc⟩
    · have hne : (d != 0) = true := by simpa using hz
      have hr : kindS true d = 4 := by unfold kindS; rw [if_pos rfl, if_pos (by omega)]
      rw [hr]; clear hr hz
      go_enter Try.func77, Try.ntmps77
      go_wp2
      go_ret
      exact ⟨rfl, bc⟩

set_option maxRecDepth 8000 in
set_option maxHeartbeats 1000000 in
theorem airOf_any (o : Md) (v : MdV) (k : Nat) (w : World) (hv : MdOk w.heap.size w o v) (hd : k < o.d.length) (hx : k < o.x.length) (h0 : 0 ≤ o.d[k]?.getD 0) :
    Calls Try.prog 72 #[vO v, .int .i64 k] w fun e w' => e = .returned (.int .i64 (airAt (o.x[k]?.getD false) (o.d[k]?.getD 0))) ∧ Below w.heap.size w w' := by
  have hK := fun W (h : Below w.heap.size w W) => kindOf_any o v k W (hv.on h) hd hx h0
  obtain ⟨⟨Ad, nd, cd⟩, ⟨Ax, nx, cx⟩, ⟨An, nn, cn⟩⟩ := v
  have hnd : k < nd := by have := hv.dn; dsimp only at this; omega
  have hmd : nd ≤ maxLen := hv.dm
  unfold maxLen at hmd
  obtain ⟨b, off, e1, hb, hc1⟩ := hv.d.at_ (k := k) hd
  dsimp only at e1
  subst e1
  obtain ⟨kb, bc⟩ := bx1 w (cO ⟨⟨some ⟨b, off, none⟩, nd, cd⟩, ⟨Ax, nx, cx⟩, ⟨An, nn, cn⟩⟩) 71
  replace hc1 := (bc.cell (p := ⟨b, off + k, none⟩) hb).trans hc1
  clear hv hd hx h0
  generalize o.d[k]?.getD 0 = d at *
  generalize o.x[k]?.getD false = x at *
  dsimp only [vO, cO] at *
  have HK := Lib.hid hK; clear hK
  unfold airAt
  have hS := fun (n : NearW (w.alloc (.cells #[.slice (some ⟨b, off, none⟩) nd cd, .slice Ax nx cx, .slice An nn cn] 71))) => near_call (n := n) (size_any (kindS x d) d n.W)
  generalize hkk : kindS x d = kk at *
  have hAi := fun W => air_any (sizeF kk d) W
  generalize sizeF kk d = sz at *
  have HS := Lib.hid hS; have HAI := Lib.hid hAi; clear hS hAi hkk
  obtain ⟨near0, near1, near2⟩ := near_three kb
  have nc := near_cell (off := off + k) (Nat.lt_of_lt_of_le hb bc.size) hc1
  clear hc1
  go_enter Try.func72, Try.ntmps72
  go_wp2_with fail
  refine wp_region_near (by kernel_rfl) (by kernel_rfl) ?_
  have BC := Lib.hid bc; clear bc kb
  repeat (go_big_quiet_step (first
    | (go_at_call 77; exact near_call (HK.out _ (below_then BC.out (NearW.h _))))
    | (go_at_call 71; exact HS.out _)
    | (go_at_call 70; exact near_call ((HAI.out _).mono fun e w' h => ⟨h.1, h.2 ▸ Below.refl _ _⟩))))
  refine wpQuiet_nil ?_
  rintro _ ⟨nw, rfl⟩
  go_wp2
  go_ret
  exact ⟨rfl, below_then BC.out nw.h⟩
end Go.Proofs.Ytlkmipcenlhacaa
