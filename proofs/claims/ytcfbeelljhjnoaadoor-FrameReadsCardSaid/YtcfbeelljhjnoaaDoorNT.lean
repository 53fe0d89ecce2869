/-
  Which frames are the same: Same of package frame, and the document's. Condition: that the bytes can be read.
-/
import Derived.Test.YtcfbeelljhjnoaaDoorNS
namespace Go.Proofs.YtcfbeelljhjnoaaDoor
open Go.RowKit

set_option maxRecDepth 8000 in
set_option maxHeartbeats 4000000 in
theorem samef_any (f g : FR) (A : Option Addr) (n c : Nat) (B : Option Addr) (m d : Nat) (w : World) (hn : n = f.ds.length) (hm : m = g.ds.length) (hA : Byt w.heap.size w A f.ds) (hB : Byt w.heap.size w B g.ds) :
    Calls Tryd.prog 16 #[.agg (f.cells A n c), .agg (g.cells B m d)] w fun e w' => e = .returned (.bool (sameF f g)) ∧ Below w.heap.size w w' := by
  obtain ⟨fK, fR, ⟨fT, fP, fM, fN, fE⟩, fF, fd⟩ := f
  obtain ⟨gK, gR, ⟨gT, gP, gM, gN, gE⟩, gF, gd⟩ := g
  unfold FR.cells
  dsimp only at hn hm hA hB ⊢
  obtain ⟨kf, kg, bc⟩ := bx2 w #[.int .i64 fK, .int .i64 fR, .int .i64 fT, .int .i64 fP, .int .i64 fM, .int .i64 fN, .int .i64 fE, .int .i64 fF, .slice A n c] #[.int .i64 gK, .int .i64 gR, .int .i64 gT, .int .i64 gP, .int .i64 gM, .int .i64 gN, .int .i64 gE, .int .i64 gF, .slice B m d] 26 26
  have hA2 := hA.on bc; have hB2 := hB.on bc
  obtain ⟨Z, hZ⟩ : ∃ Z, Z = sameF ⟨fK, fR, ⟨fT, fP, fM, fN, fE⟩, fF, fd⟩ ⟨gK, gR, ⟨gT, gP, gM, gN, gE⟩, gF, gd⟩ := ⟨_, rfl⟩
  rw [← hZ]
  unfold sameF at hZ
  dsimp only at hZ
  clear kf kg
  by_cases e0 : fK = gK
  rotate_left
  · have hz : Z = false := by rw [hZ]; exact decide_eq_false (fun h => e0 h.1)
    have d1 : (fK == gK) = false := by simpa using e0
    clear hZ hA hB hA2 hB2 hn hm e0
    subst hz
    go_enter Tryd.func16, Tryd.ntmps16
    go_wp2
    go_ret
    exact ⟨rfl, bc⟩
  subst e0
  by_cases e1 : fR = gR
  rotate_left
  · have hz : Z = false := by rw [hZ]; exact decide_eq_false (fun h => e1 h.2.1)
    have d1 : (fR == gR) = false := by simpa using e1
    clear hZ hA hB hA2 hB2 hn hm e1
    subst hz
    go_enter Tryd.func16, Tryd.ntmps16
    go_wp2
    go_ret
    exact ⟨rfl, bc⟩
  subst e1
  by_cases e2 : fT = gT ∧ fP = gP ∧ fM = gM ∧ fN = gN ∧ fE = gE
  rotate_left
  · have hz : Z = false := by rw [hZ]; exact decide_eq_false (fun h => e2 ⟨h.2.2.1, h.2.2.2.1, h.2.2.2.2.1, h.2.2.2.2.2.1, h.2.2.2.2.2.2.1⟩)
    have hop := fun W => agg_ne (s0 := fT) (t0 := gT) (s1 := fP) (t1 := gP) (s2 := fM) (t2 := gM) (s3 := fN) (t3 := gN) (s4 := fE) (t4 := gE) e2 W
    clear hZ hA hB hA2 hB2 hn hm e2
    subst hz
    go_enter Tryd.func16, Tryd.ntmps16
    go_wp2
    go_ret
    exact ⟨rfl, bc⟩
  obtain ⟨rfl, rfl, rfl, rfl, rfl⟩ := e2
  by_cases e3 : fF = gF
  rotate_left
  · have hz : Z = false := by rw [hZ]; exact decide_eq_false (fun h => e3 h.2.2.2.2.2.2.2.1)
    have d1 : (fF == gF) = false := by simpa using e3
    clear hZ hA hB hA2 hB2 hn hm e3
    subst hz
    go_enter Tryd.func16, Tryd.ntmps16
    go_wp2
    go_ret
    exact ⟨rfl, bc⟩
  subst e3
  have heq := fun (W : World) (hb : Below w.heap.size w W) => bequal_any A B n m c d fd gd W hn hm (hA.on hb) (hB.on hb)
  have hz : Z = decide (fd = gd) := by rw [hZ]; simp
  have HEQ := Lib.hid heq
  clear hZ hA hB hA2 hB2 hn hm heq
  subst hz
  generalize decide (fd = gd) = b at *
  go_enter Tryd.func16, Tryd.ntmps16
  go_wp2_with (go_at_call 42; refine (HEQ.out _ bc).mono ?_; rintro e w1 ⟨rfl, rfl⟩)
  go_ret
  exact ⟨rfl, bc⟩
set_option maxRecDepth 8000 in
set_option maxHeartbeats 4000000 in
theorem rsamef_any (f g : FR) (A : Option Addr) (n c : Nat) (B : Option Addr) (m d : Nat) (w : World) (hn : n = f.ds.length) (hm : m = g.ds.length) (hA : Byt w.heap.size w A f.ds) (hB : Byt w.heap.size w B g.ds) :
    Calls Tryd.prog 17 #[.agg (f.cells A n c), .agg (g.cells B m d)] w fun e w' => e = .returned (.bool (sameF f g)) ∧ Below w.heap.size w w' := by
  obtain ⟨fK, fR, ⟨fT, fP, fM, fN, fE⟩, fF, fd⟩ := f
  obtain ⟨gK, gR, ⟨gT, gP, gM, gN, gE⟩, gF, gd⟩ := g
  unfold FR.cells
  dsimp only at hn hm hA hB ⊢
  obtain ⟨kf, kg, bc⟩ := bx2 w #[.int .i64 fK, .int .i64 fR, .int .i64 fT, .int .i64 fP, .int .i64 fM, .int .i64 fN, .int .i64 fE, .int .i64 fF, .slice A n c] #[.int .i64 gK, .int .i64 gR, .int .i64 gT, .int .i64 gP, .int .i64 gM, .int .i64 gN, .int .i64 gE, .int .i64 gF, .slice B m d] 26 26
  have hA2 := hA.on bc; have hB2 := hB.on bc
  obtain ⟨Z, hZ⟩ : ∃ Z, Z = sameF ⟨fK, fR, ⟨fT, fP, fM, fN, fE⟩, fF, fd⟩ ⟨gK, gR, ⟨gT, gP, gM, gN, gE⟩, gF, gd⟩ := ⟨_, rfl⟩
  rw [← hZ]
  unfold sameF at hZ
  dsimp only at hZ
  clear kf kg
  by_cases e0 : fK = gK
  rotate_left
  · have hz : Z = false := by rw [hZ]; exact decide_eq_false (fun h => e0 h.1)
    have d1 : (fK == gK) = false := by simpa using e0
    clear hZ hA hB hA2 hB2 hn hm e0
    subst hz
    go_enter Tryd.func17, Tryd.ntmps17
    go_wp2
    go_ret
    exact ⟨rfl, bc⟩
  subst e0
  by_cases e1 : fR = gR
  rotate_left
  · have hz : Z = false := by rw [hZ]; exact decide_eq_false (fun h => e1 h.2.1)
    have d1 : (fR == gR) = false := by simpa using e1
    clear hZ hA hB hA2 hB2 hn hm e1
    subst hz
    go_enter Tryd.func17, Tryd.ntmps17
    go_wp2
    go_ret
    exact ⟨rfl, bc⟩
  subst e1
  by_cases e2 : fT = gT ∧ fP = gP ∧ fM = gM ∧ fN = gN ∧ fE = gE
  rotate_left
  · have hz : Z = false := by rw [hZ]; exact decide_eq_false (fun h => e2 ⟨h.2.2.1, h.2.2.2.1, h.2.2.2.2.1, h.2.2.2.2.2.1, h.2.2.2.2.2.2.1⟩)
    have hop := fun W => agg_ne (s0 := fT) (t0 := gT) (s1 := fP) (t1 := gP) (s2 := fM) (t2 := gM) (s3 := fN) (t3 := gN) (s4 := fE) (t4 := gE) e2 W
    clear hZ hA hB hA2 hB2 hn hm e2
    subst hz
    go_enter Tryd.func17, Tryd.ntmps17
    go_wp2
    go_ret
    exact ⟨rfl, bc⟩
  obtain ⟨rfl, rfl, rfl, rfl, rfl⟩ := e2
  by_cases e3 : fF = gF
  rotate_left
  · have hz : Z = false := by rw [hZ]; exact decide_eq_false (fun h => e3 h.2.2.2.2.2.2.2.1)
    have d1 : (fF == gF) = false := by simpa using e3
    clear hZ hA hB hA2 hB2 hn hm e3
    subst hz
    go_enter Tryd.func17, Tryd.ntmps17
    go_wp2
    go_ret
    exact ⟨rfl, bc⟩
  subst e3
  have hs1 : (convert 24 9 (.slice A n c)).run Tryd.prog ((w.alloc (.cells #[.int .i64 fK, .int .i64 fR, .int .i64 fT, .int .i64 fP, .int .i64 fM, .int .i64 fN, .int .i64 fE, .int .i64 fF, .slice A n c] 26)).alloc (.cells #[.int .i64 fK, .int .i64 fR, .int .i64 fT, .int .i64 fP, .int .i64 fM, .int .i64 fN, .int .i64 fE, .int .i64 fF, .slice B m d] 26)) = _ := run_string_bytes hn hA2
  have hs2 : (convert 24 9 (.slice B m d)).run Tryd.prog ((w.alloc (.cells #[.int .i64 fK, .int .i64 fR, .int .i64 fT, .int .i64 fP, .int .i64 fM, .int .i64 fN, .int .i64 fE, .int .i64 fF, .slice A n c] 26)).alloc (.cells #[.int .i64 fK, .int .i64 fR, .int .i64 fT, .int .i64 fP, .int .i64 fM, .int .i64 fN, .int .i64 fE, .int .i64 fF, .slice B m d] 26)) = _ := run_string_bytes hm hB2
  have hz : Z = ((⟨fd.toArray⟩ : ByteArray).toList == (⟨gd.toArray⟩ : ByteArray).toList) := by rw [str_eq, hZ]; simp
  clear hZ hA hB hA2 hB2 hn hm
  subst hz
  generalize (⟨fd.toArray⟩ : ByteArray) = s1 at *
  generalize (⟨gd.toArray⟩ : ByteArray) = s2 at *
  go_enter Tryd.func17, Tryd.ntmps17
  go_wp2
  go_ret
  exact ⟨rfl, bc⟩
end Go.Proofs.YtcfbeelljhjnoaaDoor
