/-
  The writer of package medl puts a number's bytes, the highest first. Condition: that each theorem names. (Printed by tools/gen07m3.py.)
-/
import Derived.Test.YtnmaelefcohogaaDoorM2
namespace Go.Proofs.YtnmaelefcohogaaDoor
open Go.RowKit

theorem beB_snoc (n width k : Nat) : (beB n width).take (k + 1) = (beB n width).take k ++ (if k < width then [UInt8.ofNat (n / 2 ^ (8 * (width - 1 - k)))] else []) := by
  unfold beB
  rw [List.take_add_one]
  split
  · rename_i h; simp [h]
  · rename_i h; simp [h]
theorem Tryd.infoU8 : (Tryd.prog.info? 5).map (fun i => (i.zero, i.size, i.bytes)) = some (some (.int .u8 0), 1, 1) := by kernel_rfl
set_option maxRecDepth 8000 in
set_option maxHeartbeats 2000000 in
theorem wput_any (B g n width : Nat) (l : List UInt8) (w : World) (hgB : g < B) (hB : B ≤ w.heap.size) (hwd : width ≤ 4) (hl : l.length ≤ 60000) (hW : Wr B g l w) :
    Calls Tryd.prog 14 #[.pointer (some ⟨g, 0, none⟩), .int .i64 (n : Int), .int .i64 (width : Int)] w fun e w' => e = .returned (.tuple #[]) ∧ Wr B g (l ++ beB n width) w' ∧ Kp g w w' ∧ B ≤ w'.heap.size := by
  obtain ⟨i0, hi, hz0, hz1, hz2⟩ := info_parts Tryd.infoU8
  have e0 : IntKind.i64.wrap ((width : Int) - 1) = (width : Int) - 1 := IntWalk.i64_in _ (by omega)
  go_enter Tryd.func14, Tryd.ntmps14
  go_wp2
  go_loopw [6] (fun i wr => ∃ k : Nat, k ≤ width ∧ i = .int .i64 ((width : Int) - 1 - k) ∧ Wr B g (l ++ (beB n width).take k) wr ∧ Kp g w wr ∧ B ≤ wr.heap.size) (fun i _ => (intOf i + 1).toNat)
  case atStart => exact ⟨0, by omega, by simp, by simpa using hW, Kp.refl _ _, hB⟩
  case round =>
    obtain ⟨k, hk, rfl, hWk, hK, hBk⟩ := hrel
    by_cases hlt : k < width
    · have hsn := beB_snoc n width k
      rw [if_pos hlt] at hsn
      have HSN := Lib.hid hsn; clear hsn
      obtain ⟨A, c, hb, ho⟩ := hWk
      obtain ⟨ll, hll⟩ : ∃ ll, ll = l ++ (beB n width).take k := ⟨_, rfl⟩
      rw [← hll] at hb ho
      have hlen : ll.length = l.length + k := by rw [hll, List.length_append, List.length_take, beB_length]; omega
      obtain ⟨q0, q1⟩ := hb.one
      have lg := hb.lt
      obtain ⟨j, hj⟩ : ∃ j : Nat, (width : Int) - 1 - (k : Int) = (j : Int) := ⟨width - 1 - k, by omega⟩
      have hj2 : width - 1 - k = j := by omega
      have hj4 : j < 4 := by omega
      rw [hj]
      have hsn3 := HSN.out; rw [hj2] at hsn3; replace HSN := Lib.hid hsn3; clear hsn3
      have ev := byte_of n j
      obtain ⟨x, hx⟩ : ∃ x, x = UInt8.ofNat (n / 2 ^ (8 * j)) := ⟨_, rfl⟩
      rw [← hx] at ev
      have HX := Lib.hid hx; clear hx
      have HLEN := Lib.hid hlen; clear hlen
      have HLL := Lib.hid hll; have HJ := Lib.hid hj; clear hll hj hj2
      have e1 : IntKind.i64.wrap ((j : Int) * 8) = (j : Int) * 8 := IntWalk.i64_in _ (by omega)
      have c1 : decide (0 ≤ (j : Int)) = true := by simp
      go_wp2_with fail
      have hod : ((wr.alloc (.cells #[.int .u8 (x.toNat : Int)] 5)).drew).ownsRow B 5 1 (.slice A ll.length c) ll.length (cellsB ll) := ho.alloc (.cells #[.int .u8 (x.toNat : Int)] 5)
      have hnb : ((wr.alloc (.cells #[.int .u8 (x.toNat : Int)] 5)).drew).heap[wr.heap.size]? = some (.cells #[.int .u8 (x.toNat : Int)] 5 (0, 0)) := Blk.new wr 5 #[.int .u8 (x.toNat : Int)]
      go_region_law (refine step_append_lies _ rfl (.tmp 17) (.tmp 23) 26 rfl B 5 i0 (.int .u8 0) 1 1 Tryd.underlying26 hi hz0 hz1 hz2 rfl (by decide) (.slice A ll.length c) ll.length (cellsB ll) (by simp [Act.eval]) hod ⟨wr.heap.size, 0, none⟩ 1 1 [.int .u8 (x.toNat : Int)] (by simp [Act.eval]) rfl (World.news_of_block hnb) (by simp [Value.oneCell']) (by decide) (by unfold maxLen; have := HLEN.out; omega) (by have := HLEN.out; omega) (by simp; omega) _ rfl ?_; intro g1 cap1 w1 hown hgrow hat hlt1; obtain ⟨hW2, hK2, s1, f1⟩ := Wr.step (tmp := .cells #[.int .u8 (x.toNat : Int)] 5) hgB hBk hb ho ⟨hgrow.os, hgrow.tape, hgrow.output, hgrow.size, hgrow.block⟩ hown)
      all_goals
        have e2 : IntKind.i64.wrap ((j : Int) - 1) = (j : Int) - 1 := IntWalk.i64_in _ (by omega)
        clear s1 f1 hown hgrow hat hlt1 hb ho hod hnb q0 q1
        go_wp2_with fail
        go_roundw
        case rel => exact ⟨k + 1, by omega, by have := HJ.out; simp; omega, by rw [HSN.out, ← HX.out, ← List.append_assoc, ← HLL.out]; exact hW2, hK.trans hK2, Nat.le_trans hBk hK2.1.size⟩
        case measure => simp [intOf]
    · obtain rfl : k = width := by omega
      have c1 : decide (0 ≤ (k : Int) - 1 - (k : Int)) = false := by simp; omega
      go_wp2
      go_end0
      rw [List.take_of_length_le (by rw [beB_length]; omega)] at hWk
      exact ⟨rfl, hWk, hK, hBk⟩
end Go.Proofs.YtnmaelefcohogaaDoor
