/-
  Contracts of zeros and grown of package bits: bytes in memory of the call itself. Conditions: those that each theorem names.
-/
import Derived.Test.YtnlmpemfpkmodaaE2
import Derived.Laws.CopyOwn
namespace Go.Proofs.Ytnlmpemfpkmodaa
open Go.RowKit

theorem Try.info5 : (Try.prog.info? 5).map (fun i => (i.zero, i.size, i.bytes)) = some (some (.int .u8 0), 1, 1) := by kernel_rfl
theorem run_make_rowN {P : Program} (t e : TypeId) (i : TypeInfo) (z : Value) (ht : P.underlying t = some (.slice e)) (hi : P.info? e = some i) (hz : i.zero = some z)
    (kl kc : IntKind) (n c : Nat) (hnc : n ≤ c) (hbytes : i.bytes * c ≤ 281474976710656) (h63 : c ≤ 9223372036854775807) (w : World) :
    (Instr.makeSlice t (.int kl (n : Int)) (.int kc (c : Int))).run P w = .ok (.slice (some ⟨w.heap.size, 0, none⟩) n c) (w.alloc (.cells (madeCells z.cells (c * i.size)) e)) := by
  have hb : (i.bytes : Int) * (c : Int) ≤ 281474976710656 := by
    have h : ((i.bytes * c : Nat) : Int) ≤ 281474976710656 := by omega
    rwa [Int.natCast_mul] at h
  have hr := run_make (P := P) w t e i z ht hi hz kl kc n c (by omega) (by omega) hb (by omega)
  simp only [Int.toNat_natCast] at hr
  exact hr
theorem encB_zeros (m : Nat) : madeCells (Value.int .u8 0).cells m = encB (List.replicate m 0) := by
  apply Array.toList_inj.1
  rw [show (Value.int .u8 0).cells = #[.int .u8 0] from rfl, toList_madeCells_one]
  simp [encB]
/-- make([]byte, m), over whatever world. -/
theorem run_make_bytes (m : Nat) (hm : m ≤ 65536) (w : World) :
    (Instr.makeSlice 22 (.int .i64 (m : Int)) (.int .i64 (m : Int))).run Try.prog w = .ok (.slice (some ⟨w.heap.size, 0, none⟩) m m) (w.alloc (.cells (encB (List.replicate m 0)) 5)) := by
  obtain ⟨i0, hi, hz0, hz1, hz2⟩ := info_parts Try.info5
  have := run_make_rowN (P := Try.prog) 22 5 i0 _ Try.underlying22 hi hz0 .i64 .i64 m m (Nat.le_refl _) (by rw [hz2]; omega) (by omega) w
  rw [hz1, Nat.mul_one, encB_zeros] at this
  exact this

theorem only_setRow (w : World) (g : Nat) (cs : Array Value) : w.grownBy (w.setRow g cs) (some g) :=
  ⟨rfl, rfl, rfl, by simp, fun i _ hne => setRow_other w g i cs (fun e => hne (by rw [e]))⟩

/-- copy of bytes that came in, over the head of a row of the call's own. -/
theorem run_copy_bytes {P : Program} (w : World) (dT sT ty elem : TypeId) (hu : P.underlying dT = some (.slice elem)) (hsz : (P.info? elem).map (·.size) = some 1)
    (g m m' : Nat) (A : Option Addr) (n c : Nat)
    (cur bs : List UInt8) (hg : Blk w g 5 (encB cur)) (B : Nat) (hA : Byt B w A bs) (hn : n = bs.length) (hm : m = cur.length) (hle : n ≤ m) :
    ∃ w', (Builtin.copy_ #[dT, sT] ty #[.slice (some ⟨g, 0, none⟩) m m', .slice A n c]).run P w = .ok (goInt bs.length) w' ∧ Blk w' g 5 (encB (bs ++ cur.drop bs.length)) ∧ w.grownBy w' (some g) := by
  subst hn
  subst hm
  by_cases h0 : bs = []
  · subst h0
    exact ⟨w, run_copy_none (P := P) w dT sT ty elem _ A _ _ _ _ hu hsz (by simp), by simpa using hg, World.grownBy.refl w _⟩
  · obtain ⟨b, off, rfl, _, hc⟩ := hA h0
    have hlen : (bs.map fun x => Value.int .u8 (x.toNat : Int)).length = bs.length := by simp
    have := run_copy_row (P := P) w dT sT ty elem g 0 cur.length m' ⟨b, off, none⟩ bs.length c (encB cur) 5 (bs.map fun x => Value.int .u8 (x.toNat : Int)) hu hsz hg (by rw [hlen]; exact (Nat.min_eq_left hle).symm) ?_ (by simpa [encB] using hle) ?_
    · rw [hlen] at this
      refine ⟨_, this, ?_, only_setRow w g _⟩
      have := setRow_heap w g (encB cur) ((encB cur).toList.take 0 ++ (bs.map fun x => Value.int .u8 (x.toNat : Int)) ++ (encB cur).toList.drop (0 + bs.length)).toArray 5 (0, 0) hg
      unfold Blk
      rw [this]
      simp [encB]
    · intro j v hj
      have hjl : j < bs.length := by
        rcases Nat.lt_or_ge j bs.length with hl | hl
        · exact hl
        · simp [List.getElem?_eq_none hl] at hj
      have hv : v = .int .u8 ((bs[j]?.getD 0).toNat : Int) := by simpa [hjl, eq_comm] using hj
      rw [hv, ← hc j hjl]
      unfold Addr.add
      split
      · rename_i h; subst h; rfl
      · rfl
    · intro v hv
      obtain ⟨x, _, rfl⟩ := List.mem_map.1 hv
      rfl

end Go.Proofs.Ytnlmpemfpkmodaa
