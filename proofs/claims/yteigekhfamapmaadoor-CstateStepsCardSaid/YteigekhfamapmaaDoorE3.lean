/-
  Contracts of zeros and grown of package bits: bytes in memory of the call itself. Conditions: those that each theorem names.
-/
import Derived.Test.YteigekhfamapmaaDoorE2
import Derived.Laws.CopyOwn
namespace Go.Proofs.YteigekhfamapmaaDoor
open Go.RowKit

theorem Tryd.info5 : (Tryd.prog.info? 5).map (fun i => (i.zero, i.size, i.bytes)) = some (some (.int .u8 0), 1, 1) := by kernel_rfl
theorem run_make_rowN {P : Program} (t e : TypeId) (i : TypeInfo) (z : Value) (ht : P.underlying t = some (.slice e)) (hi : P.info? e = some i) (hz : i.zero = some z)
    (kl kc : IntKind) (n c : Nat) (hnc : n ≤ c) (hbytes : i.bytes * c ≤ 281474976710656) (h63 : c ≤ 9223372036854775807) (w : World) :
    (Instr.makeSlice t (.int kl (n : Int)) (.int kc (c : Int))).run P w = .ok (.slice (some ⟨w.heap.size, 0, none⟩) n c) (w.alloc (.cells (madeCells z.cells (c * i.size)) e)) := by
  have hb : (i.bytes : Int) * (c : Int) ≤ 281474976710656 := by
    have h : ((i.bytes * c : Nat) : Int) ≤ 281474976710656 := by omega
    rwa [Int.natCast_mul] at h
  have hr := run_make (P := P) w t e i z ht hi hz kl kc n c (by omega) (by omega) hb (by omega)
  simp only [Int.toNat_natCast] at hr
  exact hr
theorem encB_zeros (m : Nat) : madeCells (Value.int .u8 0).cells m = encB (List.replicate m 0) := by
  apply Array.toList_inj.1
  rw [show (Value.int .u8 0).cells = #[.int .u8 0] from rfl, toList_madeCells_one]
  simp [encB]
/-- make([]byte, m), over whatever world. -/
theorem run_make_bytes (m : Nat) (hm : m ≤ 65536) (w : World) :
    (Instr.makeSlice 24 (.int .i64 (m : Int)) (.int .i64 (m : Int))).run Tryd.prog w = .ok (.slice (some ⟨w.heap.size, 0, none⟩) m m) (w.alloc (.cells (encB (List.replicate m 0)) 5)) := by
  obtain ⟨i0, hi, hz0, hz1, hz2⟩ := info_parts Tryd.info5
  have := run_make_rowN (P := Tryd.prog) 24 5 i0 _ Tryd.underlying24 hi hz0 .i64 .i64 m m (Nat.le_refl _) (by rw [hz2]; omega) (by omega) w
  rw [hz1, Nat.mul_one, encB_zeros] at this
  exact this

set_option maxRecDepth 4000 in
set_option maxHeartbeats 400000 in
theorem zeros_any (n : Int) (w : World) (h0 : 0 ≤ n) (h1 : n ≤ 8192) :
    Calls Tryd.prog 53 #[.int .i64 n] w fun e w' => ∃ g m : Nat, m = (n.toNat + 7) / 8 ∧ e = .returned (.agg #[.int .i64 n, .slice (some ⟨g, 0, none⟩) m m]) ∧ w.heap.size ≤ g ∧ Blk w' g 5 (encB (List.replicate m 0)) ∧ Below w.heap.size w w' := by
  obtain ⟨m, hm⟩ : ∃ m : Nat, m = (n.toNat + 7) / 8 := ⟨_, rfl⟩
  have hm2 : (n + 7) / 8 = (m : Int) := by omega
  have HM := Lib.hid hm; clear hm
  have HM2 := Lib.hid hm2; clear hm2
  have hmk := run_make_bytes m (by have := HM.out; omega)
  go_enter Tryd.func53, Tryd.ntmps53
  go_wp2_with (go_at_call 49; refine (byteCount_any _ _ h0 (by omega)).mono ?_; rintro e w' ⟨rfl, rfl⟩; rw [HM2.out])
  exact bodyPost_ret (v := .agg #[.int .i64 n, .slice (some ⟨w.heap.size + 1, 0, none⟩) m m]) (by simp [results, Tryd.results53, go_sem]) rfl
    ⟨w.heap.size + 1, m, HM.out, rfl, by omega, by simpa using Blk.new (w.alloc (Obj.cells #[Value.int IntKind.i64 n, Value.slice (some { block := w.heap.size + 1, off := 0 }) m m] 26)) 5 (encB (List.replicate m 0)), ((Below.refl _ _).alloc (Nat.le_refl _) _).alloc (by simp) _⟩

theorem only_setRow (w : World) (g : Nat) (cs : Array Value) : w.grownBy (w.setRow g cs) (some g) :=
  ⟨rfl, rfl, rfl, by simp, fun i _ hne => setRow_other w g i cs (fun e => hne (by rw [e]))⟩

/-- copy of bytes that came in, over the head of a row of the call's own. -/
theorem run_copy_bytes {P : Program} (w : World) (dT sT ty elem : TypeId) (hu : P.underlying dT = some (.slice elem)) (hsz : (P.info? elem).map (·.size) = some 1)
    (g m m' : Nat) (A : Option Addr) (n c : Nat)
    (cur bs : List UInt8) (hg : Blk w g 5 (encB cur)) (B : Nat) (hA : Byt B w A bs) (hn : n = bs.length) (hm : m = cur.length) (hle : n ≤ m) :
    ∃ w', (Builtin.copy_ #[dT, sT] ty #[.slice (some ⟨g, 0, none⟩) m m', .slice A n c]).run P w = .ok (goInt bs.length) w' ∧ Blk w' g 5 (encB (bs ++ cur.drop bs.length)) ∧ w.grownBy w' (some g) := by
  subst hn
  subst hm
  by_cases h0 : bs = []
  · subst h0
    exact ⟨w, run_copy_none (P := P) w dT sT ty elem _ A _ _ _ _ hu hsz (by simp), by simpa using hg, World.grownBy.refl w _⟩
  · obtain ⟨b, off, rfl, _, hc⟩ := hA h0
    have hlen : (bs.map fun x => Value.int .u8 (x.toNat : Int)).length = bs.length := by simp
    have := run_copy_row (P := P) w dT sT ty elem g 0 cur.length m' ⟨b, off, none⟩ bs.length c (encB cur) 5 (bs.map fun x => Value.int .u8 (x.toNat : Int)) hu hsz hg (by rw [hlen]; exact (Nat.min_eq_left hle).symm) ?_ (by simpa [encB] using hle) ?_
    · rw [hlen] at this
      refine ⟨_, this, ?_, only_setRow w g _⟩
      have := setRow_heap w g (encB cur) ((encB cur).toList.take 0 ++ (bs.map fun x => Value.int .u8 (x.toNat : Int)) ++ (encB cur).toList.drop (0 + bs.length)).toArray 5 (0, 0) hg
      unfold Blk
      rw [this]
      simp [encB]
    · intro j v hj
      have hjl : j < bs.length := by
        rcases Nat.lt_or_ge j bs.length with hl | hl
        · exact hl
        · simp [List.getElem?_eq_none hl] at hj
      have hv : v = .int .u8 ((bs[j]?.getD 0).toNat : Int) := by simpa [hjl, eq_comm] using hj
      rw [hv, ← hc j hjl]
      unfold Addr.add
      split
      · rename_i h; subst h; rfl
      · rfl
    · intro v hv
      obtain ⟨x, _, rfl⟩ := List.mem_map.1 hv
      rfl

set_option maxRecDepth 4000 in
set_option maxHeartbeats 400000 in
theorem grown_any (N more : Int) (A : Option Addr) (n c : Nat) (bs : List UInt8) (w : World) (h0 : 0 ≤ N) (h1 : N ≤ 4096) (h2 : 0 ≤ more) (h3 : more ≤ 4096) (hn : n = bs.length) (hl : bs.length = (N.toNat + 7) / 8) (hA : Byt w.heap.size w A bs) :
    Calls Tryd.prog 45 #[.agg #[.int .i64 N, .slice A n c], .int .i64 more] w fun e w' => ∃ g m : Nat, m = ((N + more).toNat + 7) / 8 ∧ e = .returned (.agg #[.int .i64 (N + more), .slice (some ⟨g, 0, none⟩) m m]) ∧ w.heap.size ≤ g ∧
      Blk w' g 5 (encB (bs ++ List.replicate ((N.toNat + more.toNat + 7) / 8 - bs.length) 0)) ∧ Below w.heap.size w w' := by
  have HN := Lib.hid hn; clear hn
  have HL := Lib.hid hl; clear hl
  go_enter Tryd.func45, Tryd.ntmps45
  go_wp2_with (first
    | (go_at_call 53; refine (zeros_any _ _ (by omega) (by omega)).mono ?_; rintro e w1 ⟨g, m, hm, rfl, hg, hb, hB⟩; have HM := Lib.hid hm; clear hm
       have hsz : w.heap.size + 2 ≤ g := by simpa using hg
       have hgl := hb.lt
       have hc1 : w1.cell? ⟨w.heap.size, 1, none⟩ = some (.slice A n c) := (hB.cell (p := ⟨w.heap.size, 1, none⟩) (by simp; omega)).trans (by simp)
       have hc2 : w1.cell? ⟨w.heap.size + 1, 0, none⟩ = some (.int .i64 0) := (hB.cell (p := ⟨w.heap.size + 1, 0, none⟩) (by simp)).trans (by simp)
       have hc3 : w1.cell? ⟨w.heap.size + 1, 1, none⟩ = some (.slice none 0 0) := (hB.cell (p := ⟨w.heap.size + 1, 1, none⟩) (by simp)).trans (by simp)
       have hf2 : w1.frozen? ⟨w.heap.size + 1, 0, none⟩ = false := (hB.frozen (p := ⟨w.heap.size + 1, 0, none⟩) (by simp)).trans (by simp)
       have hf3 : w1.frozen? ⟨w.heap.size + 1, 1, none⟩ = false := (hB.frozen (p := ⟨w.heap.size + 1, 1, none⟩) (by simp)).trans (by simp)
       have hl1 : w.heap.size < w1.heap.size := by omega
       have hl2 : w.heap.size + 1 < w1.heap.size := by omega
       have hBw : Below w.heap.size w w1 := (((Below.refl _ _).alloc (Nat.le_refl _) _).alloc (by simp) _).trans (hB.mono (by simp; omega))
       obtain ⟨w2, hrun, hb2, hg2⟩ := run_copy_bytes (P := Tryd.prog) (w1.alloc (.cells #[.int .i64 (N + more), .slice (some ⟨g, 0, none⟩) m m] 26)) 24 24 3 5 Tryd.underlying24 (by kernel_rfl) g m m A n c (List.replicate m 0) bs (hb.alloc _) w.heap.size (hA.below (hBw.alloc (by omega) _)) HN.out (by simp) (by have := HM.out; have := HN.out; have := HL.out; omega)
       have hd1 : w2.cell? ⟨w1.heap.size, 0, none⟩ = some (.int .i64 (N + more)) := (World.cell?_of_block (hg2.block _ (by simp) (by simp; omega))).trans (by simp)
       have hd2 : w2.cell? ⟨w1.heap.size, 1, none⟩ = some (.slice (some ⟨g, 0, none⟩) m m) := (World.cell?_of_block (hg2.block _ (by simp) (by simp; omega))).trans (by simp)
       have he2 : w2.cell? ⟨w.heap.size + 1, 0, none⟩ = some (.int .i64 0) := (World.cell?_of_block (hg2.block _ (by simp; omega) (by simp; omega))).trans ((World.cell?_alloc_lt w1 _ _ hl2).trans hc2)
       have he3 : w2.cell? ⟨w.heap.size + 1, 1, none⟩ = some (.slice none 0 0) := (World.cell?_of_block (hg2.block _ (by simp; omega) (by simp; omega))).trans ((World.cell?_alloc_lt w1 _ _ hl2).trans hc3)
       have hf2' : w2.frozen? ⟨w.heap.size + 1, 0, none⟩ = false := (World.frozen?_of_block ((hg2.block (w.heap.size + 1) (by simp; omega) (by simp; omega)).trans (Below.heap_alloc w1 _ _ hl2))).trans hf2
       have hf3' : w2.frozen? ⟨w.heap.size + 1, 1, none⟩ = false := (World.frozen?_of_block ((hg2.block (w.heap.size + 1) (by simp; omega) (by simp; omega)).trans (Below.heap_alloc w1 _ _ hl2))).trans hf3
       have hBw2 : Below w.heap.size w w2 := (hBw.alloc (by omega) _).grown hg2 (by simp; omega) (by intro k hk; injection hk with hk; omega)
       clear hc2 hc3 hf2 hf3))
  refine bodyPost_ret (v := .agg #[.int .i64 (N + more), .slice (some ⟨g, 0, none⟩) m m]) (by simp [results, Tryd.results45, go_sem, he2, he3]) rfl
    ⟨g, m, HM.out, rfl, by omega, ?_, (hBw2.setCell (p := ⟨w.heap.size + 1, 0, none⟩) (by simp) _).setCell (p := ⟨w.heap.size + 1, 1, none⟩) (by simp) _⟩
  refine Blk.far (Blk.far ?_ (by simp; omega) _) (by simp; omega) _
  rw [List.drop_replicate] at hb2
  have e : m = (N.toNat + more.toNat + 7) / 8 := by have := HM.out; omega
  rw [← e]
  exact hb2
end Go.Proofs.YteigekhfamapmaaDoor
