/-
  Parse of package bits and of the document itself answer as the document says, for every text. No condition.
-/
import Derived.Test.YtkiijnhpegbpnaaF5
namespace Go.Proofs.Ytkiijnhpegbpnaa
open Go.RowKit

/-- Is a byte a digit? -/
def isDig (x : UInt8) : Bool := x == 48 || x == 49
/-- Parse, by the document. -/
def parseS (s : List UInt8) : Int × List Bool := if 4096 < s.length then (3, []) else if s.all isDig = true then (0, s.map (· == 49)) else (11, [])

theorem bytes_length (s : ByteArray) : s.data.toList.length = s.size := Array.length_toList
theorem byte_at (s : ByteArray) (k : Nat) (h : k < s.size) : s.data.toList[k]? = some s[k] := by
  rw [List.getElem?_eq_getElem (by rw [bytes_length]; exact h)]
  rfl
theorem take_all (s : ByteArray) (k : Nat) (h : k < s.size) : (s.data.toList.take (k + 1)).all isDig = ((s.data.toList.take k).all isDig && isDig s[k]) := by
  rw [List.take_add_one, byte_at s k h, List.all_append]
  simp
theorem digit_at (s : ByteArray) (k : Nat) (h : k < s.size) : (s.data.toList.map (· == 49))[k]?.getD false = (s[k] == 49) := by
  rw [List.getElem?_map, byte_at s k h]
  rfl
theorem is48 (x : UInt8) : ((x.toNat : Int) == 48) = (x == 48) := by
  rw [Bool.eq_iff_iff, beq_iff_eq, beq_iff_eq, ← UInt8.toNat_inj]
  have : (48 : UInt8).toNat = 48 := rfl
  omega
theorem is49 (x : UInt8) : ((x.toNat : Int) == 49) = (x == 49) := by
  rw [Bool.eq_iff_iff, beq_iff_eq, beq_iff_eq, ← UInt8.toNat_inj]
  have : (49 : UInt8).toNat = 49 := rfl
  omega
theorem not_all (s : ByteArray) (k : Nat) (h : k < s.size) (hd : isDig s[k] = false) : s.data.toList.all isDig = false := by
  rw [List.all_eq_false]
  exact ⟨s[k], List.mem_of_getElem? (byte_at s k h), by rw [hd]; decide⟩

set_option maxHeartbeats 1000000 in
theorem parse_any (s : ByteArray) (w : World) (hs : s.size ≤ maxLen) :
    Calls Try.prog 32 #[.string s] w (Res w (parseS s.data.toList)) := by
  unfold maxLen at hs
  have hsl : s.data.toList.length = s.size := bytes_length s
  by_cases hlong : 4096 < s.size
  · have hr : parseS s.data.toList = (3, []) := by unfold parseS; rw [hsl, if_pos hlong]
    rw [hr]; clear hr hsl
    go_enter Try.func32, Try.ntmps32
    go_wp2
    exact bodyPost_ret (v := .tuple #[.agg #[.int .i64 0, .slice none 0 0], .int .i64 3]) (by simp [results, Try.results32, go_sem]) rfl (res_err 3 ((Below.refl _ _).alloc (Nat.le_refl _) _))
  · have hd : decide ((4096 : Int) < (s.size : Int)) = false := by simp; omega
    have HSL := Lib.hid hsl; clear hsl
    obtain ⟨t, ht⟩ : ∃ t, t = s.data.toList.map (· == 49) := ⟨_, rfl⟩
    have htl : t.length = s.size := by rw [ht, List.length_map, HSL.out]
    have HTL := Lib.hid htl; have HT := Lib.hid ht; clear htl ht
    go_enter Try.func32, Try.ntmps32
    go_wp2_with (go_at_call 37; refine (zeros_any _ _ (by omega) (by omega)).mono ?_; rintro e w1 ⟨g, m, hm, rfl, hg, hb, hB⟩; have HM := Lib.hid hm; clear hm; obtain ⟨k1, hs1, hBw⟩ := boxes1 hB; have hgl := hb.lt; have hgs : w.heap.size + 1 ≤ g := by simpa using hg)
    clear hd
    have hi0 : OutRel w g w1.heap.size m t 0 (List.replicate m 0) (w1.alloc (.cells #[.int .i64 s.size, .slice (some ⟨g, 0, none⟩) m m] 24)) := by
      have hz := isBits_zeros t.length
      have h2 := HM.out; have h3 := HTL.out
      rw [Int.toNat_natCast] at h2
      refine ⟨by rw [paint_zero, h2, ← h3]; exact hz, by simp, hb.alloc _, ?_, hBw.alloc hBw.size _, by omega, hgl⟩
      rw [h3]; exact Blk.new w1 24 _
    have hj0 := k1.alloc (.cells #[.int .i64 s.size, .slice (some ⟨g, 0, none⟩) m m] 24)
    clear hB hg hb k1
    generalize w1.heap.size = ob at *
    go_loopw [15] (fun i wr => ∃ (k : Nat) (bs' : List UInt8), k ≤ s.size ∧ i = .int .i64 k ∧ (s.data.toList.take k).all isDig = true ∧ OutRel w g ob m t k bs' wr ∧ Blk wr w.heap.size 24 #[.int .i64 0, .slice none 0 0])
      (fun i _ => s.size - (intOf i).toNat)
    case atStart => exact ⟨0, _, by omega, rfl, rfl, hi0, hj0⟩
    case round =>
      obtain ⟨k, bs', hk, rfl, hall, hO, q1⟩ := hrel
      clear hi0 hj0
      have HALL := Lib.hid hall; clear hall
      obtain ⟨c1, c2, f1, f2⟩ := q1.two
      obtain ⟨c5, c6, f5, f6⟩ := hO.box.two
      rw [HTL.out] at c5
      by_cases hlt : k < s.size
      · have h48 := is48 s[k]
        have h49 := is49 s[k]
        have hta := take_all s k hlt
        have hda := digit_at s k hlt
        rw [← HT.out] at hda
        have hna := not_all s k hlt
        by_cases x48 : s[k] = 48
        · have e1 : (s[k] == 48) = true := by rw [x48]; rfl
          have e2 : (s[k] == 49) = false := by rw [x48]; rfl
          have e3 : isDig s[k] = true := by unfold isDig; rw [e1]; rfl
          rw [e1] at h48; rw [e2] at h49 hda; rw [e3, HALL.out] at hta
          have HTA := Lib.hid hta; have HDA := Lib.hid hda
          clear hta hda hna e1 e2 e3 x48
          go_wp2
          go_roundw
          case rel => exact ⟨k + 1, _, by omega, by go_num, HTA.out, hO.stayed (by have := HTL.out; omega) HDA.out, q1⟩
          case measure => simp [intOf]; omega
        · by_cases x49 : s[k] = 49
          · have e1 : (s[k] == 48) = false := by rw [x49]; rfl
            have e2 : (s[k] == 49) = true := by rw [x49]; rfl
            have e3 : isDig s[k] = true := by unfold isDig; rw [e2]; simp
            rw [e1] at h48; rw [e2] at h49 hda; rw [e3, HALL.out] at hta
            have HTA := Lib.hid hta; have HDA := Lib.hid hda
            clear hta hda hna e1 e2 e3 x49 x48
            have hcall := turn_any s.size k g m m bs' wr (by omega) (by omega) hO.len.symm (by
              have h1 := hO.len; have h2 := HM.out; omega) hO.row
            rw [Int.toNat_natCast] at hcall
            have HC := Lib.hid hcall; clear hcall
            go_wp2_with (go_at_call 38; refine HC.out.mono ?_; rintro e w3 ⟨rfl, hr3, hg3⟩)
            go_roundw
            case rel => exact ⟨k + 1, _, by omega, by go_num, HTA.out, hO.turned (by have := HTL.out; omega) HDA.out hr3 hg3, q1.grown hg3 (by simp; omega)⟩
            case measure => simp [intOf]; omega
          · have e1 : (s[k] == 48) = false := by simpa using x48
            have e2 : (s[k] == 49) = false := by simpa using x49
            have e3 : isDig s[k] = false := by unfold isDig; rw [e1, e2]; rfl
            have hr : parseS s.data.toList = (11, []) := by
              unfold parseS; rw [HSL.out, if_neg hlong, hna e3]; rfl
            rw [e1] at h48; rw [e2] at h49
            have HR := Lib.hid hr
            clear hr hta hda hna e1 e2 e3 x49 x48
            go_wp2
            rw [HR.out]
            exact bodyPost_ret (v := .tuple #[.agg #[.int .i64 0, .slice none 0 0], .int .i64 11]) (by simp [results, Try.results32, go_sem, c1, c2]) rfl
              (res_err 11 ((hO.low.setCell (p := ⟨w.heap.size, 0, none⟩) (by simp) _).setCell (p := ⟨w.heap.size, 1, none⟩) (by simp) _))
      · have hlw : w.heap.size < wr.heap.size := q1.lt
        have hr : parseS s.data.toList = (0, t) := by
          have h1 := HALL.out
          rw [List.take_of_length_le (by rw [HSL.out]; omega)] at h1
          unfold parseS; rw [HSL.out, if_neg hlong, h1, HT.out]; rfl
        have HR := Lib.hid hr; clear hr
        go_wp2
        rw [HR.out]
        have hfin := hO.is_
        rw [show k = t.length by have := HTL.out; omega, paint_full] at hfin
        have hrow : Blk ((wr.setCell ⟨w.heap.size, 0, none⟩ (.int .i64 s.size)).setCell ⟨w.heap.size, 1, none⟩ (.slice (some ⟨g, 0, none⟩) m m)) g 5 (encB bs') := (hO.row.far (p := ⟨w.heap.size, 0, none⟩) (by simp; omega) _).far (p := ⟨w.heap.size, 1, none⟩) (by simp; omega) _
        refine bodyPost_ret (v := .tuple #[.agg #[.int .i64 s.size, .slice (some ⟨g, 0, none⟩) m m], .int .i64 0]) (by simp [results, Try.results32, go_sem, c1, c2]) rfl
          ⟨some ⟨g, 0, none⟩, m, m, bs', by rw [HTL.out], hO.len.symm, hfin, by have := HTL.out; dsimp only; omega, byt_of_blk hrow, (hO.low.setCell (p := ⟨w.heap.size, 0, none⟩) (by simp) _).setCell (p := ⟨w.heap.size, 1, none⟩) (by simp) _, fun a ha _ => by injection ha with ha; subst ha; exact hO.ge⟩
end Go.Proofs.Ytkiijnhpegbpnaa
