/-
  The document itself: Parse and Text, for every text and all bits. No condition but that the bytes can be read.
-/
import Derived.Test.YteigekhfamapmaaDoorG2
namespace Go.Proofs.YteigekhfamapmaaDoor
open Go.RowKit

theorem take_snoc_dig (s : ByteArray) (k : Nat) (h : k < s.size) : ((s.data.toList.take (k + 1)).map (· == 49)).map Value.bool = ((s.data.toList.take k).map (· == 49)).map Value.bool ++ [.bool (s[k] == 49)] := by
  rw [List.take_add_one, byte_at s k h]; simp

set_option maxRecDepth 4000 in
set_option maxHeartbeats 1000000 in
theorem rparse_any (s : ByteArray) (w : World) (hs : s.size ≤ maxLen) :
    Calls Tryd.prog 38 #[.string s] w (Res w (parseS s.data.toList)) := by
  unfold maxLen at hs
  have hsl : s.data.toList.length = s.size := bytes_length s
  by_cases hlong : 4096 < s.size
  · have hr : parseS s.data.toList = (3, []) := by unfold parseS; rw [hsl, if_pos hlong]
    rw [hr]; clear hr hsl
    go_enter Tryd.func38, Tryd.ntmps38
    go_wp2
    exact bodyPost_ret (v := .tuple #[.agg #[.int .i64 0, .slice none 0 0], .int .i64 3]) (by simp [results, Tryd.results38, go_sem]) rfl (res_err 3 ((Below.refl _ _).alloc (Nat.le_refl _) _))
  · have hd : decide ((4096 : Int) < (s.size : Int)) = false := by simp; omega
    have HSL := Lib.hid hsl; clear hsl
    obtain ⟨i0, hi, hz0, hz1, hz2⟩ := info_parts Tryd.info4
    go_enter Tryd.func38, Tryd.ntmps38
    go_wp2
    clear hd
    go_loopw [4, 5] (fun lv i wr => ∃ (k : Nat), k ≤ s.size ∧ i = .int .i64 k ∧ (s.data.toList.take k).all isDig = true ∧ wr.ownsRow (w.heap.size + 1) 4 1 lv k (((s.data.toList.take k).map (· == 49)).map Value.bool) ∧ Blk wr w.heap.size 26 #[.int .i64 0, .slice none 0 0] ∧ Below w.heap.size w wr)
      (fun _ i _ => s.size - (intOf i).toNat)
    case atStart => exact ⟨0, by omega, rfl, rfl, World.ownsRow_nil _ _ _ _, Blk.new w 26 _, (Below.refl _ _).alloc (Nat.le_refl _) _⟩
    case round =>
      obtain ⟨k, hk, rfl, hall, hrow, q1, hBr⟩ := hrel
      have HALL := Lib.hid hall; clear hall
      obtain ⟨c1, c2, f1, f2⟩ := q1.two
      have hlw : w.heap.size < wr.heap.size := q1.lt
      by_cases hlt : k < s.size
      · have h48 := is48 s[k]
        have h49 := is49 s[k]
        have n48 : ((s[k].toNat : Int) != 48) = !(s[k] == 48) := by rw [bne, is48]
        have n49 : ((s[k].toNat : Int) != 49) = !(s[k] == 49) := by rw [bne, is49]
        have hta := take_all s k hlt
        have hna := not_all s k hlt
        have hts := take_snoc_dig s k hlt
        generalize hq : ((s.data.toList.take k).map (· == 49)).map Value.bool = ql at *
        clear hq
        by_cases x48 : s[k] = 48
        · have e1 : (s[k] == 48) = true := by rw [x48]; rfl
          have e2 : (s[k] == 49) = false := by rw [x48]; rfl
          have e3 : isDig s[k] = true := by unfold isDig; rw [e1]; rfl
          replace n48 := n48.trans (congrArg not e1); replace n49 := n49.trans (congrArg not e2); rw [e1] at h48; rw [e2] at h49 hts; rw [e3, HALL.out] at hta
          have HTA := Lib.hid hta; have HTS := Lib.hid hts
          clear hta hna e1 e2 e3 x48 hts
          go_wp2_with (at_builtin; refine wpList_append_own _ rfl _ _ 68 rfl (w.heap.size + 1) 4 i0 (.bool false) 1 1 Tryd.underlying68 hi hz0 hz1 hz2 rfl (by decide) u4 _ _ rfl (hrow.alloc _) ⟨wr.heap.size, 0, none⟩ 1 1 [.bool false] rfl rfl (cell_one_new _ _ _) (by simp [Value.oneCell']) (by unfold maxLen; omega) (by omega) (by simp; omega) ?_; intro v' w2 hown' hgrow _; have hq1 := own_grown_low hrow hgrow w.heap.size (by omega) q1.lt)
          go_roundw
          case rel => exact ⟨k + 1, by omega, by go_num, HTA.out, by rw [HTS.out]; exact hown', hq1.trans q1, own_below hrow hgrow hBr (by omega) hBr.size⟩
          case measure => simp [intOf]; omega
        · by_cases x49 : s[k] = 49
          · have e1 : (s[k] == 48) = false := by rw [x49]; rfl
            have e2 : (s[k] == 49) = true := by rw [x49]; rfl
            have e3 : isDig s[k] = true := by unfold isDig; rw [e2]; simp
            replace n48 := n48.trans (congrArg not e1); replace n49 := n49.trans (congrArg not e2); rw [e1] at h48; rw [e2] at h49 hts; rw [e3, HALL.out] at hta
            have HTA := Lib.hid hta; have HTS := Lib.hid hts
            clear hta hna e1 e2 e3 x48 x49 hts
            go_wp2_with (at_builtin; refine wpList_append_own _ rfl _ _ 68 rfl (w.heap.size + 1) 4 i0 (.bool false) 1 1 Tryd.underlying68 hi hz0 hz1 hz2 rfl (by decide) u4 _ _ rfl (hrow.alloc _) ⟨wr.heap.size, 0, none⟩ 1 1 [.bool true] rfl rfl (cell_one_new _ _ _) (by simp [Value.oneCell']) (by unfold maxLen; omega) (by omega) (by simp; omega) ?_; intro v' w2 hown' hgrow _; have hq1 := own_grown_low hrow hgrow w.heap.size (by omega) q1.lt)
            go_roundw
            case rel => exact ⟨k + 1, by omega, by go_num, HTA.out, by rw [HTS.out]; exact hown', hq1.trans q1, own_below hrow hgrow hBr (by omega) hBr.size⟩
            case measure => simp [intOf]; omega
          · have e1 : (s[k] == 48) = false := by simpa using x48
            have e2 : (s[k] == 49) = false := by simpa using x49
            have e3 : isDig s[k] = false := by unfold isDig; rw [e1, e2]; rfl
            have hr : parseS s.data.toList = (11, []) := by
              unfold parseS; rw [HSL.out, if_neg hlong, hna e3]; rfl
            replace n48 := n48.trans (congrArg not e1); replace n49 := n49.trans (congrArg not e2); rw [e1] at h48; rw [e2] at h49
            have HR := Lib.hid hr
            clear hr hta hna e1 e2 e3 x49 x48 hts
            go_wp2
            rw [HR.out]
            exact bodyPost_ret (v := .tuple #[.agg #[.int .i64 0, .slice none 0 0], .int .i64 11]) (by simp [results, Tryd.results38, go_sem, c1, c2]) rfl
              (res_err 11 ((hBr.setCell (p := ⟨w.heap.size, 0, none⟩) (by simp) _).setCell (p := ⟨w.heap.size, 1, none⟩) (by simp) _))
      · obtain ⟨t, ht⟩ : ∃ t, t = s.data.toList.map (· == 49) := ⟨_, rfl⟩
        have htk : s.data.toList.take k = s.data.toList := List.take_of_length_le (by rw [HSL.out]; omega)
        have hr : parseS s.data.toList = ofS t := by
          have h1 := HALL.out
          rw [htk] at h1
          unfold parseS ofS; rw [ht, List.length_map, HSL.out, if_neg hlong, h1, if_neg hlong]; rfl
        have htl : t.length = s.size := by rw [ht, List.length_map, HSL.out]
        rw [htk, ← ht] at hrow
        obtain ⟨LA, lc, rfl, hLA⟩ := bools_of_own hrow
        have hof := rof_any LA _ lc _ wr rfl (by rw [htl]; unfold maxLen; omega) hLA
        have HOF := Lib.hid hof; have HR := Lib.hid hr
        clear hof hLA htk hr ht htl
        generalize t.length = LL at *
        generalize ofS t = R at *
        go_wp2_with (go_at_call 48; refine HOF.out.mono ?_; rintro e w3 ⟨A3, n3, c5, bs3, rfl, hn3, his3, hl3, hA3, hB3, hF3⟩; have HN3 := Lib.hid hn3; clear hn3; have q3 := q1.below hB3 q1.lt; obtain ⟨d1, d2, g1, g2⟩ := q3.two)
        rw [HR.out]
        have hBf := (hBr.trans (hB3.mono hBr.size))
        refine bodyPost_ret (v := .tuple #[.agg #[.int .i64 R.2.length, .slice A3 n3 c5], .int .i64 R.1]) (by simp [results, Tryd.results38, go_sem, d1, d2]) rfl
          ⟨A3, n3, c5, bs3, rfl, HN3.out, his3, hl3, ?_, (hBf.setCell (p := ⟨w.heap.size, 0, none⟩) (by simp) _).setCell (p := ⟨w.heap.size, 1, none⟩) (by simp) _, fun a ha hb => Nat.le_trans hBr.size (hF3 a ha hb)⟩
        have h1 := q1.lt
        have h2 := (hA3.set_low hF3 (p := ⟨w.heap.size, 0, none⟩) h1 (.int .i64 R.2.length)).set_low hF3 (p := ⟨w.heap.size, 1, none⟩) h1 (.slice A3 n3 c5)
        simpa using h2

theorem take_snoc_text (l : List Bool) (k : Nat) (h : k < l.length) : ((l.take (k + 1)).map dig).map (fun x => Value.int .u8 (x.toNat : Int)) = ((l.take k).map dig).map (fun x => Value.int .u8 (x.toNat : Int)) ++ [.int .u8 ((dig (l[k]?.getD false)).toNat : Int)] := by
  rw [List.take_add_one, List.getElem?_eq_getElem h, List.map_append, List.map_append]; rfl

end Go.Proofs.YteigekhfamapmaaDoor
