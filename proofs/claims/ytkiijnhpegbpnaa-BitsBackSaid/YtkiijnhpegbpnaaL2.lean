/-
  There and back, for all bits, numbers, widths and places. No condition but that the bytes and the places can be read.
-/
import Derived.Test.YtkiijnhpegbpnaaL1
import Derived.Deep.DeepCutAuto
namespace Go.Proofs.Ytkiijnhpegbpnaa
open Go.RowKit

/-- What is left behind each part: the two boxes, and all that was there. -/
def BackRel (w : World) (a0 a1 b0 b1 : Value) (W : World) : Prop := Blk W w.heap.size 24 #[a0, a1] ∧ Blk W (w.heap.size + 1) 24 #[b0, b1] ∧ Below w.heap.size w W
theorem BackRel.below {w : World} {a0 a1 b0 b1 : Value} {W W' : World} (h : BackRel w a0 a1 b0 b1 W) (hb : Below W.heap.size W W') : BackRel w a0 a1 b0 b1 W' :=
  ⟨h.1.below hb h.1.lt, h.2.1.below hb h.2.1.lt, h.2.2.trans (hb.mono h.2.2.size)⟩
theorem BackRel.alloc {w : World} {a0 a1 b0 b1 : Value} {W : World} (h : BackRel w a0 a1 b0 b1 W) (o : Obj) : BackRel w a0 a1 b0 b1 (W.alloc o) := h.below ((Below.refl _ _).alloc (Nat.le_refl _) _)

theorem Byt.next {w0 w1 : World} {A : Option Addr} {bs : List UInt8} (h : Byt w0.heap.size w0 A bs) (hb : Below w0.heap.size w0 w1) (o : Obj) : Byt (w1.alloc o).heap.size (w1.alloc o) A bs :=
  ((h.below hb).below ((Below.refl _ _).alloc hb.size _)).mono (by have := hb.size; simp; omega)
theorem Byt.own {w : World} {A : Option Addr} {bs : List UInt8} (h : Byt w.heap.size w A bs) (o : Obj) : Byt (w.alloc o).heap.size (w.alloc o) A bs := h.next (Below.refl _ _) o

theorem join_two (N N' : Int) (A A' : Option Addr) (n n' c c' : Nat) (bs bs' : List UInt8) (wc : World) (hn : n = bs.length) (hn' : n' = bs'.length) (hm : n ≤ maxLen) (hm' : n' ≤ maxLen)
    (hA : Byt (wc.alloc (.cells #[.int .i64 N, .slice A n c, .int .i64 N', .slice A' n' c'] 24)).heap.size (wc.alloc (.cells #[.int .i64 N, .slice A n c, .int .i64 N', .slice A' n' c'] 24)) A bs)
    (hA' : Byt (wc.alloc (.cells #[.int .i64 N, .slice A n c, .int .i64 N', .slice A' n' c'] 24)).heap.size (wc.alloc (.cells #[.int .i64 N, .slice A n c, .int .i64 N', .slice A' n' c'] 24)) A' bs') :
    Calls Try.prog 27 #[.slice (some ⟨wc.heap.size, 0, none⟩) 2 2] (wc.alloc (.cells #[.int .i64 N, .slice A n c, .int .i64 N', .slice A' n' c'] 24)) (Res (wc.alloc (.cells #[.int .i64 N, .slice A n c, .int .i64 N', .slice A' n' c'] 24)) (joinS [⟨N, A, n, c, bs⟩, ⟨N', A', n', c', bs'⟩])) := by
  have hk : Blk (wc.alloc (.cells #[.int .i64 N, .slice A n c, .int .i64 N', .slice A' n' c'] 24)) wc.heap.size 24 #[.int .i64 N, .slice A n c, .int .i64 N', .slice A' n' c'] := Blk.new wc 24 _
  refine join_any (some ⟨wc.heap.size, 0, none⟩) 2 2 [⟨N, A, n, c, bs⟩, ⟨N', A', n', c', bs'⟩] _ rfl (by unfold maxLen; omega) (fun _ => ⟨wc.heap.size, 0, rfl, by simp, fun j x hj => ?_⟩) (fun x hx => ?_)
  · rcases j with _ | _ | j
    · injection hj with hj
      subst hj
      exact ⟨(hk.cell 0).trans (by rfl), (hk.cell 1).trans (by rfl)⟩
    · injection hj with hj
      subst hj
      exact ⟨(hk.cell 2).trans (by rfl), (hk.cell 3).trans (by rfl)⟩
    · simp at hj
  · rcases List.mem_cons.1 hx with rfl | hx
    · exact ⟨hn, hm, hA⟩
    · rcases List.mem_cons.1 hx with rfl | hx
      · exact ⟨hn', hm', hA'⟩
      · cases hx

theorem same_of {N : Int} {k : Int} {bs cs : List UInt8} (h : N = k) (hb : cs = bs) : sameB k cs N bs = true := by subst h; subst hb; exact sameB_self _ _

set_option maxRecDepth 100000 in
set_option maxHeartbeats 4000000 in
theorem back_law (N N' width : Int) (v : Nat) (A A' Z : Option Addr) (n n' c c' zn zc : Nat) (bs bs' : List UInt8) (zs : List Int) (w : World) (hn : n = bs.length) (hn' : n' = bs'.length) (hm : n ≤ maxLen) (hm' : n' ≤ maxLen)
    (hA : Byt w.heap.size w A bs) (hA' : Byt w.heap.size w A' bs') (hv : v < 2 ^ 64) (hzn : zn = zs.length) (hzm : zn ≤ maxLen) (hZ : Ints w.heap.size w Z zs) :
    Calls Try.prog 7 #[.agg #[.int .i64 N, .slice A n c], .agg #[.int .i64 N', .slice A' n' c'], .int .u64 v, .int .i64 width, .slice Z zn zc] w fun e w' => e = .returned (.bool true) ∧ Below w.heap.size w w' := by
  have HN := Lib.hid hn; have HN' := Lib.hid hn'; have HA := Lib.hid hA; have HA' := Lib.hid hA'; have HZN := Lib.hid hzn; have HZ := Lib.hid hZ; have HM := Lib.hid hm; have HM' := Lib.hid hm'; have HZM := Lib.hid hzm
  clear hn hn' hA hA' hzn hZ hm hm' hzm
  obtain ⟨R, hR⟩ : ∃ R, R = putS N bs v width := ⟨_, rfl⟩
  have HR := Lib.hid hR; clear hR
  obtain ⟨R1, R2⟩ := R
  go_enter Try.func7, Try.ntmps7
  go_upto_if 39 with (first
    | (go_at_call 13; refine (begun_any _).mono ?_; rintro e w1 ⟨rfl, hB1⟩
       have hb1 : BackRel w (.int .i64 N) (.slice A n c) (.int .i64 N') (.slice A' n' c') w1 := ⟨(boxes2 hB1).1, (boxes2 hB1).2.1, (boxes2 hB1).2.2.2⟩
       obtain ⟨c1, c2, _, _⟩ := hb1.1.two)
    | (go_at_call 20; have h1 := put_any N width v A n c bs w1 HN.out HM.out ((HA.out.below hb1.2.2).mono hb1.2.2.size) hv; rw [← HR.out] at h1; refine h1.mono ?_; clear h1
       rintro e w2 ⟨A1, n1, e1, bs1, rfl, hn1, his1, hl1, hA1, hB2, _⟩
       dsimp only at hn1 his1 hl1
       have HN1 := Lib.hid hn1; have HI1 := Lib.hid his1; clear hn1 his1
       have hb2 := hb1.below hB2
       clear c1 c2))
  have hb3 := hb2.alloc (.cells #[.int .i64 R2.length, .slice A1 n1 e1] 24)
  have hx3 : Blk (w2.alloc (.cells #[.int .i64 R2.length, .slice A1 n1 e1] 24)) w2.heap.size 24 #[.int .i64 R2.length, .slice A1 n1 e1] := Blk.new w2 24 _
  have hy3 : Byt (w2.alloc (.cells #[.int .i64 R2.length, .slice A1 n1 e1] 24)).heap.size (w2.alloc (.cells #[.int .i64 R2.length, .slice A1 n1 e1] 24)) A1 bs1 := (hA1.below ((Below.refl _ _).alloc (Nat.le_refl _) _)).mono (by simp)
  generalize w2.alloc (.cells #[.int .i64 R2.length, .slice A1 n1 e1] 24) = w3 at *
  clear hb1 hb2 hB1 hB2 hA1
  go_cut [] (fun wx => BackRel w (.int .i64 N) (.slice A n c) (.int .i64 N') (.slice A' n' c') wx)
  case first =>
    by_cases hz : R1 = 0
    · subst hz
      obtain ⟨hgood, hw0, hw1, hsh, hR2⟩ := put_zero (N := N) HR.out rfl
      have hib := good_isBits hgood
      have hgl := good_length hgood
      dsimp only at hR2
      generalize hl : listOf N bs = l at *
      have hl2 : (R2.length : Int) = N + width := by rw [hR2, List.length_append, numBits_length]; omega
      have hnl : N = (l.length : Int) := hgl.symm
      have hg1 : getS R2.length bs1 N width = (0, v) := by
        rw [get_more HI1.out hl1, if_pos ⟨⟨hw0, hw1⟩, by omega, by omega⟩, hR2, hnl, Int.toNat_natCast, List.drop_left, List.take_of_length_le (Nat.le_of_eq (numBits_length _ _)), num_back v _ hsh]
      have hs1 : sliceS R2.length bs1 0 N = (0, l) := by
        have h2 := slice_more HI1.out hl1 0 l.length (by omega) (by omega)
        rw [hnl]
        refine h2.trans ?_
        rw [hR2, List.drop_zero, Nat.sub_zero, List.take_left]
      have hck : chk R2.length bs1 = 0 := chk_yes (isBits_good HI1.out hl1)
      have HG := Lib.hid hg1; have HS := Lib.hid hs1; have HCK := Lib.hid hck; have HIB := Lib.hid hib; have HNL := Lib.hid hnl
      clear hg1 hs1 hck hib hnl hgl hl2 hR2 hl hsh hgood HR
      obtain ⟨c1, c2, _, _⟩ := hb3.1.two
      obtain ⟨c3, c4, _, _⟩ := hx3.two
      go_wp2_with (first
        | (go_at_call 22; have h1 := get_any R2.length N width A1 n1 e1 bs1 w3 HN1.out (by rw [HN1.out]; exact bytes_small HI1.out hl1) hy3; rw [HG.out] at h1; refine h1.mono ?_; clear h1
           rintro e w4 ⟨rfl, hB4⟩
           dsimp only
           have hb4 := hb3.below hB4
           have hx4 := hx3.below hB4 hx3.lt
           have hy4 := (hy3.below hB4).mono hB4.size
           clear c1 c2 c3 c4
           obtain ⟨c1, c2, _, _⟩ := hb4.1.two
           obtain ⟨c3, c4, _, _⟩ := hx4.two)
        | (go_at_call 25; have h1 := slice_any R2.length 0 N A1 n1 e1 bs1 w4 HN1.out (by rw [HN1.out]; exact bytes_small HI1.out hl1) hy4; rw [HS.out] at h1; refine h1.mono ?_; clear h1
           rintro e w5 ⟨A2, n2, e2, bs2, rfl, hn2, his2, hl2, hA2, hB5, _⟩
           dsimp only at *
           have HN2 := Lib.hid hn2; have HI2 := Lib.hid his2; clear hn2 his2
           have hb5 := hb4.below hB5
           have hx5 := hx4.below hB5 hx4.lt
           have hb6 := hb5.alloc (.cells #[.int .i64 l.length, .slice A2 n2 e2] 24)
           have hy5 : Byt (w5.alloc (.cells #[.int .i64 l.length, .slice A2 n2 e2] 24)).heap.size (w5.alloc (.cells #[.int .i64 l.length, .slice A2 n2 e2] 24)) A1 bs1 := ((hy4.below hB5).below ((Below.refl _ _).alloc hB5.size _)).mono (by have := hB5.size; simp; omega)
           have hw5 : Byt (w5.alloc (.cells #[.int .i64 l.length, .slice A2 n2 e2] 24)).heap.size (w5.alloc (.cells #[.int .i64 l.length, .slice A2 n2 e2] 24)) A2 bs2 := (hA2.below ((Below.refl _ _).alloc (Nat.le_refl _) _)).mono (by simp)
           clear c1 c2 c3 c4
           obtain ⟨c1, c2, _, _⟩ := hb5.1.two
           obtain ⟨c3, c4, _, _⟩ := hx5.two
           have hlt5 := hb5.1.lt
           have hlt6 := hx5.lt)
        | (go_at_call 36; have h1 := same_any l.length N A2 A n2 n e2 c bs2 bs _ HN2.out HN.out hw5 ((HA.out.below hb6.2.2).mono hb6.2.2.size); have hsm : sameB l.length bs2 N bs = true := same_of HNL.out (HI2.out.unique HIB.out); rw [hsm] at h1; refine h1.mono ?_; clear h1 hsm
           rintro e w7 ⟨rfl, hB7⟩
           have hb7 := hb6.below hB7
           have hx7 := (hx5.alloc (.cells #[.int .i64 l.length, .slice A2 n2 e2] 24)).below hB7 (by simp; omega)
           have hy7 := (hy5.below hB7).mono hB7.size
           clear c1 c2 c3 c4
           obtain ⟨c3, c4, _, _⟩ := hx7.two)
        | (go_at_call 14; have h1 := check_any R2.length A1 n1 e1 bs1 w7 HN1.out (by rw [HN1.out]; exact bytes_small HI1.out hl1) hy7; rw [HCK.out] at h1; refine h1.mono ?_; clear h1
           rintro e w8 ⟨rfl, hB8⟩
           have hb8 := hb7.below hB8))
      go_meet
      exact hb8
    · have hzb : (R1 == 0) = false := by simpa using hz
      clear hz HR
      go_wp2
      go_meet
      exact hb3
  case rest =>
    have hb := hcut
    clear hcut hb3 hx3 hy3 HI1 HN1 hl1 HR
    obtain ⟨R, hR⟩ : ∃ R, R = joinS [⟨N, A, n, c, bs⟩, ⟨N', A', n', c', bs'⟩] := ⟨_, rfl⟩
    have HR := Lib.hid hR; clear hR
    obtain ⟨S1, S2⟩ := R
    obtain ⟨c1, c2, _, _⟩ := hb.1.two
    obtain ⟨c3, c4, _, _⟩ := hb.2.1.two
    have hba := hb.alloc (.cells #[.int .i64 N, .slice A n c, .int .i64 N', .slice A' n' c'] 24)
    have hj1 := join_two N N' A A' n n' c c' bs bs' wc HN.out HN'.out HM.out HM'.out ((HA.out.below hba.2.2).mono hba.2.2.size) ((HA'.out.below hba.2.2).mono hba.2.2.size)
    rw [← HR.out] at hj1
    have HJ1 := Lib.hid hj1; clear hj1
    go_upto_if 85 with (go_at_call 27; refine HJ1.out.mono ?_; rintro e w2 ⟨A1, n1, e1, bs1, rfl, hn1, his1, hl1, hA1, hB2, _⟩; dsimp only at hn1 his1 hl1; have HN1 := Lib.hid hn1; have HI1 := Lib.hid his1; clear hn1 his1; have hb2 := hba.below hB2; clear c1 c2 c3 c4 hba)
    have hb3 := hb2.alloc (.cells #[.int .i64 S2.length, .slice A1 n1 e1] 24)
    have hx3 : Blk (w2.alloc (.cells #[.int .i64 S2.length, .slice A1 n1 e1] 24)) w2.heap.size 24 #[.int .i64 S2.length, .slice A1 n1 e1] := Blk.new w2 24 _
    have hy3 : Byt (w2.alloc (.cells #[.int .i64 S2.length, .slice A1 n1 e1] 24)).heap.size (w2.alloc (.cells #[.int .i64 S2.length, .slice A1 n1 e1] 24)) A1 bs1 := hA1.own _
    generalize w2.alloc (.cells #[.int .i64 S2.length, .slice A1 n1 e1] 24) = w3 at *
    clear hb hb2 hB2 hA1
    go_cut [] (fun wx => BackRel w (.int .i64 N) (.slice A n c) (.int .i64 N') (.slice A' n' c') wx)
    case first =>
      by_cases hz : S1 = 0
      · subst hz
        obtain ⟨hgood, hS2⟩ := join_zero HR.out rfl
        dsimp only at hS2
        have hg : goodB N bs = true ∧ goodB N' bs' = true := by simpa [allGood] using hgood
        obtain ⟨hga, hgb⟩ := hg
        have hS3 : S2 = listOf N bs ++ listOf N' bs' := by rw [hS2]; simp [cat, lst, hga, hgb]
        have hla : lst N bs = listOf N bs := by simp [lst, hga]
        have hlb : lst N' bs' = listOf N' bs' := by simp [lst, hgb]
        have hia := good_isBits hga
        have hib := good_isBits hgb
        have hna := (good_length hga).symm
        have hnb := (good_length hgb).symm
        have hones : onesOf (lst S2.length bs1) = onesOf (lst N bs) + onesOf (lst N' bs') := by rw [lst_more HI1.out hl1, hS3, ones_append, hla, hlb]
        have hoa := ones_le (lst N bs)
        have hob := ones_le (lst N' bs')
        have hla2 := lst_length N bs
        have hlb2 := lst_length N' bs'
        clear hS2 hgood hga hgb hla hlb HR
        generalize hl : listOf N bs = l at *
        generalize hl' : listOf N' bs' = l' at *
        have hlen : S2.length = l.length + l'.length := by rw [hS3, List.length_append]
        have hs1 : sliceS S2.length bs1 0 N = (0, l) := by
          have h2 := slice_more HI1.out hl1 0 l.length (by omega) (by omega)
          rw [hna]
          refine h2.trans ?_
          rw [hS3, List.drop_zero, Nat.sub_zero, List.take_left]
        have hs2 : sliceS S2.length bs1 N S2.length = (0, l') := by
          have h2 := slice_more HI1.out hl1 l.length S2.length (by omega) (by omega)
          rw [hna]
          refine h2.trans ?_
          rw [hlen, Nat.add_sub_cancel_left, hS3, List.drop_left, List.take_length]
        have hck : chk S2.length bs1 = 0 := chk_yes (isBits_good HI1.out hl1)
        have HS1 := Lib.hid hs1; have HS2 := Lib.hid hs2; have HCK := Lib.hid hck; have HIA := Lib.hid hia; have HIB := Lib.hid hib; have HNA := Lib.hid hna; have HNB := Lib.hid hnb; have HON := Lib.hid hones
        clear hs1 hs2 hck hia hib hna hnb hS3 hl hl' hlen hones
        obtain ⟨c1, c2, _, _⟩ := hb3.1.two
        obtain ⟨c3, c4, _, _⟩ := hx3.two
        have hsl1 := slice_any S2.length 0 N A1 n1 e1 bs1 w3 HN1.out (by rw [HN1.out]; exact bytes_small HI1.out hl1) hy3
        rw [HS1.out] at hsl1
        have HSL1 := Lib.hid hsl1; clear hsl1
        go_wp2_with fail
        refine HSL1.out.mono ?_
        rintro e w5 ⟨A2, n2, e2, bs2, rfl, hn2, his2, hl2, hA2, hB5, _⟩
        dsimp only at hn2 his2 hl2 ⊢
        have HN2 := Lib.hid hn2; have HI2 := Lib.hid his2; clear hn2 his2
        have hb5 := hb3.below hB5
        have hx5 := hx3.below hB5 hx3.lt
        have hb6 := hb5.alloc (.cells #[.int .i64 l.length, .slice A2 n2 e2] 24)
        have hx6 := hx5.alloc (.cells #[.int .i64 l.length, .slice A2 n2 e2] 24)
        have hy6 : Byt (w5.alloc (.cells #[.int .i64 l.length, .slice A2 n2 e2] 24)).heap.size (w5.alloc (.cells #[.int .i64 l.length, .slice A2 n2 e2] 24)) A1 bs1 := hy3.next hB5 _
        have hw6 : Byt (w5.alloc (.cells #[.int .i64 l.length, .slice A2 n2 e2] 24)).heap.size (w5.alloc (.cells #[.int .i64 l.length, .slice A2 n2 e2] 24)) A2 bs2 := hA2.own _
        have hz6 : Blk (w5.alloc (.cells #[.int .i64 l.length, .slice A2 n2 e2] 24)) w5.heap.size 24 #[.int .i64 l.length, .slice A2 n2 e2] := Blk.new w5 24 _
        clear c1 c2 c3 c4
        obtain ⟨c1, c2, _, _⟩ := hb5.1.two
        obtain ⟨c3, c4, _, _⟩ := hx5.two
        have hlt5 := hb5.1.lt
        have hlt6 := hx5.lt
        have hsl2 := slice_any S2.length N S2.length A1 n1 e1 bs1 _ HN1.out (by rw [HN1.out]; exact bytes_small HI1.out hl1) hy6
        rw [HS2.out] at hsl2
        have HSL2 := Lib.hid hsl2; clear hsl2
        go_wp2_with fail
        refine HSL2.out.mono ?_
        rintro e w7 ⟨A3, n3, e3, bs3, rfl, hn3, his3, hl3, hA3, hB7, _⟩
        dsimp only at hn3 his3 hl3 ⊢
        have HN3 := Lib.hid hn3; have HI3 := Lib.hid his3; clear hn3 his3
        have hb8 := (hb6.below hB7).alloc (.cells #[.int .i64 l'.length, .slice A3 n3 e3] 24)
        have hx8 := (hx6.below hB7 hx6.lt).alloc (.cells #[.int .i64 l'.length, .slice A3 n3 e3] 24)
        have hz8 := (hz6.below hB7 hz6.lt).alloc (.cells #[.int .i64 l'.length, .slice A3 n3 e3] 24)
        have hq8 : Blk (w7.alloc (.cells #[.int .i64 l'.length, .slice A3 n3 e3] 24)) w7.heap.size 24 #[.int .i64 l'.length, .slice A3 n3 e3] := Blk.new w7 24 _
        have hy8 : Byt (w7.alloc (.cells #[.int .i64 l'.length, .slice A3 n3 e3] 24)).heap.size (w7.alloc (.cells #[.int .i64 l'.length, .slice A3 n3 e3] 24)) A1 bs1 := hy6.next hB7 _
        have hw8 : Byt (w7.alloc (.cells #[.int .i64 l'.length, .slice A3 n3 e3] 24)).heap.size (w7.alloc (.cells #[.int .i64 l'.length, .slice A3 n3 e3] 24)) A2 bs2 := hw6.next hB7 _
        have hv8 : Byt (w7.alloc (.cells #[.int .i64 l'.length, .slice A3 n3 e3] 24)).heap.size (w7.alloc (.cells #[.int .i64 l'.length, .slice A3 n3 e3] 24)) A3 bs3 := hA3.own _
        clear c1 c2 c3 c4 hx3 hy3 hx5 hx6 hy6 hw6 hz6 hb3 hb5 hA2 hA3 hB5 hB7
        go_wp2_with fail
        generalize w7.alloc (.cells #[.int .i64 l'.length, .slice A3 n3 e3] 24) = w8 at *
        have hbw := hb8.2.2
        obtain ⟨p1, p2⟩ := near_two hb8.1
        obtain ⟨p3, p4⟩ := near_two hb8.2.1
        obtain ⟨p5, p6⟩ := near_two hx8
        obtain ⟨p7, p8⟩ := near_two hz8
        obtain ⟨p9, p10⟩ := near_two hq8
        have ya : Byt w8.heap.size w8 A bs := (HA.out.below hbw).mono hbw.size
        have yb : Byt w8.heap.size w8 A' bs' := (HA'.out.below hbw).mono hbw.size
        have g1 := fun nw : NearW w8 => near_call (same_any l.length N A2 A n2 n e2 c bs2 bs nw.W HN2.out HN.out (near_byt hw8 nw) (near_byt ya nw))
        have g2 := fun nw : NearW w8 => near_call (same_any l'.length N' A3 A' n3 n' e3 c' bs3 bs' nw.W HN3.out HN'.out (near_byt hv8 nw) (near_byt yb nw))
        have g3 := fun nw : NearW w8 => near_call (check_any S2.length A1 n1 e1 bs1 nw.W HN1.out (by rw [HN1.out]; exact bytes_small HI1.out hl1) (near_byt hy8 nw))
        have g4 := fun nw : NearW w8 => near_call (ones_any S2.length A1 n1 e1 bs1 nw.W HN1.out (by rw [HN1.out]; exact bytes_small HI1.out hl1) (near_byt hy8 nw))
        have g5 := fun nw : NearW w8 => near_call (ones_any N A n c bs nw.W HN.out HM.out (near_byt ya nw))
        have g6 := fun nw : NearW w8 => near_call (ones_any N' A' n' c' bs' nw.W HN'.out HM'.out (near_byt yb nw))
        rw [same_of HNA.out (HI2.out.unique HIA.out)] at g1
        rw [same_of HNB.out (HI3.out.unique HIB.out)] at g2
        rw [HCK.out] at g3
        rw [HON.out] at g4
        have oa1 : onesOf (lst N bs) ≤ 4096 := by omega
        have ob1 : onesOf (lst N' bs') ≤ 4096 := by omega
        generalize onesOf (lst N bs) = oa at *
        generalize onesOf (lst N' bs') = ob at *
        have hsum : IntKind.i64.wrap ((oa : Int) + (ob : Int)) = (oa : Int) + (ob : Int) := IntWalk.i64_in _ (by omega)
        have hcast : (((oa + ob : Nat)) : Int) = (oa : Int) + (ob : Int) := by omega
        rw [hcast] at g4
        have G1 := Lib.hid g1; have G2 := Lib.hid g2; have G3 := Lib.hid g3; have G4 := Lib.hid g4; have G5 := Lib.hid g5; have G6 := Lib.hid g6; have HB8 := Lib.hid hb8
        clear g1 g2 g3 g4 g5 g6 hb8 hx8 hz8 hq8 hy8 hw8 hv8 hbw ya yb hcast hoa hob hla2 hlb2 oa1 ob1
        refine wp_region_near (by kernel_rfl) (by kernel_rfl) ?_
        repeat (go_big_quiet_step (first
          | (go_at_call 36; with_reducible exact G1.out _)
          | (go_at_call 36; with_reducible exact G2.out _)
          | (go_at_call 14; with_reducible exact G3.out _)
          | (go_at_call 17; with_reducible exact G4.out _)
          | (go_at_call 17; with_reducible exact G5.out _)
          | (go_at_call 17; with_reducible exact G6.out _)))
        refine wpQuiet_nil ?_
        rintro _ ⟨nw, rfl⟩
        go_wp2
        go_meet
        exact HB8.out.below nw.h
      · have hzb : (S1 == 0) = false := by simpa using hz
        clear hz HR
        go_wp2
        go_meet
        exact hb3
    case rest =>
      have hb := hcut
      clear hcut hb3 hx3 hy3 HI1 HN1 hl1 HR HJ1
      obtain ⟨R, hR⟩ : ∃ R, R = flipS N bs zs := ⟨_, rfl⟩
      have HR := Lib.hid hR; clear hR
      obtain ⟨F1, F2⟩ := R
      obtain ⟨c1, c2, _, _⟩ := hb.1.two
      have hf1 := flip_any N A Z n c zn zc bs zs wc HN.out HM.out ((HA.out.below hb.2.2).mono hb.2.2.size) HZN.out HZM.out ((HZ.out.below hb.2.2).mono hb.2.2.size)
      rw [← HR.out] at hf1
      have HF1 := Lib.hid hf1; clear hf1
      go_upto_if 142 with (go_at_call 29; refine HF1.out.mono ?_; rintro e w2 ⟨A1, n1, e1, bs1, rfl, hn1, his1, hl1, hA1, hB2, _⟩; dsimp only at hn1 his1 hl1; have HN1 := Lib.hid hn1; have HI1 := Lib.hid his1; clear hn1 his1; have hb2 := hb.below hB2; clear c1 c2)
      have hb3 := hb2.alloc (.cells #[.int .i64 F2.length, .slice A1 n1 e1] 24)
      have hx3 : Blk (w2.alloc (.cells #[.int .i64 F2.length, .slice A1 n1 e1] 24)) w2.heap.size 24 #[.int .i64 F2.length, .slice A1 n1 e1] := Blk.new w2 24 _
      have hy3 : Byt (w2.alloc (.cells #[.int .i64 F2.length, .slice A1 n1 e1] 24)).heap.size (w2.alloc (.cells #[.int .i64 F2.length, .slice A1 n1 e1] 24)) A1 bs1 := hA1.own _
      generalize w2.alloc (.cells #[.int .i64 F2.length, .slice A1 n1 e1] 24) = w3 at *
      clear hb hb2 hB2 hA1
      go_cut [] (fun wx => BackRel w (.int .i64 N) (.slice A n c) (.int .i64 N') (.slice A' n' c') wx)
      case first =>
        by_cases hz : F1 = 0
        · subst hz
          obtain ⟨hga, hok, hF2⟩ := flip_zero HR.out rfl
          dsimp only at hF2
          have hia := good_isBits hga
          have hna := (good_length hga).symm
          clear hga HR
          generalize hl : listOf N bs = l at *
          have hlen : F2.length = l.length := by rw [hF2, flips_length]
          have hs1 : flipS F2.length bs1 zs = (0, l) := by
            rw [flip_more HI1.out hl1 zs (by rw [hlen, ← hna]; exact hok), hF2, flips_twice]
          have hf2 := flip_any F2.length A1 Z n1 e1 zn zc bs1 zs w3 HN1.out (by rw [HN1.out]; exact bytes_small HI1.out hl1) hy3 HZN.out HZM.out ((HZ.out.below hb3.2.2).mono hb3.2.2.size)
          rw [hs1] at hf2
          have HF2 := Lib.hid hf2; have HIA := Lib.hid hia; have HNA := Lib.hid hna
          clear hf2 hs1 hia hna hlen hF2 hok hl
          obtain ⟨c3, c4, _, _⟩ := hx3.two
          go_wp2_with fail
          refine HF2.out.mono ?_
          rintro e w5 ⟨A2, n2, e2, bs2, rfl, hn2, his2, hl2, hA2, hB5, _⟩
          dsimp only at hn2 his2 hl2 ⊢
          have HN2 := Lib.hid hn2; have HI2 := Lib.hid his2; clear hn2 his2
          have hb5 := hb3.below hB5
          have hb6 := hb5.alloc (.cells #[.int .i64 l.length, .slice A2 n2 e2] 24)
          have hw6 : Byt (w5.alloc (.cells #[.int .i64 l.length, .slice A2 n2 e2] 24)).heap.size (w5.alloc (.cells #[.int .i64 l.length, .slice A2 n2 e2] 24)) A2 bs2 := hA2.own _
          clear c3 c4
          obtain ⟨c1, c2, _, _⟩ := hb5.1.two
          have hlt5 := hb5.1.lt
          have hsm := same_any l.length N A2 A n2 n e2 c bs2 bs _ HN2.out HN.out hw6 ((HA.out.below hb6.2.2).mono hb6.2.2.size)
          rw [same_of HNA.out (HI2.out.unique HIA.out)] at hsm
          have HSM := Lib.hid hsm; clear hsm
          go_wp2_with fail
          refine HSM.out.mono ?_
          rintro e w7 ⟨rfl, hB7⟩
          have hb7 := hb6.below hB7
          go_wp2
          go_meet
          exact hb7
        · have hzb : (F1 == 0) = false := by simpa using hz
          clear hz HR
          go_wp2
          go_meet
          exact hb3
      case rest =>
        have hb := hcut
        clear hcut hb3 hx3 hy3 HI1 HN1 hl1 HR HF1
        have hya : Byt wc.heap.size wc A bs := (HA.out.below hb.2.2).mono hb.2.2.size
        have htx := text_any N A n c bs wc HN.out HM.out hya
        have hlen := lst_length N bs
        have hpa := fun w1 => parse_any (textOf (lst N bs)) w1 (by rw [text_size]; unfold maxLen; omega)
        rw [text_back _ hlen] at hpa
        have HTX := Lib.hid htx; have HPA := Lib.hid hpa; have HLEN := Lib.hid hlen
        clear htx hpa hlen
        obtain ⟨c1, c2, _, _⟩ := hb.1.two
        go_wp2_with fail
        refine HTX.out.mono ?_
        rintro e w1 ⟨rfl, hB1⟩
        have hb1 := hb.below hB1
        clear c1 c2
        go_wp2_with fail
        refine (HPA.out _).mono ?_
        rintro e w2 ⟨A1, n1, e1, bs1, rfl, hn1, his1, hl1, hA1, hB2, _⟩
        dsimp only at hn1 his1 hl1 ⊢
        have HN1 := Lib.hid hn1; have HI1 := Lib.hid his1; clear hn1 his1
        have hb2 := hb1.below hB2
        have hb3 := hb2.alloc (.cells #[.int .i64 (lst N bs).length, .slice A1 n1 e1] 24)
        have hx3 : Blk (w2.alloc (.cells #[.int .i64 (lst N bs).length, .slice A1 n1 e1] 24)) w2.heap.size 24 #[.int .i64 (lst N bs).length, .slice A1 n1 e1] := Blk.new w2 24 _
        have hy3 : Byt (w2.alloc (.cells #[.int .i64 (lst N bs).length, .slice A1 n1 e1] 24)).heap.size (w2.alloc (.cells #[.int .i64 (lst N bs).length, .slice A1 n1 e1] 24)) A1 bs1 := hA1.own _
        obtain ⟨c1, c2, _, _⟩ := hb2.1.two
        have hlt2 := hb2.1.lt
        have hck := check_any N A n c bs (w2.alloc (.cells #[.int .i64 (lst N bs).length, .slice A1 n1 e1] 24)) HN.out HM.out ((HA.out.below hb3.2.2).mono hb3.2.2.size)
        by_cases hgood : goodB N bs = true
        · rw [chk_yes hgood] at hck
          have hls : lst N bs = listOf N bs := by simp [lst, hgood]
          have hia := good_isBits hgood
          have hna := (good_length hgood).symm
          rw [← hls] at hia hna
          have hsm := fun w4 (h4 : Below (w2.alloc (.cells #[.int .i64 (lst N bs).length, .slice A1 n1 e1] 24)).heap.size (w2.alloc (.cells #[.int .i64 (lst N bs).length, .slice A1 n1 e1] 24)) w4) => same_any (lst N bs).length N A1 A n1 n e1 c bs1 bs w4 HN1.out HN.out ((hy3.below h4).mono h4.size) ((HA.out.below (hb3.below h4).2.2).mono (hb3.below h4).2.2.size)
          rw [same_of hna (HI1.out.unique hia)] at hsm
          have HCK := Lib.hid hck; have HSM := Lib.hid hsm
          clear hck hsm hls hia hna hgood
          generalize (lst N bs).length = ll at *
          go_wp2_with fail
          refine HCK.out.mono ?_
          rintro e w4 ⟨rfl, hB4⟩
          have hb4 := hb3.below hB4
          have hx4 := hx3.below hB4 hx3.lt
          clear c1 c2
          obtain ⟨c1, c2, _, _⟩ := hb4.1.two
          obtain ⟨c3, c4, _, _⟩ := hx4.two
          go_wp2_with fail
          refine (HSM.out _ hB4).mono ?_
          rintro e w5 ⟨rfl, hB5⟩
          have hb5 := hb4.below hB5
          go_wp2
          go_ret
          exact ⟨rfl, hb5.2.2⟩
        · rw [chk_no (by simpa using hgood)] at hck
          have HCK := Lib.hid hck
          clear hck hgood
          go_wp2_with fail
          refine HCK.out.mono ?_
          rintro e w4 ⟨rfl, hB4⟩
          have hb4 := hb3.below hB4
          go_wp2
          go_ret
          exact ⟨rfl, hb4.2.2⟩
end Go.Proofs.Ytkiijnhpegbpnaa
