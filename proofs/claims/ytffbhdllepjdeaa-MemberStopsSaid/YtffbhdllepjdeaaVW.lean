/-
  The law of who stops: a node that sent and hears nothing but wrong frames stops at its next slot, and has nobody but itself in its set. Conditions: the numbers are bytes'.
-/
import Derived.Test.YtffbhdllepjdeaaVU
namespace Go.Proofs.Ytffbhdllepjdeaa
open Go.RowKit

/-- The set has the node itself, and none of the j behind it. -/
def Gone (own k j U : Nat) : Prop := U < 2 ^ k ∧ U.testBit own = true ∧ ∀ t, 1 ≤ t → t ≤ j → U.testBit ((own + t) % k) = false
theorem gone_all {own k U : Nat} (ho : own < k) (h : Gone own k (k - 1) U) : U = 2 ^ own := by
  refine set_ext h.1 (Nat.pow_lt_pow_right (by decide) ho) fun i hi => ?_
  rw [Nat.testBit_two_pow]
  by_cases e : own = i
  · subst e; rw [h.2.1]; simp
  · have ht := h.2.2 (if own ≤ i then i - own else i + k - own) (by split <;> omega) (by split <;> omega)
    have e2 : (own + (if own ≤ i then i - own else i + k - own)) % k = i := by
      split
      · rw [show own + (i - own) = i by omega]; exact Nat.mod_eq_of_lt hi
      · rw [show own + (i + k - own) = i + k by omega, Nat.add_mod_right]; exact Nat.mod_eq_of_lt hi
    rw [e2] at ht
    rw [ht]
    simp [e]
theorem stops_bad {own k j U : Nat} (k0 : 4 ≤ k) (k1 : k ≤ 8) (ho : own < k) (hj : j + 1 < k) (hU : Gone own k j U) :
    ∃ U' : Nat, Gone own k (j + 1) U' ∧ badV ⟨own, k, U, 1, (j : Int), 1, 0⟩ (((own + (j + 1)) % k : Nat) : Int) = (0, ⟨own, k, U', 1, (j : Int) + 1, 1, 0⟩) := by
  have p256 := pow_256 k1
  have hU1 : U < 2 ^ k := hU.1
  have hb : U.testBit own = true := hU.2.1
  have hok : okV ⟨own, k, U, 1, (j : Int), 1, 0⟩ := ok_mk (r := 0) k0 k1 ho (by omega) hU1 (by omega) (by omega) (by omega) (.inr hb) (fun h => by cases h)
  have hm : moreV (j : Int) = (j : Int) + 1 := by unfold moreV; omega
  have h256 : U < 256 := Nat.lt_of_lt_of_le hU1 p256
  have hsk : (own + (j + 1)) % k < k := Nat.mod_lt _ (by omega)
  have hso : (own + (j + 1)) % k ≠ own := by
    rcases Nat.lt_or_ge (own + (j + 1)) k with h | h
    · rw [Nat.mod_eq_of_lt h]; omega
    · rw [Nat.mod_eq_sub_mod h, Nat.mod_eq_of_lt (by omega)]; omega
  generalize hs : (own + (j + 1)) % k = s at *
  have hoth : othV ⟨own, k, U, 1, (j : Int), 1, 0⟩ (s : Int) := ⟨⟨by omega, by dsimp only; omega⟩, by dsimp only; omega⟩
  have ha := ask_ok hok hoth
  have hs8 : s < 8 := Nat.lt_of_lt_of_le hsk k1
  have e1 : outI (U : Int) (pw (s : Int)) = ((delN U s : Nat) : Int) := out_nat h256 hs8
  refine ⟨delN U s, ⟨del_lt hU1, ?_, fun t h1 ht => ?_⟩, ?_⟩
  · rw [del_test h256 hs8, hb]; simp [hso]
  · rw [del_test h256 hs8]
    rcases Nat.lt_or_ge t (j + 1) with h | h
    · rw [hU.2.2 t h1 (by omega)]; rfl
    · obtain rfl : t = j + 1 := by omega
      rw [hs]; simp
  · unfold badV failV goneV
    rw [if_pos ha, if_neg (by rintro ⟨h, _⟩; cases h)]
    dsimp only
    rw [e1, hm]
theorem stops_end {own k U : Nat} (k0 : 4 ≤ k) (k1 : k ≤ 8) (ho : own < k) (hU : Gone own k (k - 1) U) (F : Int) (hF : F = ((k - 1 : Nat) : Int)) : ownV ⟨own, k, U, 1, F, 1, 0⟩ = (0, 2, ⟨own, k, U, 1, F, 1, 0⟩) := by
  have hok : okV ⟨own, k, U, 1, F, 1, 0⟩ := ok_mk (r := 0) k0 k1 ho (by omega) hU.1 (by omega) (by omega) (by omega) (.inr hU.2.1) (fun h => by cases h)
  unfold ownV
  rw [if_pos hok, if_pos (show (1 : Int) ≤ F by omega)]

set_option maxRecDepth 8000 in
set_option maxHeartbeats 16000000 in
theorem stops_law (id n : Nat) (set : Int) (w : World) (hid : id ≤ 255) (hn : n ≤ 255) : Calls Try.prog 10 #[.int .u8 (id : Int), .int .u8 (n : Int), .int .i64 set] w fun e w' => e = .returned (.bool true) ∧ Below w.heap.size w w' := by
  obtain ⟨K, o, _, _, eK, eo, _, _, k0, k1, ho, _, _, _, _, _⟩ := three_of id n
  obtain ⟨k, rfl⟩ := Int.eq_ofNat_of_zero_le (show 0 ≤ K by omega)
  obtain ⟨own, rfl⟩ := Int.eq_ofNat_of_zero_le ho.1
  have hk0 : 4 ≤ k := by omega
  have hk1 : k ≤ 8 := by omega
  have hok : own < k := by omega
  obtain ⟨a, ha, ea⟩ := mask_nat set hk1
  obtain ⟨U, hU, how, _⟩ := goes_own (A := 1) hk0 hk1 hok ha (by omega)
  have hg0 : Gone own k 0 U := ⟨hU.1, (by have := hU.2 0 (by omega); rwa [Nat.add_zero, Nat.mod_eq_of_lt hok] at this), fun t h1 h2 => by omega⟩
  have h2 := fun V => vown_any ⟨own, k, a, 1, 0, 0, 0⟩ V
  rw [how] at h2
  obtain ⟨a', hda⟩ : ∃ a' : Int, a' = (a : Int) := ⟨_, rfl⟩
  obtain ⟨K, hK⟩ : ∃ K : Int, K = (k : Int) := ⟨_, rfl⟩
  obtain ⟨o, hO⟩ : ∃ o : Int, o = (own : Int) := ⟨_, rfl⟩
  obtain ⟨U0, hU0⟩ : ∃ U0 : Int, U0 = (U : Int) := ⟨_, rfl⟩
  have h1 := fun V => vnew_any own k a V
  rw [new_of hk0 hk1 hok ha] at h1
  rw [← hda] at h1 ea h2
  rw [← hK] at h1 eK eo k0 k1 ea h2
  rw [← hO] at h1 eo h2
  rw [← hU0] at h2
  have hgg : ∃ V : Nat, U0 = (V : Int) ∧ Gone own k 0 V := ⟨U, hU0, hg0⟩
  have hb := fun V => begunV_any V
  have HKK := Lib.hid hK; have HOO := Lib.hid hO; have HGG := Lib.hid hgg; clear ha hda hK hO ho hgg hg0 hU how hU0
  unfold ResV ResO MV.cells at *
  dsimp only at *
  have H1 := Lib.hid h1; have H2 := Lib.hid h2; have HB := Lib.hid hb; clear h1 h2 hb
  have hK0 : (K == 0) = false := by simp; omega
  have hK1 : K ≠ 0 := by omega
  have hoo : 0 ≤ o ∧ o < 8 := by have := HOO.out; omega
  have hpw := pw_mono (a := K) (b := pw K) k0 k1 rfl
  have p1 := pw_wrap (n := K) ⟨by omega, by omega⟩
  have p2 := pw_wrap (n := o) ⟨by omega, by omega⟩
  have bc := Below.refl w.heap.size w
  go_enter Try.func10, Try.ntmps10
  go_wp2_with fail
  refine (H1.out _).mono ?_
  rintro e w1 ⟨rfl, hC⟩
  dsimp only
  replace bc := bc.trans (hC.mono bc.size); clear hC
  rw [eo]
  clear eo eK
  have zb_km := bc.size
  have km := Blk.new w1 23 #[.int .i64 o, .int .i64 K, .int .i64 a', .int .i64 1, .int .i64 0, .int .i64 0, .int .i64 0]
  have al := Below.al w1 (.cells #[.int .i64 o, .int .i64 K, .int .i64 a', .int .i64 1, .int .i64 0, .int .i64 0, .int .i64 0] 23)
  replace bc := bc.trans (al.mono bc.size); clear al
  go_wp2_with fail
  generalize w1.alloc (.cells #[.int .i64 o, .int .i64 K, .int .i64 a', .int .i64 1, .int .i64 0, .int .i64 0, .int .i64 0] 23) = u1 at *
  generalize w1.heap.size = g1 at *
  refine (H2.out _).mono ?_
  rintro e w2 ⟨rfl, hC⟩
  dsimp only
  replace km := km.on hC; replace bc := bc.trans (hC.mono bc.size); clear hC
  obtain ⟨⟨pkm_0, pkm_1, pkm_2, pkm_3, pkm_4, pkm_5, pkm_6⟩, pkm_0f, pkm_1f, pkm_2f, pkm_3f, pkm_4f, pkm_5f, pkm_6f⟩ := km.seven
  have hG := st7 w2 (g1) (.int .i64 o) (.int .i64 K) (.int .i64 U0) (.int .i64 1) (.int .i64 0) (.int .i64 1) (.int .i64 0)
  replace bc := Below.off bc bc.size (by omega) hG; replace km := km.put7 (.int .i64 o) (.int .i64 K) (.int .i64 U0) (.int .i64 1) (.int .i64 0) (.int .i64 1) (.int .i64 0); clear hG
  go_wp2_with fail
  clear pkm_0 pkm_1 pkm_2 pkm_3 pkm_4 pkm_5 pkm_6 pkm_0f pkm_1f pkm_2f pkm_3f pkm_4f pkm_5f pkm_6f
  generalize ((((((w2.setCell ⟨g1, 0, none⟩ (.int .i64 o)).setCell ⟨g1, 1, none⟩ (.int .i64 K)).setCell ⟨g1, 2, none⟩ (.int .i64 U0)).setCell ⟨g1, 3, none⟩ (.int .i64 1)).setCell ⟨g1, 4, none⟩ (.int .i64 0)).setCell ⟨g1, 5, none⟩ (.int .i64 1)).setCell ⟨g1, 6, none⟩ (.int .i64 0) = u2 at *
  refine (HB.out _).mono ?_
  rintro e w3 ⟨rfl, hC⟩
  dsimp only
  replace km := km.on hC; replace bc := bc.trans (hC.mono bc.size); clear hC
  clear HB H1 H2 ea
  go_wp2_with fail
  go_loopw [13] (fun i wr => ∃ (j : Nat) (U' F' : Int), j + 1 ≤ k ∧ i = .int .i64 ((j : Int) + 1) ∧ Hid (F' = (j : Int) ∧ ∃ V : Nat, U' = (V : Int) ∧ Gone own k j V) ∧ Blk wr g1 23 (cM o K U' 1 F' 1 0) ∧ Below w.heap.size w wr)
    (fun i _ => k - (intOf i).toNat)
  case atStart => exact ⟨0, U0, 0, by omega, rfl, Lib.hid ⟨rfl, HGG.out⟩, km, bc⟩
  case round =>
    clear km bc HGG
    obtain ⟨j, U', F', hj, rfl, HJ, km, bc⟩ := hrel
    have zz : w.heap.size ≤ g1 := zb_km
    by_cases hlj : j + 1 < k
    · obtain ⟨hFj, V, hVU, hV⟩ := HJ.out
      obtain ⟨V', hV', hgo⟩ := stops_bad hk0 hk1 hok hlj hV
      have h4 := fun X => vbad_any ⟨own, k, V, 1, (j : Int), 1, 0⟩ (((own + (j + 1)) % k : Nat) : Int) X
      rw [hgo] at h4
      rw [← HKK.out, ← HOO.out, ← hVU] at h4
      obtain ⟨s, hs⟩ : ∃ s : Int, s = (((own + (j + 1)) % k : Nat) : Int) := ⟨_, rfl⟩
      have hs1 : (o + ((j : Int) + 1)) % K = s := by rw [HKK.out, HOO.out, hs]; norm_cast
      have hs2 : (o + ((j : Int) + 1)).tmod K = s := by rw [Int.tmod_eq_emod_of_nonneg (by have := HOO.out; omega)]; exact hs1
      have hs3 : (IntKind.i64.wrap (o + ((j : Int) + 1))).tmod K = s := by rw [IntWalk.i64_in _ (by have := HOO.out; omega)]; exact hs2
      rw [← hs] at h4
      have hV2 : ∃ X : Nat, (V' : Int) = (X : Int) ∧ Gone own k (j + 1) X := ⟨V', rfl, hV'⟩
      obtain ⟨F2, hF2⟩ : ∃ F2 : Int, F2 = (j : Int) + 1 := ⟨_, rfl⟩
      obtain ⟨U2, hU2⟩ : ∃ U2 : Int, U2 = (V' : Int) := ⟨_, rfl⟩
      rw [← hF2, ← hU2] at h4
      rw [← hFj] at h4
      rw [← hU2] at hV2
      have hnx : F2 = ((j + 1 : Nat) : Int) := by rw [hF2]; norm_cast
      unfold ResV MV.cells at *
      dsimp only at *
      have H4 := Lib.hid h4; have HV2 := Lib.hid hV2; have HNX := Lib.hid hnx; clear h4 hV2 hV hV' hgo HJ hs hU2 hFj hVU hF2 hnx
      have hji : (j : Int) + 1 < K := by have := HKK.out; omega
      have hj8 : j < 8 := by omega
      go_wp2_with fail
      have hdr : Below wr.heap.size wr wr.drew := (Below.refl _ _).drew
      replace km := km.on hdr; replace bc := bc.trans (hdr.mono bc.size)
      clear hdr
      obtain ⟨⟨pkm_0, pkm_1, pkm_2, pkm_3, pkm_4, pkm_5, pkm_6⟩, pkm_0f, pkm_1f, pkm_2f, pkm_3f, pkm_4f, pkm_5f, pkm_6f⟩ := km.seven
      go_region_law ((go_simp; go_at_call 24; with_reducible refine (H4.out _).mono ?_; rintro e v2 ⟨rfl, hC⟩; dsimp only; replace km := km.on hC; replace bc := bc.trans (hC.mono bc.size); clear hC; clear pkm_0 pkm_1 pkm_2 pkm_3 pkm_4 pkm_5 pkm_6 pkm_0f pkm_1f pkm_2f pkm_3f pkm_4f pkm_5f pkm_6f; obtain ⟨⟨zkm_0, zkm_1, zkm_2, zkm_3, zkm_4, zkm_5, zkm_6⟩, zkm_0f, zkm_1f, zkm_2f, zkm_3f, zkm_4f, zkm_5f, zkm_6f⟩ := km.seven))
      clear zkm_0 zkm_1 zkm_2 zkm_3 zkm_4 zkm_5 zkm_6 zkm_0f zkm_1f zkm_2f zkm_3f zkm_4f zkm_5f zkm_6f
      have hG := st7 v2 (g1) (.int .i64 o) (.int .i64 K) (.int .i64 U2) (.int .i64 1) (.int .i64 F2) (.int .i64 1) (.int .i64 0)
      replace bc := Below.off bc bc.size (by omega) hG; replace km := km.put7 (.int .i64 o) (.int .i64 K) (.int .i64 U2) (.int .i64 1) (.int .i64 F2) (.int .i64 1) (.int .i64 0); clear hG
      go_wp2
      clear hs1 hs2 hs3
      go_roundw
      case rel => exact ⟨j + 1, U2, F2, by omega, by go_num, Lib.hid ⟨HNX.out, HV2.out⟩, km, bc⟩
      case measure => simp [intOf]; omega
    · obtain ⟨hFj, V, hVU, hV⟩ := HJ.out
      obtain rfl : j = k - 1 := by omega
      have h5 := fun X => vown_any ⟨own, k, V, 1, F', 1, 0⟩ X
      rw [stops_end hk0 hk1 hok hV F' hFj] at h5
      rw [← HKK.out, ← HOO.out, ← hVU] at h5
      have hUo : U' = pw o := by rw [hVU, gone_all hok hV, HOO.out, pw_nat]
      unfold ResO MV.cells at *
      dsimp only at *
      have H5 := Lib.hid h5; clear h5
      have hjk : decide (((k - 1 : Nat) : Int) + 1 < K) = false := by have := HKK.out; simp; omega
      clear hFj hVU hV HJ
      subst hUo
      obtain ⟨⟨pkm_0, pkm_1, pkm_2, pkm_3, pkm_4, pkm_5, pkm_6⟩, pkm_0f, pkm_1f, pkm_2f, pkm_3f, pkm_4f, pkm_5f, pkm_6f⟩ := km.seven
      go_wp2_with fail
      clear pkm_0 pkm_1 pkm_2 pkm_3 pkm_4 pkm_5 pkm_6 pkm_0f pkm_1f pkm_2f pkm_3f pkm_4f pkm_5f pkm_6f
      refine (H5.out _).mono ?_
      rintro e v3 ⟨rfl, hC⟩
      dsimp only
      replace km := km.on hC; replace bc := bc.trans (hC.mono bc.size); clear hC
      obtain ⟨⟨pkm_0, pkm_1, pkm_2, pkm_3, pkm_4, pkm_5, pkm_6⟩, pkm_0f, pkm_1f, pkm_2f, pkm_3f, pkm_4f, pkm_5f, pkm_6f⟩ := km.seven
      go_wp2
      go_ret
      exact ⟨rfl, bc⟩
end Go.Proofs.Ytffbhdllepjdeaa
