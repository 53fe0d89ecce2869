/-
  The law of who goes on: a node that hears all others right goes on to send, is a member, and has them all in its set. Conditions: the numbers are bytes'.
-/
import Derived.Test.YtffbhdllepjdeaaVT
namespace Go.Proofs.Ytffbhdllepjdeaa
open Go.RowKit

/-- The set has the j nodes behind a node, and itself. -/
def Heard (own k j U : Nat) : Prop := U < 2 ^ k ∧ ∀ t, t ≤ j → U.testBit ((own + t) % k) = true
theorem heard_all {own k U : Nat} (hk : 0 < k) (ho : own < k) (h : Heard own k (k - 1) U) : U = 2 ^ k - 1 := by
  have hp : 0 < 2 ^ k := Nat.pow_pos (by decide)
  refine set_ext h.1 (by omega) fun i hi => ?_
  rw [Nat.testBit_two_pow_sub_one]
  have ht := h.2 (if own ≤ i then i - own else i + k - own) (by split <;> omega)
  have e : (own + (if own ≤ i then i - own else i + k - own)) % k = i := by
    split
    · rw [show own + (i - own) = i by omega]; exact Nat.mod_eq_of_lt hi
    · rw [show own + (i + k - own) = i + k by omega, Nat.add_mod_right]; exact Nat.mod_eq_of_lt hi
  rw [e] at ht
  rw [ht]
  simp [hi]
theorem goes_own {own k a : Nat} {A : Int} (k0 : 4 ≤ k) (k1 : k ≤ 8) (ho : own < k) (ha : a < 2 ^ k) (hA : 1 ≤ A ∧ A ≤ 8) :
    ∃ U : Nat, Heard own k 0 U ∧ ownV ⟨own, k, a, A, 0, 0, 0⟩ = (0, 1, ⟨own, k, U, 1, 0, 1, 0⟩) ∧ inV ⟨own, k, U, 1, 0, 1, 0⟩ = true := by
  have p256 := pow_256 k1
  have hok : okV ⟨own, k, a, A, 0, 0, 0⟩ := ok_mk (r := 0) k0 k1 ho (by omega) ha (by omega) (by omega) (by omega) (.inl rfl) (fun h => by cases h)
  have e : orI (a : Int) (pw (own : Int)) = ((addN a own : Nat) : Int) := or_nat (by omega) (by omega)
  have hs : ownV ⟨own, k, a, A, 0, 0, 0⟩ = (0, 1, ⟨own, k, (addN a own : Nat), 1, 0, 1, 0⟩) := by
    unfold ownV sentV
    rw [if_pos hok, if_neg (show ¬ (A ≤ 0) by omega)]
    dsimp only
    rw [e]
  refine ⟨addN a own, ⟨add_lt ha ho, fun t ht => ?_⟩, hs, ?_⟩
  · obtain rfl : t = 0 := by omega
    rw [Nat.add_zero, Nat.mod_eq_of_lt ho, add_test]; simp
  · have h := (sent_may hok).2
    unfold sentV at h
    dsimp only at h
    rw [e] at h
    exact h
theorem goes_good {own k j U : Nat} {G : Int} (k0 : 4 ≤ k) (k1 : k ≤ 8) (ho : own < k) (hj : j + 1 < k) (hU : Heard own k j U) (hG : (j = 0 ∧ G = 1) ∨ (1 ≤ j ∧ G = 0)) :
    ∃ U' : Nat, Heard own k (j + 1) U' ∧ goodV ⟨own, k, U, 1 + (j : Int), 0, G, 0⟩ (((own + (j + 1)) % k : Nat) : Int) 0 = (0, ⟨own, k, U', 1 + ((j : Int) + 1), 0, 0, 0⟩) := by
  have p256 := pow_256 k1
  have hU1 : U < 2 ^ k := hU.1
  have hb : U.testBit own = true := by have := hU.2 0 (by omega); rwa [Nat.add_zero, Nat.mod_eq_of_lt ho] at this
  have hok : okV ⟨own, k, U, 1 + (j : Int), 0, G, 0⟩ := ok_mk (r := 0) k0 k1 ho (by omega) hU.1 (by omega) (by omega) (by omega) (.inr hb) (fun h => by omega)
  have hm : moreV (1 + (j : Int)) = 1 + ((j : Int) + 1) := by unfold moreV; omega
  have h256 : U < 256 := Nat.lt_of_lt_of_le hU1 p256
  have ho8 : own < 8 := Nat.lt_of_lt_of_le ho k1
  have hsk : (own + (j + 1)) % k < k := Nat.mod_lt _ (by omega)
  have hso : (own + (j + 1)) % k ≠ own := by
    rcases Nat.lt_or_ge (own + (j + 1)) k with h | h
    · rw [Nat.mod_eq_of_lt h]; omega
    · rw [Nat.mod_eq_sub_mod h, Nat.mod_eq_of_lt (by omega)]; omega
  generalize hs : (own + (j + 1)) % k = s at *
  have hoth : othV ⟨own, k, U, 1 + (j : Int), 0, G, 0⟩ (s : Int) := ⟨⟨by omega, by dsimp only; omega⟩, by dsimp only; omega⟩
  have ha := ask_ok hok hoth
  have hs8 : s < 8 := Nat.lt_of_lt_of_le hsk k1
  have e1 : orI (U : Int) (pw (s : Int)) = ((addN U s : Nat) : Int) := or_nat h256 hs8
  have hlt : addN U s < 2 ^ k := add_lt hU.1 hsk
  have e2 : orI ((addN U s : Nat) : Int) (pw (own : Int)) = ((addN U s : Nat) : Int) := by
    rw [or_nat (Nat.lt_of_lt_of_le hlt p256) ho8, add_in hlt ho (by rw [add_test, hb]; rfl)]
  refine ⟨addN U s, ⟨hlt, fun t ht => ?_⟩, ?_⟩
  · rw [add_test]
    rcases Nat.lt_or_ge t (j + 1) with h | h
    · rw [hU.2 t (by omega)]; rfl
    · obtain rfl : t = j + 1 := by omega
      rw [hs]; simp
  · unfold goodV viewOfV viewsV setsV
    rw [if_pos ha, if_pos ha]
    dsimp only
    rcases hG with ⟨rfl, rfl⟩ | ⟨hj1, rfl⟩
    · rw [e1, e2]
      unfold rightV
      show ((0 : Int), (if (1 : Int) = 1 ∧ (0 : Int) = 1 then _ else if (1 : Int) = 2 ∧ _ then _ else if (1 : Int) ≠ 0 then _ else _ : MV)) = _
      rw [if_neg (by decide), if_neg (by rintro ⟨h, _⟩; cases h), if_pos (by decide)]
      dsimp only
      rw [hm]
    · rw [e1]
      unfold rightV
      show ((0 : Int), (if (0 : Int) = 1 ∧ (0 : Int) = 1 then _ else if (0 : Int) = 2 ∧ _ then _ else if (0 : Int) ≠ 0 then _ else _ : MV)) = _
      rw [if_neg (by decide), if_neg (by rintro ⟨h, _⟩; cases h), if_neg (by decide)]
      dsimp only
      rw [hm]
theorem new_of {own k a : Nat} (k0 : 4 ≤ k) (k1 : k ≤ 8) (ho : own < k) (ha : a < 2 ^ k) : newV own k a = (0, ⟨own, k, a, 0, 0, 0, 0⟩) := by
  have hok : okV ⟨own, k, a, 0, 0, 0, 0⟩ := ok_mk (r := 0) k0 k1 ho (by omega) ha (by omega) (by omega) (by omega) (.inl rfl) (fun h => by cases h)
  unfold newV
  rw [if_pos hok]

set_option maxRecDepth 8000 in
set_option maxHeartbeats 16000000 in
theorem goes_law (id n rounds : Nat) (set : Int) (w : World) (hid : id ≤ 255) (hn : n ≤ 255) (hr : rounds ≤ 255) : Calls Try.prog 9 #[.int .u8 (id : Int), .int .u8 (n : Int), .int .u8 (rounds : Int), .int .i64 set] w fun e w' => e = .returned (.bool true) ∧ Below w.heap.size w w' := by
  obtain ⟨K, o, _, _, eK, eo, _, _, k0, k1, ho, _, _, _, _, _⟩ := three_of id n
  obtain ⟨k, rfl⟩ := Int.eq_ofNat_of_zero_le (show 0 ≤ K by omega)
  obtain ⟨own, rfl⟩ := Int.eq_ofNat_of_zero_le ho.1
  have hk0 : 4 ≤ k := by omega
  have hk1 : k ≤ 8 := by omega
  have hok : own < k := by omega
  have p256 := pow_256 hk1
  obtain ⟨a, ha, ea⟩ := mask_nat set hk1
  obtain ⟨a', hda⟩ : ∃ a' : Int, a' = (a : Int) := ⟨_, rfl⟩
  obtain ⟨K, hK⟩ : ∃ K : Int, K = (k : Int) := ⟨_, rfl⟩
  obtain ⟨o, hO⟩ : ∃ o : Int, o = (own : Int) := ⟨_, rfl⟩
  have h1 := fun V => vnew_any own k a V
  rw [new_of hk0 hk1 hok ha] at h1
  rw [← hda] at h1 ea
  rw [← hK] at h1 eK eo k0 k1 ea
  rw [← hO] at h1 eo
  have hb := fun V => begunV_any V
  have HP := Lib.hid p256; have HAL := Lib.hid ha; have HDA := Lib.hid hda; have HKK := Lib.hid hK; have HOO := Lib.hid hO; clear p256 ha hda hK hO ho
  unfold ResV MV.cells at h1
  dsimp only at *
  have H1 := Lib.hid h1; have HB := Lib.hid hb; clear h1 hb
  have hK0 : (K == 0) = false := by simp; omega
  have hK1 : K ≠ 0 := by omega
  have hpw := pw_mono (a := K) (b := pw K) k0 k1 rfl
  have p1 := pw_wrap (n := K) ⟨by omega, by omega⟩
  have bc := Below.refl w.heap.size w
  go_enter Try.func9, Try.ntmps9
  go_wp2_with fail
  refine (H1.out _).mono ?_
  rintro e w1 ⟨rfl, hC⟩
  dsimp only
  replace bc := bc.trans (hC.mono bc.size); clear hC
  rw [eo]
  clear eo eK
  have zb_km := bc.size
  have km := Blk.new w1 23 #[.int .i64 o, .int .i64 K, .int .i64 a', .int .i64 1, .int .i64 0, .int .i64 0, .int .i64 0]
  have al := Below.al w1 (.cells #[.int .i64 o, .int .i64 K, .int .i64 a', .int .i64 1, .int .i64 0, .int .i64 0, .int .i64 0] 23)
  replace bc := bc.trans (al.mono bc.size); clear al
  go_wp2_with fail
  generalize w1.alloc (.cells #[.int .i64 o, .int .i64 K, .int .i64 a', .int .i64 1, .int .i64 0, .int .i64 0, .int .i64 0] 23) = u1 at *
  generalize w1.heap.size = g1 at *
  refine (HB.out _).mono ?_
  rintro e w2 ⟨rfl, hC⟩
  dsimp only
  replace km := km.on hC; replace bc := bc.trans (hC.mono bc.size); clear hC
  obtain ⟨R, hR1, hR9, eR⟩ : ∃ R : Nat, 1 ≤ R ∧ R ≤ 9 ∧ 1 + (rounds : Int) % 9 = (R : Int) := ⟨1 + rounds % 9, by omega, by omega, by omega⟩
  go_wp2_with fail
  have hst0 : ∃ u : Nat, a' = (u : Int) ∧ u < 2 ^ k := ⟨a, HDA.out, HAL.out⟩
  have HST0 := Lib.hid hst0; clear hst0 HDA HAL HB H1 ea
  go_loopw [48] (fun i wr => ∃ (r : Nat) (S' A' : Int), r ≤ R ∧ i = .int .i64 r ∧ Hid (∃ u : Nat, S' = (u : Int) ∧ u < 2 ^ k) ∧ Hid ((1 ≤ A' ∧ A' ≤ 8) ∧ (1 ≤ r → S' = pw K - 1 ∧ A' = K)) ∧ Blk wr g1 23 (cM o K S' A' 0 0 0) ∧ Below w.heap.size w wr)
    (fun i _ => R - (intOf i).toNat)
  case atStart => exact ⟨0, a', 1, by omega, rfl, HST0, Lib.hid ⟨by omega, fun h => by omega⟩, km, bc⟩
  case round =>
    clear km bc HST0
    obtain ⟨r, S', A', hr', rfl, HS, HA, km, bc⟩ := hrel
    have zb_km : w.heap.size ≤ g1 := zb_km
    by_cases hlt : r < R
    · obtain ⟨u, hu, hu2⟩ := HS.out
      obtain ⟨U, hU, how, hin⟩ := goes_own (A := A') hk0 hk1 hok hu2 HA.out.1
      have h2 := fun V => vown_any ⟨own, k, u, A', 0, 0, 0⟩ V
      have h3 := fun V => vin_any ⟨own, k, U, 1, 0, 1, 0⟩ V
      rw [how] at h2
      rw [hin] at h3
      rw [← HKK.out, ← HOO.out, ← hu] at h2
      rw [← HKK.out, ← HOO.out] at h3
      obtain ⟨U0, hU0⟩ : ∃ U0 : Int, U0 = (U : Int) := ⟨_, rfl⟩
      rw [← hU0] at h2 h3
      have hhd : ∃ V : Nat, U0 = (V : Int) ∧ Heard own k 0 V := ⟨U, hU0, hU⟩
      unfold ResO MV.cells at *
      dsimp only at *
      have H2 := Lib.hid h2; have H3 := Lib.hid h3; have HHD := Lib.hid hhd; clear h2 h3 hhd hU0 hU hin how hu hu2 HS HA
      have hri : (r : Int) < (R : Int) := by omega
      obtain ⟨⟨pkm_0, pkm_1, pkm_2, pkm_3, pkm_4, pkm_5, pkm_6⟩, pkm_0f, pkm_1f, pkm_2f, pkm_3f, pkm_4f, pkm_5f, pkm_6f⟩ := km.seven
      go_wp2_with fail
      clear pkm_0 pkm_1 pkm_2 pkm_3 pkm_4 pkm_5 pkm_6 pkm_0f pkm_1f pkm_2f pkm_3f pkm_4f pkm_5f pkm_6f
      refine (H2.out _).mono ?_
      rintro e w3 ⟨rfl, hC⟩
      dsimp only
      replace km := km.on hC; replace bc := bc.trans (hC.mono bc.size); clear hC
      have z_kx_km := km.lt
      have zb_kx := bc.size
      have kx := Blk.new w3 23 #[.int .i64 o, .int .i64 K, .int .i64 U0, .int .i64 1, .int .i64 0, .int .i64 1, .int .i64 0]
      have al := Below.al w3 (.cells #[.int .i64 o, .int .i64 K, .int .i64 U0, .int .i64 1, .int .i64 0, .int .i64 1, .int .i64 0] 23)
      replace km := km.on al; replace bc := bc.trans (al.mono bc.size); clear al
      go_wp2_with fail
      generalize w3.alloc (.cells #[.int .i64 o, .int .i64 K, .int .i64 U0, .int .i64 1, .int .i64 0, .int .i64 1, .int .i64 0] 23) = u2 at *
      generalize w3.heap.size = g2 at *
      refine (H3.out _).mono ?_
      rintro e w4 ⟨rfl, hC⟩
      dsimp only
      replace km := km.on hC; replace kx := kx.on hC; replace bc := bc.trans (hC.mono bc.size); clear hC
      go_wp2_with fail
      go_loopw [16] (fun i wr => ∃ (j : Nat) (U' Aj G' : Int), j + 1 ≤ k ∧ i = .int .i64 ((j : Int) + 1) ∧ Hid (Aj = 1 + (j : Int) ∧ (∃ V : Nat, U' = (V : Int) ∧ Heard own k j V) ∧ ((j = 0 ∧ G' = 1) ∨ (1 ≤ j ∧ G' = 0))) ∧ Blk wr g1 23 (cM o K S' A' 0 0 0) ∧ Blk wr g2 23 (cM o K U' Aj 0 G' 0) ∧ Below w.heap.size w wr)
        (fun i _ => k - (intOf i).toNat)
      case atStart => exact ⟨0, U0, 1, 1, by omega, rfl, Lib.hid ⟨by omega, HHD.out, .inl ⟨rfl, rfl⟩⟩, km, kx, bc⟩
      case round =>
        clear km kx bc HHD
        obtain ⟨j, U', Aj, G', hj, rfl, HJ, km, kx, bc⟩ := hrel
        by_cases hlj : j + 1 < k
        · obtain ⟨hAj, ⟨V, hVU, hV⟩, hg⟩ := HJ.out
          obtain ⟨V', hV', hgo⟩ := goes_good hk0 hk1 hok hlj hV hg
          have h4 := fun X => vgood_any ⟨own, k, V, 1 + (j : Int), 0, G', 0⟩ (((own + (j + 1)) % k : Nat) : Int) 0 X
          rw [hgo] at h4
          rw [← HKK.out, ← HOO.out, ← hVU] at h4
          obtain ⟨s, hs⟩ : ∃ s : Int, s = (((own + (j + 1)) % k : Nat) : Int) := ⟨_, rfl⟩
          have hs1 : (o + ((j : Int) + 1)) % K = s := by rw [HKK.out, HOO.out, hs]; norm_cast
          have hs2 : (o + ((j : Int) + 1)).tmod K = s := by rw [Int.tmod_eq_emod_of_nonneg (by have := HOO.out; omega)]; exact hs1
          have hs3 : (IntKind.i64.wrap (o + ((j : Int) + 1))).tmod K = s := by rw [IntWalk.i64_in _ (by have := HOO.out; omega)]; exact hs2
          rw [← hs] at h4
          have hV2 : ∃ X : Nat, (V' : Int) = (X : Int) ∧ Heard own k (j + 1) X := ⟨V', rfl, hV'⟩
          obtain ⟨A2, hA2⟩ : ∃ A2 : Int, A2 = 1 + ((j : Int) + 1) := ⟨_, rfl⟩
          obtain ⟨U2, hU2⟩ : ∃ U2 : Int, U2 = (V' : Int) := ⟨_, rfl⟩
          rw [← hA2, ← hAj, ← hU2] at h4
          rw [← hU2] at hV2
          have hnx : A2 = 1 + ((j + 1 : Nat) : Int) := by rw [hA2]; norm_cast
          unfold ResV MV.cells at *
          dsimp only at *
          have H4 := Lib.hid h4; have HV2 := Lib.hid hV2; have HNX := Lib.hid hnx; clear h4 hV2 hV hV' hgo hg HJ hs hU2 hAj hVU hA2 hnx
          have hji : (j : Int) + 1 < K := by have := HKK.out; omega
          have hoo : 0 ≤ o ∧ o < 8 := by have := HOO.out; omega
          have hK8 : K ≤ 8 := k1
          have hj8 : j < 8 := by omega
          go_wp2_with fail
          have hdr : Below wr.heap.size wr wr.drew := (Below.refl _ _).drew
          replace km := km.on hdr; replace kx := kx.on hdr; replace bc := bc.trans (hdr.mono bc.size)
          clear hdr
          obtain ⟨⟨pkm_0, pkm_1, pkm_2, pkm_3, pkm_4, pkm_5, pkm_6⟩, pkm_0f, pkm_1f, pkm_2f, pkm_3f, pkm_4f, pkm_5f, pkm_6f⟩ := km.seven
          obtain ⟨⟨pkx_0, pkx_1, pkx_2, pkx_3, pkx_4, pkx_5, pkx_6⟩, pkx_0f, pkx_1f, pkx_2f, pkx_3f, pkx_4f, pkx_5f, pkx_6f⟩ := kx.seven
          go_region_law ((go_simp; go_at_call 22; with_reducible refine (H4.out _).mono ?_; rintro e v2 ⟨rfl, hC⟩; dsimp only; replace km := km.on hC; replace kx := kx.on hC; replace bc := bc.trans (hC.mono bc.size); clear hC; clear pkm_0 pkm_1 pkm_2 pkm_3 pkm_4 pkm_5 pkm_6 pkm_0f pkm_1f pkm_2f pkm_3f pkm_4f pkm_5f pkm_6f pkx_0 pkx_1 pkx_2 pkx_3 pkx_4 pkx_5 pkx_6 pkx_0f pkx_1f pkx_2f pkx_3f pkx_4f pkx_5f pkx_6f; obtain ⟨⟨zkx_0, zkx_1, zkx_2, zkx_3, zkx_4, zkx_5, zkx_6⟩, zkx_0f, zkx_1f, zkx_2f, zkx_3f, zkx_4f, zkx_5f, zkx_6f⟩ := kx.seven))
          clear zkx_0 zkx_1 zkx_2 zkx_3 zkx_4 zkx_5 zkx_6 zkx_0f zkx_1f zkx_2f zkx_3f zkx_4f zkx_5f zkx_6f
          have hG := st7 v2 (g2) (.int .i64 o) (.int .i64 K) (.int .i64 U2) (.int .i64 A2) (.int .i64 0) (.int .i64 0) (.int .i64 0)
          replace km := km.grown hG (some_ne (by omega)); replace bc := Below.off bc bc.size (by omega) hG; replace kx := kx.put7 (.int .i64 o) (.int .i64 K) (.int .i64 U2) (.int .i64 A2) (.int .i64 0) (.int .i64 0) (.int .i64 0); clear hG
          go_wp2
          clear hs1 hs2 hs3
          go_roundw
          case rel => exact ⟨j + 1, U2, A2, 0, by omega, by go_num, Lib.hid ⟨HNX.out, HV2.out, .inr ⟨by omega, rfl⟩⟩, km, kx, bc⟩
          case measure => simp [intOf]; omega
        · obtain ⟨hAj, ⟨V, hVU, hV⟩, hg⟩ := HJ.out
          obtain rfl : j = k - 1 := by omega
          have hvk := heard_all (by omega) hok hV
          have hUp : U' = pw K - 1 := by rw [hVU, hvk, HKK.out, pw_nat]; have := Nat.pow_pos (n := k) (show 0 < 2 by decide); omega
          have hAK : Aj = K := by rw [hAj, HKK.out]; omega
          obtain rfl : G' = 0 := by omega
          have hV3 : ∃ u : Nat, U' = (u : Int) ∧ u < 2 ^ k := ⟨V, hVU, hV.1⟩
          have HV3 := Lib.hid hV3; have HUP := Lib.hid hUp; have HAK := Lib.hid hAK
          have hjk : decide (((k - 1 : Nat) : Int) + 1 < K) = false := by have := HKK.out; simp; omega
          clear hV3 hUp hAK hAj hVU hV hvk hg HJ
          obtain ⟨⟨pkm_0, pkm_1, pkm_2, pkm_3, pkm_4, pkm_5, pkm_6⟩, pkm_0f, pkm_1f, pkm_2f, pkm_3f, pkm_4f, pkm_5f, pkm_6f⟩ := km.seven
          obtain ⟨⟨pkx_0, pkx_1, pkx_2, pkx_3, pkx_4, pkx_5, pkx_6⟩, pkx_0f, pkx_1f, pkx_2f, pkx_3f, pkx_4f, pkx_5f, pkx_6f⟩ := kx.seven
          have hG := st7 wr (g1) (.int .i64 o) (.int .i64 K) (.int .i64 U') (.int .i64 Aj) (.int .i64 0) (.int .i64 0) (.int .i64 0)
          replace kx := kx.grown hG (some_ne (by omega)); replace bc := Below.off bc bc.size (by omega) hG; replace km := km.put7 (.int .i64 o) (.int .i64 K) (.int .i64 U') (.int .i64 Aj) (.int .i64 0) (.int .i64 0) (.int .i64 0); clear hG
          go_wp2
          go_roundw
          case rel => exact ⟨r + 1, U', Aj, by omega, by go_num, HV3, Lib.hid ⟨by have := HAK.out; omega, fun _ => ⟨HUP.out, HAK.out⟩⟩, km, bc⟩
          case measure => simp [intOf]; omega
    · obtain rfl : r = R := by omega
      obtain ⟨-, hfin⟩ := HA.out
      obtain ⟨rfl, rfl⟩ := hfin hR1
      clear HA HS
      obtain ⟨⟨pkm_0, pkm_1, pkm_2, pkm_3, pkm_4, pkm_5, pkm_6⟩, pkm_0f, pkm_1f, pkm_2f, pkm_3f, pkm_4f, pkm_5f, pkm_6f⟩ := km.seven
      go_wp2
      go_ret
      exact ⟨rfl, bc⟩
end Go.Proofs.Ytffbhdllepjdeaa
