/-
  The law of who was told: a node whose frame its two next followers missed is out; if the second one says that it came, the first one is. Conditions: the numbers are bytes'.
-/
import Derived.Test.YtffbhdllepjdeaaVP
import Derived.Test.YtffbhdllepjdeaaVQ
namespace Go.Proofs.Ytffbhdllepjdeaa
open Go.RowKit

theorem add_in {m k n : Nat} (hm : m < 2 ^ n) (hk : k < n) (h : m.testBit k = true) : addN m k = m := by
  refine set_ext (add_lt hm hk) hm fun i _ => ?_
  rw [add_test]
  by_cases e : k = i
  · subst e; rw [h]; rfl
  · simp [e]
theorem add_del {m k n : Nat} (hm : m < 2 ^ n) (hn : n ≤ 8) (hk : k < n) (h : m.testBit k = true) : addN (delN m k) k = m := by
  have p256 := pow_256 hn
  refine set_ext (add_lt (del_lt hm) hk) hm fun i _ => ?_
  rw [add_test, del_test (by omega) (by omega)]
  by_cases e : k = i
  · subst e; rw [h]; simp
  · simp [e]
/-- What stands behind a frame that the first follower missed, and behind the second follower's word. -/
theorem told_facts {k own first second S : Nat} (k0 : 4 ≤ k) (k1 : k ≤ 8) (ho : own < k) (hf : first < k) (hs : second < k) (hof : first ≠ own) (hos : second ≠ own) (hfs : second ≠ first) (hS : S < 2 ^ k) (bo : S.testBit own = true) (bf : S.testBit first = true) (bs : S.testBit second = true) :
    ∃ W Q : Nat, newV own k S = (0, ⟨own, k, S, 0, 0, 0, 0⟩) ∧ ownV ⟨own, k, S, 1, 0, 0, 0⟩ = (0, 1, ⟨own, k, S, 1, 0, 1, 0⟩) ∧ outI S (pw own) = (W : Int) ∧ viewsV ⟨own, k, S, 1, 0, 1, 0⟩ first = [(S : Int), (W : Int)] ∧
      goodV ⟨own, k, S, 1, 0, 1, 0⟩ first 1 = (0, ⟨own, k, S, 1, 0, 2, first⟩) ∧ outI S (pw first) = (Q : Int) ∧ viewsV ⟨own, k, S, 1, 0, 2, first⟩ second = [(Q : Int), (W : Int)] ∧
      goodV ⟨own, k, S, 1, 0, 2, first⟩ second 0 = (0, ⟨own, k, Q, 2, 1, 0, 0⟩) ∧ inV ⟨own, k, Q, 2, 1, 0, 0⟩ = true ∧
      goodV ⟨own, k, S, 1, 0, 2, first⟩ second 1 = (0, ⟨own, k, W, 2, 1, 0, 0⟩) ∧ inV ⟨own, k, W, 2, 1, 0, 0⟩ = false ∧ S ≠ W ∧ Q ≠ W := by
  have p256 := pow_256 k1
  have z : ∀ {a r : Nat} {A F G : Int}, a < 2 ^ k → r < k → (0 ≤ A ∧ A ≤ 1048576) → (0 ≤ F ∧ F ≤ 1048576) → (0 ≤ G ∧ G ≤ 2) → (G = 0 ∨ a.testBit own = true) → (G = 2 → r ≠ own) → okV ⟨own, k, a, A, F, G, r⟩ := fun ha hr hA hF hG hh hd => ok_mk k0 k1 ho hr ha hA hF hG hh hd
  have z0 : ∀ {a : Nat} (A F : Int), a < 2 ^ k → (0 ≤ A ∧ A ≤ 1048576) → (0 ≤ F ∧ F ≤ 1048576) → okV ⟨own, k, a, A, F, 0, 0⟩ := fun A F ha hA hF => z (r := 0) ha (by omega) hA hF (by omega) (.inl rfl) (fun h => by cases h)
  have hW : delN S own < 2 ^ k := del_lt hS
  have hQ : delN S first < 2 ^ k := del_lt hS
  have eo : orI (S : Int) (pw (own : Int)) = (S : Int) := by rw [or_nat (by omega) (by omega), add_in hS ho bo]
  have ef : orI (S : Int) (pw (first : Int)) = (S : Int) := by rw [or_nat (by omega) (by omega), add_in hS hf bf]
  have es : orI (S : Int) (pw (second : Int)) = (S : Int) := by rw [or_nat (by omega) (by omega), add_in hS hs bs]
  have ew : outI (S : Int) (pw (own : Int)) = ((delN S own : Nat) : Int) := out_nat (by omega) (by omega)
  have eq : outI (S : Int) (pw (first : Int)) = ((delN S first : Nat) : Int) := out_nat (by omega) (by omega)
  have eb : orI ((delN S own : Nat) : Int) (pw (own : Int)) = (S : Int) := by rw [or_nat (by omega) (by omega), add_del hS k1 ho bo]
  have m1 : okV ⟨own, k, S, 1, 0, 1, 0⟩ := z (r := 0) hS (by omega) (by omega) (by omega) (by omega) (.inr bo) (fun h => by cases h)
  have m2 : okV ⟨own, k, S, 1, 0, 2, first⟩ := z hS hf (by omega) (by omega) (by omega) (.inr bo) (fun _ => hof)
  have o1 : othV ⟨own, k, S, 1, 0, 1, 0⟩ (first : Int) := ⟨⟨by omega, by dsimp only; omega⟩, by dsimp only; omega⟩
  have o2 : othV ⟨own, k, S, 1, 0, 2, first⟩ (second : Int) := ⟨⟨by omega, by dsimp only; omega⟩, by dsimp only; omega⟩
  have a1 := ask_ok m1 o1
  have a2 := ask_ok m2 o2
  have hsf : ¬ (second : Int) = (first : Int) := by omega
  have v1 : viewsV ⟨own, k, S, 1, 0, 1, 0⟩ first = [(S : Int), ((delN S own : Nat) : Int)] := by
    unfold viewsV setsV
    rw [if_pos a1]
    dsimp only
    rw [ef, eo, ew, if_neg (by decide), if_pos rfl]
  have v2 : viewsV ⟨own, k, S, 1, 0, 2, first⟩ second = [((delN S first : Nat) : Int), ((delN S own : Nat) : Int)] := by
    unfold viewsV setsV
    rw [if_pos a2]
    dsimp only
    rw [es, eo, ef, ew, eq, if_neg (by decide), if_neg (by decide), if_neg hsf]
  refine ⟨delN S own, delN S first, ?_, ?_, ew, v1, ?_, eq, v2, ?_, ?_, ?_, ?_, ?_, ?_⟩
  · unfold newV
    rw [if_pos (z0 0 0 hS (by omega) (by omega))]
  · unfold ownV sentV
    rw [if_pos (z0 1 0 hS (by omega) (by omega)), if_neg (show ¬ ((1 : Int) ≤ 0) by decide)]
    dsimp only
    rw [eo]
  · unfold goodV viewOfV
    rw [if_pos a1, v1]
    unfold rightV
    show ((0 : Int), (if (1 : Int) = 1 ∧ (1 : Int) = 1 then _ else _ : MV)) = _
    rw [if_pos ⟨rfl, rfl⟩]
    dsimp only
    rw [eb]
  · unfold goodV viewOfV
    rw [if_pos a2, v2]
    unfold rightV
    show ((0 : Int), (if (2 : Int) = 1 ∧ (0 : Int) = 1 then _ else if (2 : Int) = 2 ∧ (second : Int) ≠ (first : Int) then _ else _ : MV)) = _
    rw [if_neg (by decide), if_pos ⟨rfl, hsf⟩]
    rfl
  · unfold inV
    rw [decide_eq_true (z0 2 1 hQ (by omega) (by omega)), Bool.true_and]
    dsimp only
    rw [has_nat (by omega) (by omega), del_test (by omega) (by omega), bo]; simp; omega
  · unfold goodV viewOfV
    rw [if_pos a2, v2]
    unfold rightV
    show ((0 : Int), (if (2 : Int) = 1 ∧ (1 : Int) = 1 then _ else if (2 : Int) = 2 ∧ (second : Int) ≠ (first : Int) then _ else _ : MV)) = _
    rw [if_neg (by decide), if_pos ⟨rfl, hsf⟩]
    rfl
  · unfold inV
    rw [decide_eq_true (z0 2 1 hW (by omega) (by omega)), Bool.true_and]
    dsimp only
    rw [has_nat (by omega) (by omega), del_test (by omega) (by omega)]; simp
  · intro h
    have := congrArg (fun a => a.testBit own) h
    rw [del_test (by omega) (by omega), bo] at this
    simp at this
  · intro h
    have := congrArg (fun a => a.testBit own) h
    rw [del_test (by omega) (by omega), del_test (by omega) (by omega), bo] at this
    simp at this
    omega

theorem mask_nat (x : Int) {k : Nat} (hk : k ≤ 8) : ∃ a : Nat, a < 2 ^ k ∧ bits .and .i64 x (pw (k : Int) - 1) = (a : Int) := by
  have p256 := pow_256 hk
  have hp : 0 < 2 ^ k := Nat.pow_pos (by decide)
  have e : pw (k : Int) - 1 = ((2 ^ k - 1 : Nat) : Int) := by rw [pw_nat]; omega
  have h1 : (BitVec.ofInt 64 ((2 ^ k - 1 : Nat) : Int)).toNat = 2 ^ k - 1 := by
    rw [BitVec.ofInt_natCast, BitVec.toNat_ofNat]; exact Nat.mod_eq_of_lt (by omega)
  have key : (BitVec.ofInt 64 x &&& BitVec.ofInt 64 ((2 ^ k - 1 : Nat) : Int)).toNat = (BitVec.ofInt 64 x).toNat % 2 ^ k := by
    rw [BitVec.toNat_and, h1, Nat.and_two_pow_sub_one_eq_mod]
  refine ⟨(BitVec.ofInt 64 x).toNat % 2 ^ k, Nat.mod_lt _ hp, ?_⟩
  have hlt : (BitVec.ofInt 64 x).toNat % 2 ^ k < 2 ^ k := Nat.mod_lt _ hp
  rw [e]
  show IntKind.i64.wrap ((BitVec.ofInt 64 x &&& BitVec.ofInt 64 ((2 ^ k - 1 : Nat) : Int)).toNat : Nat) = _
  rw [key, IntKind.wrap_i64]
  omega
/-- The same, of numbers as the statement has them. -/
theorem told_ints (set : Int) {K o f s : Int} (k0 : 4 ≤ K) (k1 : K ≤ 8) (ho : 0 ≤ o ∧ o < K) (hf : 0 ≤ f ∧ f < K) (hs : 0 ≤ s ∧ s < K) (hof : f ≠ o) (hos : s ≠ o) (hfs : s ≠ f) :
    ∃ S W Q : Int, bits .or .i64 (bits .or .i64 (bits .or .i64 (bits .and .i64 set (pw K - 1)) (pw o)) (pw f)) (pw s) = S ∧ newV o K S = (0, ⟨o, K, S, 0, 0, 0, 0⟩) ∧ ownV ⟨o, K, S, 1, 0, 0, 0⟩ = (0, 1, ⟨o, K, S, 1, 0, 1, 0⟩) ∧ bits .andNot .i64 S (pw o) = W ∧ viewsV ⟨o, K, S, 1, 0, 1, 0⟩ f = [S, W] ∧
      goodV ⟨o, K, S, 1, 0, 1, 0⟩ f 1 = (0, ⟨o, K, S, 1, 0, 2, f⟩) ∧ bits .andNot .i64 S (pw f) = Q ∧ viewsV ⟨o, K, S, 1, 0, 2, f⟩ s = [Q, W] ∧
      goodV ⟨o, K, S, 1, 0, 2, f⟩ s 0 = (0, ⟨o, K, Q, 2, 1, 0, 0⟩) ∧ inV ⟨o, K, Q, 2, 1, 0, 0⟩ = true ∧
      goodV ⟨o, K, S, 1, 0, 2, f⟩ s 1 = (0, ⟨o, K, W, 2, 1, 0, 0⟩) ∧ inV ⟨o, K, W, 2, 1, 0, 0⟩ = false ∧ S ≠ W ∧ Q ≠ W := by
  obtain ⟨k, rfl⟩ := Int.eq_ofNat_of_zero_le (show 0 ≤ K by omega)
  obtain ⟨own, rfl⟩ := Int.eq_ofNat_of_zero_le ho.1
  obtain ⟨first, rfl⟩ := Int.eq_ofNat_of_zero_le hf.1
  obtain ⟨second, rfl⟩ := Int.eq_ofNat_of_zero_le hs.1
  have p256 := pow_256 (n := k) (by omega)
  obtain ⟨a, ha, ea⟩ := mask_nat set (k := k) (by omega)
  have h1 : addN a own < 2 ^ k := add_lt ha (by omega)
  have h2 : addN (addN a own) first < 2 ^ k := add_lt h1 (by omega)
  have h3 : addN (addN (addN a own) first) second < 2 ^ k := add_lt h2 (by omega)
  obtain ⟨W, Q, c1, c2, c3, c4, c5, c6, c7, c8, c9, c10, c11, c12, c13⟩ := told_facts (k := k) (own := own) (first := first) (second := second) (S := addN (addN (addN a own) first) second) (by omega) (by omega) (by omega) (by omega) (by omega) (by omega) (by omega) (by omega) h3 (by simp [add_test]) (by simp [add_test]) (by simp [add_test])
  refine ⟨_, W, Q, ?_, c1, c2, c3, c4, c5, c6, c7, c8, c9, c10, c11, by omega, by omega⟩
  rw [ea]
  show orI (orI (orI (a : Int) (pw own)) (pw first)) (pw second) = _
  rw [or_nat (by omega) (by omega), or_nat (by omega) (by omega), or_nat (by omega) (by omega)]
theorem three_of (id n : Nat) : ∃ K o f s : Int, 4 + (n : Int) % 5 = K ∧ (id : Int) % K = o ∧ ((id : Int) + 1) % K = f ∧ ((id : Int) + 2) % K = s ∧ 4 ≤ K ∧ K ≤ 8 ∧ (0 ≤ o ∧ o < K) ∧ (0 ≤ f ∧ f < K) ∧ (0 ≤ s ∧ s < K) ∧ f ≠ o ∧ s ≠ o ∧ s ≠ f := by
  refine ⟨_, _, _, _, rfl, rfl, rfl, rfl, ?_⟩
  have h : (n : Int) % 5 = 0 ∨ (n : Int) % 5 = 1 ∨ (n : Int) % 5 = 2 ∨ (n : Int) % 5 = 3 ∨ (n : Int) % 5 = 4 := by omega
  rcases h with h | h | h | h | h <;> rw [h] <;> omega
theorem idx_0 (a b : Int) : idxZ [a, b] a = 0 := by
  unfold idxZ
  have : ([a, b].findIdx? (· == a)) = some 0 := by simp [List.findIdx?_cons]
  rw [this]; rfl
theorem idx_1 {a b : Int} (h : a ≠ b) : idxZ [a, b] b = 1 := by
  unfold idxZ
  have : ([a, b].findIdx? (· == b)) = some 1 := by simp [List.findIdx?_cons, h]
  rw [this]; rfl

set_option maxRecDepth 8000 in
set_option maxHeartbeats 16000000 in
theorem told_law (id n : Nat) (set : Int) (came : Bool) (w : World) (hid : id ≤ 255) (hn : n ≤ 255) : Calls Try.prog 8 #[.int .u8 (id : Int), .int .u8 (n : Int), .int .i64 set, .bool came] w fun e w' => e = .returned (.bool true) ∧ Below w.heap.size w w' := by
  obtain ⟨K, o, f, s, eK, eo, ef, es, k0, k1, ho, hf, hs, hof, hos, hfs⟩ := three_of id n
  obtain ⟨S, W, Q, c0, c1, c2, c3, c4, c5, c6, c7, c8, c9, c10, c11, c12, c13⟩ := told_ints set k0 k1 ho hf hs hof hos hfs
  have h1 := fun V => vnew_any o K S V
  have h2 := fun V => vown_any ⟨o, K, S, 1, 0, 0, 0⟩ V
  have h3 := fun V => views_any ⟨o, K, S, 1, 0, 1, 0⟩ f V
  have h4 := fun V => vgood_any ⟨o, K, S, 1, 0, 1, 0⟩ f 1 V
  have h5 := fun V => views_any ⟨o, K, S, 1, 0, 2, f⟩ s V
  have h6 := fun V => vgood_any ⟨o, K, S, 1, 0, 2, f⟩ s 0 V
  have h7 := fun V => vgood_any ⟨o, K, S, 1, 0, 2, f⟩ s 1 V
  have h8 := fun V => vin_any ⟨o, K, Q, 2, 1, 0, 0⟩ V
  have h9 := fun V => vin_any ⟨o, K, W, 2, 1, 0, 0⟩ V
  have hb := fun V => begunV_any V
  have ht1 := fun gf lb V => toldI_any gf lb 9 [S, W] V (by decide)
  have ht2 := fun gf lb V => toldI_any gf lb 9 [Q, W] V (by decide)
  have hx1 := fun A c V (h : Ints V.heap.size V A [S, W]) => zindex_any A c 2 [S, W] W V rfl (by unfold maxLen; omega) h
  have hx2 := fun A c V (h : Ints V.heap.size V A [Q, W]) => zindex_any A c 2 [Q, W] Q V rfl (by unfold maxLen; omega) h
  have hx3 := fun A c V (h : Ints V.heap.size V A [Q, W]) => zindex_any A c 2 [Q, W] W V rfl (by unfold maxLen; omega) h
  rw [c1] at h1; rw [c2] at h2; rw [c4] at h3; rw [c5] at h4; rw [c7] at h5; rw [c8] at h6; rw [c10] at h7; rw [c9] at h8; rw [c11] at h9
  rw [idx_1 c12] at hx1; rw [idx_0] at hx2; rw [idx_1 c13] at hx3
  unfold ResV ResO MV.cells at *
  dsimp only [List.take, List.length] at *
  have H1 := Lib.hid h1; have H2 := Lib.hid h2; have H3 := Lib.hid h3; have H4 := Lib.hid h4; have H5 := Lib.hid h5; have H6 := Lib.hid h6; have H7 := Lib.hid h7; have H8 := Lib.hid h8; have H9 := Lib.hid h9; have HB := Lib.hid hb; have T1 := Lib.hid ht1; have T2 := Lib.hid ht2; have X1 := Lib.hid hx1; have X2 := Lib.hid hx2; have X3 := Lib.hid hx3
  clear h1 h2 h3 h4 h5 h6 h7 h8 h9 hb ht1 ht2 hx1 hx2 hx3 c1 c2 c4 c5 c7 c8 c9 c10 c11 c12 c13
  have hK0 : (K == 0) = false := by simp; omega
  have hK1 : K ≠ 0 := by omega
  have hpw := pw_mono (a := K) (b := pw K) k0 k1 rfl
  have p1 := pw_wrap (n := K) ⟨by omega, by omega⟩
  have p2 := pw_wrap (n := o) ⟨by omega, by omega⟩
  have p3 := pw_wrap (n := f) ⟨by omega, by omega⟩
  have p4 := pw_wrap (n := s) ⟨by omega, by omega⟩
  have bc := Below.refl w.heap.size w
  go_enter Try.func8, Try.ntmps8
  go_wp2_with fail
  go_quiet (fail)
  have hd := below_drewN bc nq
  generalize w.drewN nq = wq at *
  replace bc := hd
  rw [eo, ef, es]
  clear hd eK eo ef es
  go_wp2_with fail
  refine (H1.out _).mono ?_
  rintro e w1 ⟨rfl, hC⟩
  dsimp only
  replace bc := bc.trans (hC.mono bc.size); clear hC
  have zb_km := bc.size
  have km := Blk.new w1 23 #[.int .i64 o, .int .i64 K, .int .i64 S, .int .i64 1, .int .i64 0, .int .i64 0, .int .i64 0]
  have al := Below.al w1 (.cells #[.int .i64 o, .int .i64 K, .int .i64 S, .int .i64 1, .int .i64 0, .int .i64 0, .int .i64 0] 23)
  replace bc := bc.trans (al.mono bc.size); clear al
  go_wp2_with fail
  generalize w1.alloc (.cells #[.int .i64 o, .int .i64 K, .int .i64 S, .int .i64 1, .int .i64 0, .int .i64 0, .int .i64 0] 23) = u1 at *
  generalize w1.heap.size = g1 at *
  refine (H2.out _).mono ?_
  rintro e w2 ⟨rfl, hC⟩
  dsimp only
  replace km := km.on hC; replace bc := bc.trans (hC.mono bc.size); clear hC
  obtain ⟨⟨pkm_0, pkm_1, pkm_2, pkm_3, pkm_4, pkm_5, pkm_6⟩, pkm_0f, pkm_1f, pkm_2f, pkm_3f, pkm_4f, pkm_5f, pkm_6f⟩ := km.seven
  have hG := st7 w2 (g1) (.int .i64 o) (.int .i64 K) (.int .i64 S) (.int .i64 1) (.int .i64 0) (.int .i64 1) (.int .i64 0)
  replace bc := Below.off bc bc.size (by omega) hG; replace km := km.put7 (.int .i64 o) (.int .i64 K) (.int .i64 S) (.int .i64 1) (.int .i64 0) (.int .i64 1) (.int .i64 0); clear hG
  go_wp2_with fail
  clear pkm_0 pkm_1 pkm_2 pkm_3 pkm_4 pkm_5 pkm_6 pkm_0f pkm_1f pkm_2f pkm_3f pkm_4f pkm_5f pkm_6f
  generalize ((((((w2.setCell ⟨g1, 0, none⟩ (.int .i64 o)).setCell ⟨g1, 1, none⟩ (.int .i64 K)).setCell ⟨g1, 2, none⟩ (.int .i64 S)).setCell ⟨g1, 3, none⟩ (.int .i64 1)).setCell ⟨g1, 4, none⟩ (.int .i64 0)).setCell ⟨g1, 5, none⟩ (.int .i64 1)).setCell ⟨g1, 6, none⟩ (.int .i64 0) = u2 at *
  refine (HB.out _).mono ?_
  rintro e w3 ⟨rfl, hC⟩
  dsimp only
  replace km := km.on hC; replace bc := bc.trans (hC.mono bc.size); clear hC
  obtain ⟨⟨pkm_0, pkm_1, pkm_2, pkm_3, pkm_4, pkm_5, pkm_6⟩, pkm_0f, pkm_1f, pkm_2f, pkm_3f, pkm_4f, pkm_5f, pkm_6f⟩ := km.seven
  go_wp2_with fail
  clear pkm_0 pkm_1 pkm_2 pkm_3 pkm_4 pkm_5 pkm_6 pkm_0f pkm_1f pkm_2f pkm_3f pkm_4f pkm_5f pkm_6f
  refine (H3.out _).mono ?_
  rintro e w4a ⟨gf, lb, rfl, hent, htells, hC⟩
  dsimp only
  replace km := km.on hC; replace bc := bc.trans (hC.mono bc.size); clear hC
  have HE := Lib.hid hent; have HT := Lib.hid htells; clear hent htells
  go_wp2_with fail
  refine (T1.out gf lb _ HE.out HT.out).mono ?_
  rintro e w4 ⟨Bw4, dw4, rfl, -, hB, hC⟩
  dsimp only
  clear HE HT
  replace km := km.on hC; replace bc := bc.trans (hC.mono bc.size); clear hC
  have HBI := Lib.hid hB; clear hB
  go_wp2_with fail
  refine (X1.out _ _ _ HBI.out).mono ?_
  rintro e w5 ⟨rfl, hC⟩
  dsimp only
  clear HBI
  replace km := km.on hC; replace bc := bc.trans (hC.mono bc.size); clear hC
  obtain ⟨⟨pkm_0, pkm_1, pkm_2, pkm_3, pkm_4, pkm_5, pkm_6⟩, pkm_0f, pkm_1f, pkm_2f, pkm_3f, pkm_4f, pkm_5f, pkm_6f⟩ := km.seven
  go_wp2_with fail
  clear pkm_0 pkm_1 pkm_2 pkm_3 pkm_4 pkm_5 pkm_6 pkm_0f pkm_1f pkm_2f pkm_3f pkm_4f pkm_5f pkm_6f
  refine (H4.out _).mono ?_
  rintro e w6 ⟨rfl, hC⟩
  dsimp only
  replace km := km.on hC; replace bc := bc.trans (hC.mono bc.size); clear hC
  obtain ⟨⟨pkm_0, pkm_1, pkm_2, pkm_3, pkm_4, pkm_5, pkm_6⟩, pkm_0f, pkm_1f, pkm_2f, pkm_3f, pkm_4f, pkm_5f, pkm_6f⟩ := km.seven
  have hG := st7 w6 (g1) (.int .i64 o) (.int .i64 K) (.int .i64 S) (.int .i64 1) (.int .i64 0) (.int .i64 2) (.int .i64 f)
  replace bc := Below.off bc bc.size (by omega) hG; replace km := km.put7 (.int .i64 o) (.int .i64 K) (.int .i64 S) (.int .i64 1) (.int .i64 0) (.int .i64 2) (.int .i64 f); clear hG
  cases came
  · go_wp2_with fail
    clear pkm_0 pkm_1 pkm_2 pkm_3 pkm_4 pkm_5 pkm_6 pkm_0f pkm_1f pkm_2f pkm_3f pkm_4f pkm_5f pkm_6f
    generalize ((((((w6.setCell ⟨g1, 0, none⟩ (.int .i64 o)).setCell ⟨g1, 1, none⟩ (.int .i64 K)).setCell ⟨g1, 2, none⟩ (.int .i64 S)).setCell ⟨g1, 3, none⟩ (.int .i64 1)).setCell ⟨g1, 4, none⟩ (.int .i64 0)).setCell ⟨g1, 5, none⟩ (.int .i64 2)).setCell ⟨g1, 6, none⟩ (.int .i64 f) = u3 at *
    refine (H5.out _).mono ?_
    rintro e w7a ⟨gf, lb, rfl, hent, htells, hC⟩
    dsimp only
    replace km := km.on hC; replace bc := bc.trans (hC.mono bc.size); clear hC
    have HE := Lib.hid hent; have HT := Lib.hid htells; clear hent htells
    go_wp2_with fail
    refine (T2.out gf lb _ HE.out HT.out).mono ?_
    rintro e w7 ⟨Bw7, dw7, rfl, -, hB, hC⟩
    dsimp only
    clear HE HT
    replace km := km.on hC; replace bc := bc.trans (hC.mono bc.size); clear hC
    have HBI := Lib.hid hB; clear hB
    go_wp2_with fail
    refine (X3.out _ _ _ HBI.out).mono ?_
    rintro e w8 ⟨rfl, hC⟩
    dsimp only
    clear HBI
    replace km := km.on hC; replace bc := bc.trans (hC.mono bc.size); clear hC
    obtain ⟨⟨pkm_0, pkm_1, pkm_2, pkm_3, pkm_4, pkm_5, pkm_6⟩, pkm_0f, pkm_1f, pkm_2f, pkm_3f, pkm_4f, pkm_5f, pkm_6f⟩ := km.seven
    go_wp2_with fail
    clear pkm_0 pkm_1 pkm_2 pkm_3 pkm_4 pkm_5 pkm_6 pkm_0f pkm_1f pkm_2f pkm_3f pkm_4f pkm_5f pkm_6f
    refine (H7.out _).mono ?_
    rintro e w9 ⟨rfl, hC⟩
    dsimp only
    replace km := km.on hC; replace bc := bc.trans (hC.mono bc.size); clear hC
    obtain ⟨⟨pkm_0, pkm_1, pkm_2, pkm_3, pkm_4, pkm_5, pkm_6⟩, pkm_0f, pkm_1f, pkm_2f, pkm_3f, pkm_4f, pkm_5f, pkm_6f⟩ := km.seven
    have hG := st7 w9 (g1) (.int .i64 o) (.int .i64 K) (.int .i64 W) (.int .i64 2) (.int .i64 1) (.int .i64 0) (.int .i64 0)
    replace bc := Below.off bc bc.size (by omega) hG; replace km := km.put7 (.int .i64 o) (.int .i64 K) (.int .i64 W) (.int .i64 2) (.int .i64 1) (.int .i64 0) (.int .i64 0); clear hG
    go_wp2_with fail
    clear pkm_0 pkm_1 pkm_2 pkm_3 pkm_4 pkm_5 pkm_6 pkm_0f pkm_1f pkm_2f pkm_3f pkm_4f pkm_5f pkm_6f
    generalize ((((((w9.setCell ⟨g1, 0, none⟩ (.int .i64 o)).setCell ⟨g1, 1, none⟩ (.int .i64 K)).setCell ⟨g1, 2, none⟩ (.int .i64 W)).setCell ⟨g1, 3, none⟩ (.int .i64 2)).setCell ⟨g1, 4, none⟩ (.int .i64 1)).setCell ⟨g1, 5, none⟩ (.int .i64 0)).setCell ⟨g1, 6, none⟩ (.int .i64 0) = u4 at *
    refine (H9.out _).mono ?_
    rintro e w10 ⟨rfl, hC⟩
    dsimp only
    replace km := km.on hC; replace bc := bc.trans (hC.mono bc.size); clear hC
    obtain ⟨⟨pkm_0, pkm_1, pkm_2, pkm_3, pkm_4, pkm_5, pkm_6⟩, pkm_0f, pkm_1f, pkm_2f, pkm_3f, pkm_4f, pkm_5f, pkm_6f⟩ := km.seven
    go_wp2
    go_ret
    exact ⟨rfl, bc⟩
  · go_wp2_with fail
    clear pkm_0 pkm_1 pkm_2 pkm_3 pkm_4 pkm_5 pkm_6 pkm_0f pkm_1f pkm_2f pkm_3f pkm_4f pkm_5f pkm_6f
    generalize ((((((w6.setCell ⟨g1, 0, none⟩ (.int .i64 o)).setCell ⟨g1, 1, none⟩ (.int .i64 K)).setCell ⟨g1, 2, none⟩ (.int .i64 S)).setCell ⟨g1, 3, none⟩ (.int .i64 1)).setCell ⟨g1, 4, none⟩ (.int .i64 0)).setCell ⟨g1, 5, none⟩ (.int .i64 2)).setCell ⟨g1, 6, none⟩ (.int .i64 f) = u3 at *
    refine (H5.out _).mono ?_
    rintro e w7a ⟨gf, lb, rfl, hent, htells, hC⟩
    dsimp only
    replace km := km.on hC; replace bc := bc.trans (hC.mono bc.size); clear hC
    have HE := Lib.hid hent; have HT := Lib.hid htells; clear hent htells
    go_wp2_with fail
    refine (T2.out gf lb _ HE.out HT.out).mono ?_
    rintro e w7 ⟨Bw7, dw7, rfl, -, hB, hC⟩
    dsimp only
    clear HE HT
    replace km := km.on hC; replace bc := bc.trans (hC.mono bc.size); clear hC
    have HBI := Lib.hid hB; clear hB
    go_wp2_with fail
    refine (X2.out _ _ _ HBI.out).mono ?_
    rintro e w8 ⟨rfl, hC⟩
    dsimp only
    clear HBI
    replace km := km.on hC; replace bc := bc.trans (hC.mono bc.size); clear hC
    obtain ⟨⟨pkm_0, pkm_1, pkm_2, pkm_3, pkm_4, pkm_5, pkm_6⟩, pkm_0f, pkm_1f, pkm_2f, pkm_3f, pkm_4f, pkm_5f, pkm_6f⟩ := km.seven
    go_wp2_with fail
    clear pkm_0 pkm_1 pkm_2 pkm_3 pkm_4 pkm_5 pkm_6 pkm_0f pkm_1f pkm_2f pkm_3f pkm_4f pkm_5f pkm_6f
    refine (H6.out _).mono ?_
    rintro e w9 ⟨rfl, hC⟩
    dsimp only
    replace km := km.on hC; replace bc := bc.trans (hC.mono bc.size); clear hC
    obtain ⟨⟨pkm_0, pkm_1, pkm_2, pkm_3, pkm_4, pkm_5, pkm_6⟩, pkm_0f, pkm_1f, pkm_2f, pkm_3f, pkm_4f, pkm_5f, pkm_6f⟩ := km.seven
    have hG := st7 w9 (g1) (.int .i64 o) (.int .i64 K) (.int .i64 Q) (.int .i64 2) (.int .i64 1) (.int .i64 0) (.int .i64 0)
    replace bc := Below.off bc bc.size (by omega) hG; replace km := km.put7 (.int .i64 o) (.int .i64 K) (.int .i64 Q) (.int .i64 2) (.int .i64 1) (.int .i64 0) (.int .i64 0); clear hG
    go_wp2_with fail
    clear pkm_0 pkm_1 pkm_2 pkm_3 pkm_4 pkm_5 pkm_6 pkm_0f pkm_1f pkm_2f pkm_3f pkm_4f pkm_5f pkm_6f
    generalize ((((((w9.setCell ⟨g1, 0, none⟩ (.int .i64 o)).setCell ⟨g1, 1, none⟩ (.int .i64 K)).setCell ⟨g1, 2, none⟩ (.int .i64 Q)).setCell ⟨g1, 3, none⟩ (.int .i64 2)).setCell ⟨g1, 4, none⟩ (.int .i64 1)).setCell ⟨g1, 5, none⟩ (.int .i64 0)).setCell ⟨g1, 6, none⟩ (.int .i64 0) = u4 at *
    refine (H8.out _).mono ?_
    rintro e w10 ⟨rfl, hC⟩
    dsimp only
    replace km := km.on hC; replace bc := bc.trans (hC.mono bc.size); clear hC
    obtain ⟨⟨pkm_0, pkm_1, pkm_2, pkm_3, pkm_4, pkm_5, pkm_6⟩, pkm_0f, pkm_1f, pkm_2f, pkm_3f, pkm_4f, pkm_5f, pkm_6f⟩ := km.seven
    go_wp2
    go_ret
    exact ⟨rfl, bc⟩
end Go.Proofs.Ytffbhdllepjdeaa
