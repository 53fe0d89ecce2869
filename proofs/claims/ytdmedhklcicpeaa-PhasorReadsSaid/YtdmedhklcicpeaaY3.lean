/-
  The program's Decode, the label length, and the whole. Conditions: rows that can be read, of up to 65,536 samples.
-/
import Derived.Test.YtdmedhklcicpeaaY2
namespace Go.Proofs.Ytdmedhklcicpeaa
open Go.RowKit

set_option maxRecDepth 100000 in
set_option maxHeartbeats 4000000 in
theorem decL1 (w : World) (D : List Sp) (k : Nat) (SA : Option Addr) (sn sc : Nat) (x8 : Value) (at_ q : Int) (a : Act) (W : World) (Q : Exit → Act → World → Prop)
    (hk : k < 6) (hD : 6 ≤ D.length) (hsn : sn = D.length) (hsm : sn ≤ 65536) (hS : Smps w.heap.size w SA D)
    (h0 : ∀ x0' x8' x9' x11' a' w', FrD x0' x8' x9' x11' at_ q w.heap.size a' → EndD w (decD D q) x11' w' → Q (.goto 0) a' w')
    (h1 : ∀ x8' a' w', FrD (.slice SA sn sc) x8' (.int .i64 0) (.int .i64 0) at_ q w.heap.size a' → MidD w D q (k + 1) x8' w' → k + 1 < 6 → Q (.goto 1) a' w')
    (h2 : ∀ n : Nat, n = numOf (bitsS (D.take 6) q) → 6 + (n + 1) / 2 ≤ D.length → ∀ x0' x8' a' w', FrD x0' x8' (.int .i64 n) (.int .i64 0) at_ q w.heap.size a' → MidD w D q (6 + (n + 1) / 2) x8' w' → Q (.goto 2) a' w')
    (h3 : ∀ n : Nat, n = numOf (bitsS (D.take 6) q) → 6 + (n + 1) / 2 ≤ D.length → ∀ k' x8' a' w', FrD (.slice SA sn sc) x8' (.int .i64 n) (.int .i64 0) at_ q w.heap.size a' → MidD w D q k' x8' w' → 6 ≤ k' → k' ≤ 6 + (n + 1) / 2 → Q (.goto 3) a' w')
    (hF : FrD (.slice SA sn sc) x8 (.int .i64 0) (.int .i64 0) at_ q w.heap.size a) (hM : MidD w D q k x8 W) : (restD 1).wp Try.prog Q a W := by
  obtain ⟨u12, u13, u14, u15, u16, u17, u18, u19, u20, u21, u22, u23, u24, u25, u26, u27, u28, u29, u30, u31, u32, u33, u34, u35, u36, u37, u38, u39, u40, u41, u42, u43, u44, u45, u46, u47, u48, u49, u50, u51, u52, u53, u54, u55, u56, u57, u58, u59, u60, u61, u62, u63, u64, u65, u66, u67, u68, u69, u70, u71, u72, u73, u74, u75, u76, u77, u78, rfl⟩ := hF
  have hPl : (bitsS (D.take k) q).length = 2 * k := by rw [bitsS_length, List.length_take]; omega
  obtain ⟨RA, rc, hv, _⟩ := bools_of_own hM.row
  rw [hPl] at hv
  subst hv
  have hrd := readNext_any (w.heap.size + 2) (.slice RA (2 * k) rc) k (bitsS (D.take k) q) SA sn sc D q W hM.row (by have := hM.out.lt; omega) hsn hsm ((hS.below hM.bel).mono (by omega)) (by omega)
  have H0 := Lib.hid h0; have H1 := Lib.hid h1; have H2 := Lib.hid h2; have H3 := Lib.hid h3; have HM := Lib.hid hM; have HSN := Lib.hid hsn; have HS := Lib.hid hS; have HRD := Lib.hid hrd
  clear h0 h1 h2 h3 hM hsn hS hPl hrd
  simp only [restD, codeD, Try.f28, findLabel, ↓reduceIte, beq_self_eq_true]
  go_wp2_with fail
  refine HRD.out.mono ?_
  rintro e w1 ⟨hB1, hb1, hif⟩
  by_cases hms : mayS (D[k]?.getD (0, 0)) = true
  · rw [if_pos hms] at hif
    obtain ⟨v', rfl, hown⟩ := hif
    have hmid := HM.out.more (by omega) hms hB1 hown
    obtain ⟨g, cap, rfl, hg, hgl⟩ := hown.form (by omega)
    have hcap := own_cap hown
    have HMID := Lib.hid hmid; have HOWN := Lib.hid hown
    clear hown hmid
    obtain ⟨m, hm⟩ : ∃ m, m = 2 * (k + 1) := ⟨_, rfl⟩
    have HMM := Lib.hid hm
    rw [← hm]
    rw [← hm] at hcap
    by_cases hlt : m < 12
    · have hd0 : decide ((m : Int) < 12) = true := by simp; omega
      have hd1 : decide (m < 12) = true := by simpa using hlt
      clear hm
      go_wp2
      go_step3
      refine H1.out _ _ _ ⟨_, _, _, _, _, _, _, _, _, _, _, _, _, _, _, _, _, _, _, _, _, _, _, _, _, _, _, _, _, _, _, _, _, _, _, _, _, _, _, _, _, _, _, _, _, _, _, _, _, _, _, _, _, _, _, _, _, _, _, _, _, _, _, _, _, _, _, rfl⟩ ?_ (by have := HMM.out; omega)
      rw [HMM.out]
      exact HMID.out
    · have hm12 : m = 12 := by omega
      have hk5 : k = 5 := by omega
      subst hk5
      subst hm12
      clear hlt hm
      have hmid := HMID.out
      have hBo := (bools_of_own hmid.row)
      obtain ⟨RA', rc', hv', hBo⟩ := hBo
      injection hv' with hv1 hv2 hv3
      subst hv1
      have hl12 : (bitsS (D.take 6) q).length = 12 := by rw [bitsS_length, List.length_take]; omega
      obtain ⟨n, hn⟩ : ∃ n, n = numOf (bitsS (D.take 6) q) := ⟨_, rfl⟩
      have hn2 : n < 4096 := by rw [hn]; have := numOf_lt (bitsS (D.take 6) q); rw [hl12] at this; omega
      have hlo := lengthOf_any (some ⟨g, 0, none⟩) cap (bitsS (D.take 6) q) w1 hl12 (by omega) hBo
      rw [← hn] at hlo
      have hpa := fun w2 => payLen_any n w2 (by omega)
      obtain ⟨p, hp⟩ : ∃ p, p = (n + 1) / 2 := ⟨_, rfl⟩
      rw [← hp] at hpa
      have hw6 : IntKind.i64.wrap (6 + (p : Int)) = 6 + (p : Int) := IntWalk.i64_in _ (by omega)
      have HLO := Lib.hid hlo; have HPA := Lib.hid hpa; have HNN := Lib.hid hn; have HP := Lib.hid hp
      clear hlo hpa hn hl12 hBo hmid hp hv2 hv3
      go_wp2_with fail
      refine HLO.out.mono ?_
      rintro e w2 ⟨rfl, rfl⟩
      go_wp2_with fail
      refine (HPA.out _).mono ?_
      rintro e w2 ⟨rfl, rfl⟩
      by_cases hsh : sn < 6 + p
      · have hd0 : decide ((sn : Int) < 6 + (p : Int)) = true := by simp; omega
        have hd1 : decide (sn < 6 + p) = true := by simpa using hsh
        have hend := HM.out.err hB1 32
        rw [← dec_e2 q HMID.out.may (by rw [← HNN.out, ← HP.out, ← HSN.out]; exact hsh)] at hend
        have HEND := Lib.hid hend
        clear hend
        go_wp2
        go_step3
        exact H0.out _ _ _ _ _ _ ⟨_, _, _, _, _, _, _, _, _, _, _, _, _, _, _, _, _, _, _, _, _, _, _, _, _, _, _, _, _, _, _, _, _, _, _, _, _, _, _, _, _, _, _, _, _, _, _, _, _, _, _, _, _, _, _, _, _, _, _, _, _, _, _, _, _, _, _, rfl⟩ HEND.out
      · have hd0 : decide ((sn : Int) < 6 + (p : Int)) = false := by simp; omega
        have hd1 : decide (sn < 6 + p) = false := by simpa using hsh
        go_wp2
        go_step3
        rename_i K1 hK1
        refine hK1 _ _ ?_
        change (restD 3).wp Try.prog Q _ w1
        have hKD : 6 + (n + 1) / 2 ≤ D.length := by have := HP.out; have := HSN.out; omega
        refine decL3 w D n 6 SA sn sc _ at_ q _ w1 Q HNN.out hn2 hKD (Nat.le_refl _) (by omega) HSN.out hsm HS.out H0.out (H2.out n HNN.out hKD) (fun x8' a' w' f m hle => H3.out n HNN.out hKD _ _ _ _ f m (by omega) hle) ⟨_, _, _, _, _, _, _, _, _, _, _, _, _, _, _, _, _, _, _, _, _, _, _, _, _, _, _, _, _, _, _, _, _, _, _, _, _, _, _, _, _, _, _, _, _, _, _, _, _, _, _, _, _, _, _, _, _, _, _, _, _, _, _, _, _, _, _, rfl⟩ HMID.out
  · rw [if_neg hms] at hif
    subst hif
    have hmf : mayS (D[k]?.getD (0, 0)) = false := by simpa using hms
    have hend := HM.out.err hB1 31
    rw [← dec_e1 q hk (by omega) hmf] at hend
    have HEND := Lib.hid hend
    clear hend
    go_wp2
    go_step3
    exact H0.out _ _ _ _ _ _ ⟨_, _, _, _, _, _, _, _, _, _, _, _, _, _, _, _, _, _, _, _, _, _, _, _, _, _, _, _, _, _, _, _, _, _, _, _, _, _, _, _, _, _, _, _, _, _, _, _, _, _, _, _, _, _, _, _, _, _, _, _, _, _, _, _, _, _, _, rfl⟩ HEND.out

/-- What holds at Decode's labels, with a measure. -/
def atLabel (w : World) (D : List Sp) (SA : Option Addr) (sn sc : Nat) (at_ q : Int) (l m : Nat) (a : Act) (W : World) : Prop :=
  (l = 0 ∧ m = 0 ∧ ∃ x0 x8 x9 x11, FrD x0 x8 x9 x11 at_ q w.heap.size a ∧ EndD w (decD D q) x11 W) ∨
  (l = 2 ∧ m = 1 ∧ ∃ n : Nat, n = numOf (bitsS (D.take 6) q) ∧ 6 + (n + 1) / 2 ≤ D.length ∧ ∃ x0 x8, FrD x0 x8 (.int .i64 n) (.int .i64 0) at_ q w.heap.size a ∧ MidD w D q (6 + (n + 1) / 2) x8 W) ∨
  (l = 3 ∧ ∃ n : Nat, n = numOf (bitsS (D.take 6) q) ∧ 6 + (n + 1) / 2 ≤ D.length ∧ ∃ k x8, m = 2 + (10000 - k) ∧ 6 ≤ k ∧ k ≤ 6 + (n + 1) / 2 ∧ FrD (.slice SA sn sc) x8 (.int .i64 n) (.int .i64 0) at_ q w.heap.size a ∧ MidD w D q k x8 W) ∨
  (l = 1 ∧ ∃ k x8, m = 20000 + (6 - k) ∧ k < 6 ∧ FrD (.slice SA sn sc) x8 (.int .i64 0) (.int .i64 0) at_ q w.heap.size a ∧ MidD w D q k x8 W)

theorem len_small (D : List Sp) (q : Int) : numOf (bitsS (D.take 6) q) < 4096 := by
  have h1 := numOf_lt (bitsS (D.take 6) q)
  have h2 : (2 : Nat) ^ (bitsS (D.take 6) q).length ≤ 2 ^ 12 := Nat.pow_le_pow_right (by decide) (by rw [bitsS_length, List.length_take]; omega)
  omega

theorem dec_pass (w : World) (D : List Sp) (SA : Option Addr) (sn sc : Nat) (at_ q : Int) (Q : Exit → Act → World → Prop) (hD : 6 ≤ D.length) (hsn : sn = D.length) (hsm : sn ≤ 65536) (hS : Smps w.heap.size w SA D)
    (hR : ∀ a' w', bodyPost Try.prog Try.f28 (Res w (decD D q)) .ret a' w' → Q .ret a' w') (l m : Nat) (a : Act) (W : World) (hJ : atLabel w D SA sn sc at_ q l m a W) :
    ∃ rest, findLabel codeD l = some rest ∧ rest.wp Try.prog (jumpsTo m (atLabel w D SA sn sc at_ q) Q) a W := by
  rcases hJ with ⟨rfl, rfl, x0, x8, x9, x11, hF, hE⟩ | ⟨rfl, rfl, n, hn, hK, x0, x8, hF, hM⟩ | ⟨rfl, n, hn, hK, k, x8, rfl, hk0, hk1, hF, hM⟩ | ⟨rfl, k, x8, rfl, hk, hF, hM⟩
  · exact ⟨_, find_restD 0 (by decide), wp_seq (wp_skip (decL0 w (decD D q) x0 x8 x9 x11 at_ q a W _ hR hF hE))⟩
  · refine ⟨_, find_restD 2 (by decide), wp_seq (wp_skip (decL2 w D n x0 x8 at_ q a W _ hn (by rw [hn]; exact len_small D q) hK hR ?_ hF hM))⟩
    exact fun x0' x8' x9' x11' a' w' f e => ⟨0, by omega, .inl ⟨rfl, rfl, _, _, _, _, f, e⟩⟩
  · refine ⟨_, find_restD 3 (by decide), wp_seq (wp_skip (decL3 w D n k SA sn sc x8 at_ q a W _ hn (by rw [hn]; exact len_small D q) hK hk0 hk1 hsn hsm hS ?_ ?_ ?_ hF hM))⟩
    · exact fun x0' x8' x9' x11' a' w' f e => ⟨0, by omega, .inl ⟨rfl, rfl, _, _, _, _, f, e⟩⟩
    · exact fun x0' x8' a' w' f e => ⟨1, by omega, .inr (.inl ⟨rfl, rfl, n, hn, hK, _, _, f, e⟩)⟩
    · exact fun x8' a' w' f e hle => ⟨2 + (10000 - (k + 1)), by have := len_small D q; omega, .inr (.inr (.inl ⟨rfl, n, hn, hK, k + 1, _, rfl, by omega, hle, f, e⟩))⟩
  · refine ⟨_, find_restD 1 (by decide), wp_seq (wp_skip (decL1 w D k SA sn sc x8 at_ q a W _ hk hD hsn hsm hS ?_ ?_ ?_ ?_ hF hM))⟩
    · exact fun x0' x8' x9' x11' a' w' f e => ⟨0, by omega, .inl ⟨rfl, rfl, _, _, _, _, f, e⟩⟩
    · exact fun x8' a' w' f e hlt => ⟨20000 + (6 - (k + 1)), by omega, .inr (.inr (.inr ⟨rfl, k + 1, _, rfl, hlt, f, e⟩))⟩
    · exact fun n hn hK x0' x8' a' w' f e => ⟨1, by omega, .inr (.inl ⟨rfl, rfl, n, hn, hK, _, _, f, e⟩)⟩
    · exact fun n hn hK k' x8' a' w' f e h6 hle => ⟨2 + (10000 - k'), by omega, .inr (.inr (.inl ⟨rfl, n, hn, hK, k', _, rfl, h6, hle, f, e⟩))⟩
end Go.Proofs.Ytdmedhklcicpeaa
