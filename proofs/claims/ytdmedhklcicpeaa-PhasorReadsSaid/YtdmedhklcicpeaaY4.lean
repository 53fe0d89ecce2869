/-
  The program's Decode and Receive. Conditions: rows that can be read, of up to 65,536 samples.
-/
import Derived.Test.YtdmedhklcicpeaaY3
namespace Go.Proofs.Ytdmedhklcicpeaa
open Go.RowKit

theorem dec_pass0 (w : World) (R : Int × List Bool) (at_ q : Int) (Q : Exit → Act → World → Prop) (hR : ∀ a' w', bodyPost Try.prog Try.f28 (Res w R) .ret a' w' → Q .ret a' w') (l m : Nat) (a : Act) (W : World)
    (hJ : l = 0 ∧ m = 0 ∧ ∃ x0 x8 x9 x11, FrD x0 x8 x9 x11 at_ q w.heap.size a ∧ EndD w R x11 W) :
    ∃ rest, findLabel codeD l = some rest ∧ rest.wp Try.prog (jumpsTo m (fun l m a W => l = 0 ∧ m = 0 ∧ ∃ x0 x8 x9 x11, FrD x0 x8 x9 x11 at_ q w.heap.size a ∧ EndD w R x11 W) Q) a W := by
  obtain ⟨rfl, rfl, x0, x8, x9, x11, hF, hE⟩ := hJ
  exact ⟨_, find_restD 0 (by decide), wp_seq (wp_skip (decL0 w R x0 x8 x9 x11 at_ q a W _ hR hF hE))⟩
theorem two_boxes (w : World) (e : Int) : EndD w (e, []) (.int .i64 e) ((w.alloc (.cells #[.int .i64 0, .slice none 0 0] 24)).alloc (.cells #[.int .i64 0, .slice none 0 0] 24)) :=
  ⟨rfl, ⟨none, 0, 0, [], by simpa using Blk.new (w.alloc (.cells #[.int .i64 0, .slice none 0 0] 24)) 24 #[.int .i64 0, .slice none 0 0], rfl, isBits_nil, by simp, fun h => absurd rfl h, fun _ h => by cases h⟩, (Blk.new w 24 _).alloc _, ((Below.refl _ _).alloc (Nat.le_refl _) _).alloc (by simp) _⟩
theorem two_mid (w : World) (D : List Sp) (q : Int) : MidD w D q 0 (.slice none 0 0) ((w.alloc (.cells #[.int .i64 0, .slice none 0 0] 24)).alloc (.cells #[.int .i64 0, .slice none 0 0] 24)) :=
  ⟨by simpa using Blk.new (w.alloc (.cells #[.int .i64 0, .slice none 0 0] 24)) 24 #[.int .i64 0, .slice none 0 0], (Blk.new w 24 _).alloc _, ((Below.refl _ _).alloc (Nat.le_refl _) _).alloc (by simp) _, World.ownsRow_nil _ _ _ _, rfl⟩

set_option maxRecDepth 100000 in
set_option maxHeartbeats 4000000 in
theorem decode_any (A : Option Addr) (n c : Nat) (l : List Sp) (at_ q : Int) (w : World) (hn : n = l.length) (hm : n ≤ 65536) (hcap : n ≤ c) (hA : Smps w.heap.size w A l) :
    Calls Try.prog 28 #[.slice A n c, .int .i64 at_, .int .i64 q] w (Res w (decodeS l at_ q)) := by
  by_cases h0 : at_ < 0
  · have e : decodeS l at_ q = (2, []) := by unfold decodeS; rw [if_pos h0]
    rw [e]
    have hd : decide (at_ < 0) = true := by simpa using h0
    clear hA hn e
    have HE := Lib.hid (two_boxes w 2)
    go_enter Try.func28, Try.ntmps28
    go_wp2
    refine wp_scope_labels (c := codeD) (fun l m a W => l = 0 ∧ m = 0 ∧ ∃ x0 x8 x9 x11, FrD x0 x8 x9 x11 at_ q w.heap.size a ∧ EndD w (2, []) x11 W) 1 ?_ (dec_pass0 w (2, []) at_ q _ (fun a' w' h => h))
    simp only [codeD, Try.f28]
    go_wp2
    go_step3
    exact ⟨0, by omega, rfl, rfl, _, _, _, _, ⟨_, _, _, _, _, _, _, _, _, _, _, _, _, _, _, _, _, _, _, _, _, _, _, _, _, _, _, _, _, _, _, _, _, _, _, _, _, _, _, _, _, _, _, _, _, _, _, _, _, _, _, _, _, _, _, _, _, _, _, _, _, _, _, _, _, _, _, rfl⟩, HE.out⟩
  · have hd : decide (at_ < 0) = false := by simpa using h0
    obtain ⟨a, rfl⟩ := Int.eq_ofNat_of_zero_le (show 0 ≤ at_ by omega)
    by_cases h1 : (n : Int) - 14 < a
    · have e : decodeS l (a : Nat) q = (32, []) := by unfold decodeS; rw [if_neg h0, if_pos (by rw [← hn]; exact h1)]
      rw [e]
      have hd1 : decide ((n : Int) - 14 < (a : Int)) = true := by simpa using h1
      clear hA hn e
      have HE := Lib.hid (two_boxes w 32)
      go_enter Try.func28, Try.ntmps28
      go_wp2
      refine wp_scope_labels (c := codeD) (fun l m a' W => l = 0 ∧ m = 0 ∧ ∃ x0 x8 x9 x11, FrD x0 x8 x9 x11 (a : Int) q w.heap.size a' ∧ EndD w (32, []) x11 W) 1 ?_ (dec_pass0 w (32, []) a q _ (fun a' w' h => h))
      simp only [codeD, Try.f28]
      go_wp2
      go_step3
      exact ⟨0, by omega, rfl, rfl, _, _, _, _, ⟨_, _, _, _, _, _, _, _, _, _, _, _, _, _, _, _, _, _, _, _, _, _, _, _, _, _, _, _, _, _, _, _, _, _, _, _, _, _, _, _, _, _, _, _, _, _, _, _, _, _, _, _, _, _, _, _, _, _, _, _, _, _, _, _, _, _, _, rfl⟩, HE.out⟩
    · have hd1 : decide ((n : Int) - 14 < (a : Int)) = false := by simpa using h1
      have ha14 : a + 14 ≤ n := by omega
      rw [decode_decD l a q (by omega)]
      obtain ⟨b, off, rfl, hbl, hcl⟩ := hA (by rintro rfl; simp at hn; omega)
      have hDl : (l.drop (a + 8)).length = n - (a + 8) := by rw [List.length_drop, hn]
      have hS : Smps w.heap.size w (some ⟨b, off + (a + 8) * 2, none⟩) (l.drop (a + 8)) := fun _ => ⟨b, off + (a + 8) * 2, rfl, hbl, fun j hj => by
        have := hcl (a + 8 + j) (by omega)
        rw [List.getElem?_drop, show off + (a + 8) * 2 + j * 2 = off + (a + 8 + j) * 2 by omega]
        exact this⟩
      generalize l.drop (a + 8) = D at *
      have hw8 : IntKind.i64.wrap ((a : Int) + 8) = ((a + 8 : Nat) : Int) := by rw [IntWalk.i64_in _ (by omega)]; omega
      obtain ⟨a8, ha8⟩ : ∃ a8, a8 = a + 8 := ⟨_, rfl⟩
      rw [← ha8] at hw8 hS hDl
      have ha8n : a8 + 6 ≤ n := by omega
      have HD := Lib.hid hDl; have HS := Lib.hid hS; have HMI := Lib.hid (two_mid w D q); have HA8 := Lib.hid ha8
      clear hDl hS hcl hA hn ha8
      go_enter Try.func28, Try.ntmps28
      go_wp2
      refine wp_scope_labels (c := codeD) (atLabel w D (some ⟨b, off + a8 * 2, none⟩) (n - a8) (c - a8) (a : Int) q) 30000 ?_ (dec_pass w D (some ⟨b, off + a8 * 2, none⟩) (n - a8) (c - a8) (a : Int) q _ (by rw [HD.out]; omega) HD.out.symm (by omega) HS.out (fun a' w' h => h))
      simp only [codeD, Try.f28]
      go_wp2
      go_step3
      rename_i K1 hK1
      refine hK1 _ _ ?_
      change (restD 1).wp Try.prog _ _ _
      refine decL1 w D 0 (some ⟨b, off + a8 * 2, none⟩) (n - a8) (c - a8) _ (a : Int) q _ _ _ (by decide) (by rw [HD.out]; omega) HD.out.symm (by omega) HS.out ?_ ?_ ?_ ?_ ⟨_, _, _, _, _, _, _, _, _, _, _, _, _, _, _, _, _, _, _, _, _, _, _, _, _, _, _, _, _, _, _, _, _, _, _, _, _, _, _, _, _, _, _, _, _, _, _, _, _, _, _, _, _, _, _, _, _, _, _, _, _, _, _, _, _, _, _, rfl⟩ HMI.out
      · exact fun x0' x8' x9' x11' a' w' f e => ⟨0, by omega, .inl ⟨rfl, rfl, _, _, _, _, f, e⟩⟩
      · exact fun x8' a' w' f e hlt => ⟨20000 + (6 - (0 + 1)), by omega, .inr (.inr (.inr ⟨rfl, 0 + 1, _, rfl, hlt, f, e⟩))⟩
      · exact fun n hn hK x0' x8' a' w' f e => ⟨1, by omega, .inr (.inl ⟨rfl, rfl, n, hn, hK, _, _, f, e⟩)⟩
      · exact fun n hn hK k' x8' a' w' f e h6 hle => ⟨2 + (10000 - k'), by omega, .inr (.inr (.inl ⟨rfl, n, hn, hK, k', _, rfl, h6, hle, f, e⟩))⟩

set_option maxRecDepth 4000 in
set_option maxHeartbeats 2000000 in
theorem receive_any (A : Option Addr) (n c : Nat) (l : List Sp) (w : World) (hn : n = l.length) (hm : n ≤ 65536) (hcap : n ≤ c) (hA : Smps w.heap.size w A l) :
    Calls Try.prog 30 #[.slice A n c] w (Res w (receiveS l)) := by
  have h1 := fun (w1 : World) (h : Below w.heap.size w w1) => find_any A n c l 0 w1 hn hm hcap (hA.on h)
  have h2 := fun (w1 : World) (at_ q : Int) (h : Below w.heap.size w w1) => decode_any A n c l at_ q w1 hn hm hcap (hA.on h)
  have k0 := Blk.new w 24 #[.int .i64 0, .slice none 0 0]
  have b0 : Below w.heap.size w (w.alloc (.cells #[.int .i64 0, .slice none 0 0] 24)) := (Below.refl _ _).alloc (Nat.le_refl _) _
  unfold receiveS
  generalize findS l 0 = F at *
  obtain ⟨F1, F2, F3⟩ := F
  dsimp only at *
  have H1 := Lib.hid h1; have H2 := Lib.hid h2
  clear h1 h2 hA hn
  by_cases h0 : F3 = 0
  · rw [if_pos h0]
    subst h0
    have hde := fun (w1 : World) (h : Below w.heap.size w w1) => H2.out w1 F1 F2 h
    generalize decodeS l F1 F2 = R at *
    have HDE := Lib.hid hde; clear hde
    go_enter Try.func30, Try.ntmps30
    go_wp2_with fail
    refine (H1.out _ b0).mono ?_
    rintro e w1 ⟨rfl, hB1⟩
    replace k0 := k0.on hB1
    replace b0 := b0.trans (hB1.mono b0.size)
    have hlt := k0.lt
    go_wp2_with fail
    refine (HDE.out _ b0).mono ?_
    rintro e w2 ⟨A3, n3, c3, bs3, rfl, hn3, his3, hl3, hA3, hB3, hF3⟩
    have HN3 := Lib.hid hn3; clear hn3
    replace k0 := k0.on hB3
    obtain ⟨c1, c2, f1, f2⟩ := k0.two
    have hlt2 := k0.lt
    go_wp2
    exact bodyPost_ret (v := .tuple #[.agg #[.int .i64 R.2.length, .slice A3 n3 c3], .int .i64 R.1]) (by simp [results, Try.results30, go_sem, c1, c2]) rfl
      (res_stored HN3.out his3 hl3 hA3 b0 hB3 hF3 (Nat.le_refl _) hlt)
  · rw [if_neg h0]
    have hne : (F3 == 0) = false := by simpa using h0
    clear h0
    go_enter Try.func30, Try.ntmps30
    go_wp2_with fail
    refine (H1.out _ b0).mono ?_
    rintro e w1 ⟨rfl, hB1⟩
    replace k0 := k0.on hB1
    replace b0 := b0.trans (hB1.mono b0.size)
    obtain ⟨c1, c2, f1, f2⟩ := k0.two
    have hlt := k0.lt
    go_wp2
    exact bodyPost_ret (v := .tuple #[.agg #[.int .i64 0, .slice none 0 0], .int .i64 F3]) (by simp [results, Try.results30, go_sem, c1, c2]) rfl (res_err F3 ((b0.setCell (p := ⟨w.heap.size, 0, none⟩) (Nat.le_refl _) _).setCell (p := ⟨w.heap.size, 1, none⟩) (Nat.le_refl _) _))
end Go.Proofs.Ytdmedhklcicpeaa
