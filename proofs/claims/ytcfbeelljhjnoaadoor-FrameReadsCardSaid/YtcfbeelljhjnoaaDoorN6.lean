/-
  Contracts of the small functions of package frame that read and make bits, and of the document's: number, own, dataBits; get, put. Conditions: that the bits can be read.
-/
import Derived.Test.YtcfbeelljhjnoaaDoorN5
namespace Go.Proofs.YtcfbeelljhjnoaaDoor
open Go.RowKit

theorem num_take_lt (L : List Bool) (a W : Nat) (h : W ≤ 24) : numOf ((L.drop a).take W) < 2 ^ 24 := by
  have h1 := numOf_lt ((L.drop a).take W)
  exact Nat.lt_of_lt_of_le h1 (Nat.pow_le_pow_right (by decide) (Nat.le_trans (List.length_take_le _ _) h))

set_option maxRecDepth 8000 in
set_option maxHeartbeats 1000000 in
theorem number_list {w : World} {L : List Bool} {A : Option Addr} {n : Nat} (h : Bv w L A n) (c : Nat) {N ai Wi : Int} {a W : Nat} (hN : N = (L.length : Int)) (ha : ai = a) (hW : Wi = W) (h64 : W ≤ 24) (hl : a + W ≤ L.length) :
    Calls Tryd.prog 45 #[.agg #[.int .i64 N, .slice A n c], .int .i64 ai, .int .i64 Wi] w fun e w' => e = .returned (.int .i64 (numOf ((L.drop a).take W) : Nat)) ∧ Below w.heap.size w w' := by
  have al := Below.al w (.cells #[.int .i64 N, .slice A n c] 28)
  have hg := get_list (h.on al) c hN ha hW h64 hl
  have hlt := num_take_lt L a W h64
  generalize numOf ((L.drop a).take W) = v at *
  have hw : IntKind.i64.wrap (v : Int) = (v : Int) := IntWalk.i64_in _ (by omega)
  have HG := Lib.hid hg
  clear hg h hN ha hW hl h64 hlt
  go_enter Tryd.func45, Tryd.ntmps45
  go_wp2_with fail
  refine HG.out.mono ?_
  rintro e w1 ⟨rfl, hB1⟩
  dsimp only
  have b1 := al.trans (hB1.mono al.size)
  clear HG al hB1
  go_wp2
  go_ret
  exact ⟨rfl, b1⟩

set_option maxRecDepth 8000 in
set_option maxHeartbeats 1000000 in
theorem rnumber_any (N ai Wi : Int) (A : Option Addr) (n c : Nat) (bs : List UInt8) (w : World) (hn : n = bs.length) (hm : n ≤ maxLen) (hA : Byt w.heap.size w A bs) (hW : Wi ≤ 24) :
    Calls Tryd.prog 50 #[.agg #[.int .i64 N, .slice A n c], .int .i64 ai, .int .i64 Wi] w fun e w' => e = .returned (.int .i64 ((getS N bs ai Wi).2 : Nat)) ∧ Below w.heap.size w w' := by
  have al := Below.al w (.cells #[.int .i64 N, .slice A n c] 28)
  have hg := rget_any N ai Wi A n c bs _ hn hm (hA.on al)
  have hlt : (getS N bs ai Wi).2 < 2 ^ 24 := by
    unfold getS
    by_cases h1 : goodB N bs = true
    · rw [if_pos h1]
      by_cases h2 : (0 ≤ Wi ∧ Wi ≤ 64) ∧ 0 ≤ ai ∧ ai ≤ N - Wi
      · rw [if_pos h2]; exact num_take_lt _ _ _ (by omega)
      · rw [if_neg h2]; decide
    · rw [if_neg h1]; decide
  generalize getS N bs ai Wi = r at *
  obtain ⟨er, v⟩ := r
  dsimp only at hlt ⊢
  have hw : IntKind.i64.wrap (v : Int) = (v : Int) := IntWalk.i64_in _ (by omega)
  have HG := Lib.hid hg
  clear hg hA hn hm hlt hW
  go_enter Tryd.func50, Tryd.ntmps50
  go_wp2_with fail
  refine HG.out.mono ?_
  rintro e w1 ⟨rfl, hB1⟩
  dsimp only
  have b1 := al.trans (hB1.mono al.size)
  clear HG al hB1
  go_wp2
  go_ret
  exact ⟨rfl, b1⟩
theorem rnumber_list {w : World} {L : List Bool} {A : Option Addr} {n : Nat} (h : Bv w L A n) (c : Nat) {N ai Wi : Int} {a W : Nat} (hN : N = (L.length : Int)) (ha : ai = a) (hW : Wi = W) (h64 : W ≤ 24) (hl : a + W ≤ L.length) :
    Calls Tryd.prog 50 #[.agg #[.int .i64 N, .slice A n c], .int .i64 ai, .int .i64 Wi] w fun e w' => e = .returned (.int .i64 (numOf ((L.drop a).take W) : Nat)) ∧ Below w.heap.size w w' := by
  subst hN ha hW
  obtain ⟨bs, h1, h2, h3, h4, h5, h6, h7⟩ := h.parts
  have hp := rnumber_any L.length a W A n c bs w h1 h2 h5 (by omega)
  have hs : getS L.length bs a W = (0, numOf ((L.drop a).take W)) := by
    unfold getS
    rw [if_pos h6, if_pos (by omega), Int.toNat_natCast, Int.toNat_natCast, h7]
  rw [hs] at hp
  exact hp

set_option maxRecDepth 8000 in
set_option maxHeartbeats 1000000 in
theorem rput5_list {w : World} {L : List Bool} {A : Option Addr} {n : Nat} (h : Bv w L A n) (c : Nat) {N vi Wi : Int} {v W : Nat} (hN : N = (L.length : Int)) (hv : vi = v) (hW : Wi = W) (h64 : W ≤ 24) (hlt : v < 2 ^ W) (hl : L.length + W ≤ 4096) :
    Calls Tryd.prog 33 #[.agg #[.int .i64 N, .slice A n c], .int .i64 vi, .int .i64 Wi] w (ResB w (L ++ numBits v W)) := by
  have hlt2 : v < 2 ^ 24 := Nat.lt_of_lt_of_le hlt (Nat.pow_le_pow_right (by decide) h64)
  have hw : IntKind.u64.wrap vi = vi := by rw [hv]; exact IntWalk.u64_in _ (by omega)
  have al := Below.al w (.cells #[.int .i64 N, .slice A n c] 28)
  have al2 := (al.trans ((Below.al _ (.cells #[.int .i64 0, .slice none 0 0] 28)).mono al.size))
  have k0 := Blk.new (w.alloc (.cells #[.int .i64 N, .slice A n c] 28)) 28 #[.int .i64 0, .slice none 0 0]
  have hp := rput_list (h.on al2) c hN hv hW h64 hlt hl
  generalize L ++ numBits v W = X at *
  have HP := Lib.hid hp
  have hg0 : (w.alloc (.cells #[.int .i64 N, .slice A n c] 28)).heap.size = w.heap.size + 1 := by simp
  rw [hg0] at k0
  clear hp h hN hv hW hlt hlt2 hl h64 al hg0
  go_enter Tryd.func33, Tryd.ntmps33
  go_wp2_with fail
  refine HP.out.mono ?_
  rintro e w1 ⟨A1, n1, c1, rfl, hV, hB1⟩
  dsimp only at hV ⊢
  have b1 := al2.trans (hB1.mono al2.size)
  have k1 := k0.on hB1
  have al3 := Below.al w1 (.cells #[.int .i64 X.length, .slice A1 n1 c1] 28)
  replace k1 := k1.on al3
  replace hV := hV.on al3
  have b3 := b1.trans (al3.mono b1.size)
  obtain ⟨p0, p1, q0, q1⟩ := k1.two
  have z := k0.lt
  clear HP hB1 k0 b1 al3 al2
  go_wp2
  exact bodyPost_ret (v := .agg #[.int .i64 X.length, .slice A1 n1 c1]) (by simp [results, Tryd.results33, go_sem, p0, p1]) rfl ⟨A1, n1, c1, rfl, hV.box k1, below_stored b3 (by omega) _ _⟩

set_option maxRecDepth 8000 in
set_option maxHeartbeats 1000000 in
theorem own_any (A : Option Addr) (n c : Nat) (bs : List UInt8) (w : World) (hn : n = bs.length) (hm : n ≤ 65536) (hA : Byt w.heap.size w A bs) :
    Calls Tryd.prog 64 #[.slice A n c] w fun e w' => ∃ A' c', e = .returned (.slice A' n c') ∧ Byt w'.heap.size w' A' bs ∧ Below w.heap.size w w' := by
  by_cases h0 : n = 0
  · subst h0
    have hb : bs = [] := List.eq_nil_of_length_eq_zero hn.symm
    subst hb
    clear hA hn
    go_enter Tryd.func64, Tryd.ntmps64
    go_wp2
    go_ret
    exact ⟨none, 0, rfl, fun h => absurd rfl h, Below.refl _ _⟩
  · have d0 : ((n : Int) == 0) = false := by simpa using h0
    have d0' : (n == 0) = false := by simpa using h0
    have hmk := run_make_bytes n hm
    have k1 := Blk.new w 5 (encB (List.replicate n 0))
    have al := Below.al w (.cells (encB (List.replicate n 0)) 5)
    obtain ⟨w2, hrun, hb2, hg2⟩ := run_copy_bytes (P := Tryd.prog) _ 24 24 3 5 Tryd.underlying24 (by kernel_rfl) w.heap.size n n A n c (List.replicate n 0) bs k1 _ (hA.on al) hn (by simp) (Nat.le_refl _)
    have hw2 : Below w.heap.size w w2 := al.grown hg2 (by simp) (by intro k hk; injection hk with hk; omega)
    rw [List.drop_replicate, ← hn, Nat.sub_self, List.replicate_zero, List.append_nil] at hb2
    have hlen : goInt bs.length = .int .i64 (n : Int) := by rw [← hn]; rfl
    rw [hlen] at hrun
    have HB := Lib.hid hb2; have HW := Lib.hid hw2; have HN := Lib.hid hn
    clear hb2 hw2 hn hg2 k1 al hA hlen h0
    go_enter Tryd.func64, Tryd.ntmps64
    go_wp2
    go_ret
    refine ⟨some ⟨w.heap.size, 0, none⟩, n, rfl, fun _ => ⟨w.heap.size, 0, rfl, HB.out.lt, fun j hj => ?_⟩, HW.out⟩
    rw [Nat.zero_add, HB.out.cell j]
    simp [encB, hj]
end Go.Proofs.YtcfbeelljhjnoaaDoor
