/-
  Support for the document's own Parse of layer 7: numbers and truths in rows of their own, and the modes that hold them. No condition. (Printed by tools/gen07mg.py.)
-/
import Derived.Test.YtnmaelefcohogaaDoorMf
namespace Go.Proofs.YtnmaelefcohogaaDoor
open Go.RowKit

theorem own_apart7 {W : World} {b b' s s' : Nat} {e e' : TypeId} {v v' : Value} {n n' : Nat} {xs xs' : List Value} (h : W.ownsRow b e s v n xs) (h' : W.ownsRow b' e' s' v' n' xs') (hne : e ≠ e') : v.ownBlock = none ∨ v.ownBlock ≠ v'.ownBlock := by
  rcases h.2 with ⟨rfl, _⟩ | ⟨g, cap, cur, rfl, _, hg, _⟩
  · exact .inl rfl
  rcases h'.2 with ⟨rfl, _⟩ | ⟨g', cap', cur', rfl, _, hg', _⟩
  · exact .inr (by simp [Value.ownBlock])
  · refine .inr fun e => ?_
    simp only [Value.ownBlock, Option.some.injEq] at e
    rw [e, hg'] at hg
    injection hg with hg
    injection hg with _ h2 _
    exact hne h2.symm
/-- Rows of numbers and of truths are as they were. -/
def Kj (W W' : World) : Prop := ∀ b t v n xs, t = 3 ∨ t = 4 → W.ownsRow b t 1 v n xs → W'.ownsRow b t 1 v n xs
theorem Kj.trans {a b c : World} (h : Kj a b) (k : Kj b c) : Kj a c := fun _ _ _ _ _ ht x => k _ _ _ _ _ ht (h _ _ _ _ _ ht x)
theorem kj_below {W W' : World} (h : Below W.heap.size W W') : Kj W W' := fun _ _ _ _ _ _ x => own_on x h
theorem kj_grown {W W' : World} {g : Nat} {t : TypeId} {cs : Array Value} (hR : Blk W g t cs) (h1 : 3 ≠ t) (h2 : 4 ≠ t) (hg : W.grownBy W' (some g)) : Kj W W' := fun b t2 v n xs ht x =>
  x.kept hg (.inr fun e => own_ne_blk x hR (by rcases ht with rfl | rfl <;> first | exact h1.symm | exact h2.symm) e.symm)
theorem kj_own {W w1 : World} {b sz k : Nat} {v : Value} {xs : List Value} {o : Obj} (h : W.ownsRow b 46 sz v k xs) (hg : (W.alloc o).grownBy w1 v.ownBlock) : Kj W w1 := fun b2 t n n2 xs2 ht x =>
  (x.alloc o).kept hg (own_apart7 x h (by rcases ht with rfl | rfl <;> decide))
/-- The modes' values, of which the rows are a call's own. -/
def ModesRd (bs : List UInt8) (N M k : Nat) (vs : List MdV) (W : World) : Prop :=
  vs.length = k ∧ ∀ i, i < k → ∃ A1 c1 A2 c2 A3 c3, vs[i]? = some ⟨⟨A1, N, c1⟩, ⟨A2, N, c2⟩, ⟨A3, M, c3⟩⟩ ∧
    W.ownsRow 0 3 1 (.slice A1 N c1) N ((modeR bs N M (18 + i * (N + 2))).d.map (Value.int .i64)) ∧ W.ownsRow 0 4 1 (.slice A2 N c2) N ((modeR bs N M (18 + i * (N + 2))).x.map Value.bool) ∧ W.ownsRow 0 4 1 (.slice A3 M c3) M ((modeR bs N M (18 + i * (N + 2))).n.map Value.bool)
theorem ModesRd.keep {bs : List UInt8} {N M k : Nat} {vs : List MdV} {W W' : World} (h : ModesRd bs N M k vs W) (hk : Kj W W') : ModesRd bs N M k vs W' :=
  ⟨h.1, fun i hi => by
    obtain ⟨A1, c1, A2, c2, A3, c3, e, a, b, c⟩ := h.2 i hi
    exact ⟨A1, c1, A2, c2, A3, c3, e, hk _ _ _ _ _ (.inl rfl) a, hk _ _ _ _ _ (.inr rfl) b, hk _ _ _ _ _ (.inr rfl) c⟩⟩
theorem ModesRd.snoc {bs : List UInt8} {N M k : Nat} {A1 A2 A3 : Option Addr} {c1 c2 c3 : Nat} {vs : List MdV} {W : World} (h : ModesRd bs N M k vs W) (h1 : W.ownsRow 0 3 1 (.slice A1 N c1) N ((modeR bs N M (18 + k * (N + 2))).d.map (Value.int .i64))) (h2 : W.ownsRow 0 4 1 (.slice A2 N c2) N ((modeR bs N M (18 + k * (N + 2))).x.map Value.bool)) (h3 : W.ownsRow 0 4 1 (.slice A3 M c3) M ((modeR bs N M (18 + k * (N + 2))).n.map Value.bool)) :
    ModesRd bs N M (k + 1) (vs ++ [⟨⟨A1, N, c1⟩, ⟨A2, N, c2⟩, ⟨A3, M, c3⟩⟩]) W := by
  refine ⟨by rw [List.length_append, h.1]; rfl, fun i hi => ?_⟩
  rcases Nat.lt_or_ge i k with hik | hik
  · obtain ⟨a, a', b, b', c, c', e, x⟩ := h.2 i hik
    exact ⟨a, a', b, b', c, c', by rw [List.getElem?_append_left (by rw [h.1]; exact hik)]; exact e, x⟩
  · obtain rfl : i = k := by omega
    exact ⟨A1, c1, A2, c2, A3, c3, by rw [List.getElem?_append_right (by rw [h.1]; exact Nat.le_refl _), h.1]; simp, h1, h2, h3⟩
theorem own_zero {W : World} {b sz n : Nat} {e : TypeId} {v : Value} {xs : List Value} (h : W.ownsRow b e sz v n xs) : W.ownsRow 0 e sz v n xs := by
  refine ⟨h.1, ?_⟩
  rcases h.2 with h2 | ⟨g, cap, cur, h2, _, h3⟩
  · exact .inl h2
  · exact .inr ⟨g, cap, cur, h2, Nat.zero_le _, h3⟩
theorem Tryd.infoInt : (Tryd.prog.info? 3).map (fun i => (i.zero, i.size, i.bytes)) = some (some (.int .i64 0), 1, 8) := by kernel_rfl
theorem bools_row {W : World} {b n c : Nat} {A : Option Addr} {l : List Bool} (h : W.ownsRow b 4 1 (.slice A n c) n (l.map Value.bool)) : Bools W.heap.size W A l := by
  obtain ⟨A', c', hv, hb⟩ := bools_of_own h
  injection hv with e1 _ _
  rw [e1]; exact hb
theorem ints_row {W : World} {b n c : Nat} {A : Option Addr} {l : List Int} (h : W.ownsRow b 3 1 (.slice A n c) n (l.map (Value.int .i64))) : Ints W.heap.size W A l := by
  have hk : l.length = n := by have := h.1; simpa using this
  intro hne
  have hn : 0 < n := by
    rcases Nat.eq_zero_or_pos n with h0 | h0
    · rw [h0] at hk; exact absurd (List.eq_nil_of_length_eq_zero hk) hne
    · exact h0
  rcases h.2 with ⟨_, h0⟩ | ⟨g, cap, cur, he, _, hh, _⟩
  · omega
  injection he with e1 _ _
  subst e1
  refine ⟨g, 0, rfl, (Array.getElem?_eq_some_iff.1 hh).1, fun j hj => ?_⟩
  have := h.cells (g := g) rfl j (.int .i64 (l[j]?.getD 0)) (by simp [List.getElem?_eq_getElem hj])
  rwa [addr_add] at this
theorem med_rd {W : World} {bs : List UInt8} {N M v B : Nat} {vs : List MdV} {cA vA : Option Addr} {cc vc : Nat} {a1 a2 a3 a4 a5 a6 : Int} (hN : N ≤ 255) (hM : M ≤ 255) (hb : ∀ k, k < M → 18 + k * (N + 2) + N ≤ bs.length) (kc : W.ownsRow 0 4 1 (.slice cA N cc) N ((bitsN v N).map Value.bool)) (hV : ModesRd bs N M M vs W) (ho : W.ownsRow B 46 3 (.slice vA M vc) M (cellsOs vs)) :
    Med W ⟨a1, a2, a3, a4, a5, a6, bitsN v N, modesR bs N M M⟩ ⟨cA, N, cc⟩ ⟨vA, M, vc⟩ := by
  have hbig : (255 : Nat) ≤ maxLen := by unfold maxLen; omega
  refine ⟨bools_row kc, (bitsN_length v N).symm, Nat.le_trans hN hbig, fun hne => ?_, (modesR_length bs N M M).symm, Nat.le_trans hM hbig⟩
  have hM0 : 0 < M := by
    rcases Nat.eq_zero_or_pos M with h | h
    · subst h; exact absurd rfl hne
    · exact h
  rcases ho.2 with ⟨_, h0⟩ | ⟨g, cap, cur, he, _, hg, _⟩
  · omega
  injection he with he _ _
  subst he
  refine ⟨g, 0, rfl, (Array.getElem?_eq_some_iff.1 hg).1, fun j o hj => ?_⟩
  have hjM : j < M := by
    rcases Nat.lt_or_ge j M with h | h
    · exact h
    · rw [List.getElem?_eq_none (by rw [modesR_length]; exact h)] at hj; cases hj
  obtain rfl : modeR bs N M (18 + j * (N + 2)) = o := by simpa [modesR, hjM] using hj
  obtain ⟨A1, k1, A2, k2, A3, k3, e, b1, b2, b3⟩ := hV.2 j hjM
  obtain ⟨c1, c2, c3⟩ := cellsOs_at vs j _ e
  have q := fun i u h => ho.cells (g := g) rfl i u h
  have q1 := q _ _ c1; have q2 := q _ _ c2; have q3 := q _ _ c3
  rw [addr_add] at q1 q2 q3
  have hl := hb j hjM
  refine ⟨_, q1, q2, q3, ints_row b1, ?_, Nat.le_trans hN hbig, bools_row b2, (bitsN_length _ _).symm, Nat.le_trans hN hbig, bools_row b3, (bitsN_length _ _).symm, Nat.le_trans hM hbig⟩
  show N = (numsB ((bs.drop (18 + j * (N + 2))).take N)).length
  simp [numsB]
  omega
theorem byt_cut {n₀ : Nat} {W : World} {b off : Nat} {bs : List UInt8} (h : Byt n₀ W (some ⟨b, off, none⟩) bs) (j k : Nat) : Byt n₀ W (some ⟨b, off + j, none⟩) ((bs.drop j).take k) := fun hne => by
  obtain ⟨b', off', e, hb, hc⟩ := h (by rintro rfl; simp at hne)
  injection e with e
  injection e with e1 e2 _
  subst e1; subst e2
  refine ⟨b, off + j, rfl, hb, fun i hi => ?_⟩
  have hi' : i < k ∧ j + i < bs.length := by simp at hi; omega
  rw [Nat.add_assoc, hc (j + i) hi'.2]
  simp [List.getElem?_drop, hi'.1]
theorem rnumber_at (b off j c : Nat) (bs : List UInt8) (w : World) (hj : j + 4 ≤ bs.length) (hA : Byt w.heap.size w (some ⟨b, off, none⟩) bs) : Calls Tryd.prog 22 #[.slice (some ⟨b, off + j, none⟩) 4 c] w fun e w' => e = .returned (.int .i64 (numAt bs j 4 : Nat)) ∧ w = w' := by
  have h := rnumber_any (some ⟨b, off + j, none⟩) c ((bs.drop j).take 4) w (by simp; omega) (byt_cut hA j 4)
  rw [show ((bs.drop j).take 4).length = 4 by simp; omega] at h
  exact h
theorem numsB_snoc (bs : List UInt8) (j k : Nat) (h : j + k < bs.length) : (numsB ((bs.drop j).take (k + 1))).map (Value.int .i64) = (numsB ((bs.drop j).take k)).map (Value.int .i64) ++ [.int .i64 (byteN bs (j + k) : Nat)] := by
  rw [take_more bs j k h]
  simp [numsB, byteN]
/-- Bytes that are too few, or of too many nodes or modes, are no list's. -/
theorem not_parse {bs : List UInt8} (h : bs.length < 18 ∨ 8 < byteN bs 1 ∨ 4 < byteN bs 2 ∨ bs.length ≠ 18 + byteN bs 2 * (byteN bs 1 + 2) + 3) : ¬ parseOk bs := fun hp => by
  have h1 := hp.1; have h2 := hp.2.1
  unfold isLen at h1
  simp only [Bool.and_eq_true, decide_eq_true_eq] at h1
  have h3 : ((readM bs).N : Int) ≤ 8 := h2.1.2
  have h4 : (readM bs).ms.length ≤ 4 := h2.2.1.2
  have h5 : (readM bs).N = (byteN bs 1 : Int) := rfl
  have h6 : (readM bs).ms.length = byteN bs 2 := modesR_length _ _ _ _
  omega

end Go.Proofs.YtnmaelefcohogaaDoor
