/-
  The list that bytes of the right length tell: read of package medl. Condition: that there are as many bytes as there should be. (Printed by tools/gen07m9.py.)
-/
import Derived.Test.YtnmaelefcohogaaDoorM8
namespace Go.Proofs.YtnmaelefcohogaaDoor
open Go.RowKit

def byteN (bs : List UInt8) (j : Nat) : Nat := (bs[j]?.getD 0).toNat
def numAt (bs : List UInt8) (j wd : Nat) : Nat := numB ((bs.drop j).take wd)
/-- The mode that stands at place j. -/
def modeR (bs : List UInt8) (N M j : Nat) : Md := ⟨numsB ((bs.drop j).take N), bitsN (byteN bs (j + N)) N, bitsN (byteN bs (j + N + 1)) M⟩
def modesR (bs : List UInt8) (N M k : Nat) : List Md := (List.range k).map fun i => modeR bs N M (18 + i * (N + 2))
/-- The list of some bytes. -/
def readM (bs : List UInt8) : ML := ⟨byteN bs 1, numAt bs 3 4, numAt bs 7 4, numAt bs 11 4, byteN bs 15, byteN bs 16, bitsN (byteN bs 17) (byteN bs 1), modesR bs (byteN bs 1) (byteN bs 2) (byteN bs 2)⟩
theorem modesR_length (bs : List UInt8) (N M k : Nat) : (modesR bs N M k).length = k := by simp [modesR]
/-- Numbers and truths are as they were. -/
def Ki (W W' : World) : Prop := ∀ b t cs, Blk W b t cs → t = 3 ∨ t = 4 → Blk W' b t cs
theorem Ki.trans {a b c : World} (h : Ki a b) (k : Ki b c) : Ki a c := fun _ _ _ x ht => k _ _ _ (h _ _ _ x ht) ht
theorem ki_grown {W W' : World} {g : Nat} {cs : Array Value} (hR : Blk W g 74 cs) (hg : W.grownBy W' (some g)) : Ki W W' := fun b t c k ht => k.grown hg (some_ne (k.ne_type hR (by rcases ht with rfl | rfl <;> decide)))
theorem ki_alloc (W : World) (o : Obj) : Ki W (W.alloc o) := fun _ _ _ k _ => k.alloc o
theorem ki_set {W : World} {q : Nat} {t : TypeId} {cs : Array Value} (hq : Blk W q t cs) (h1 : t ≠ 3) (h2 : t ≠ 4) (i : Nat) (v : Value) : Ki W (W.setCell ⟨q, i, none⟩ v) := fun b t2 c k ht => by
  have hne : t2 ≠ t := by
    rcases ht with rfl | rfl
    · exact fun e => h1 e.symm
    · exact fun e => h2 e.symm
  exact k.far (by dsimp only; exact k.ne_type hq hne) v
/-- What a call of take leaves. -/
def TkP (g b off n c j v : Nat) (W : World) (e : Ending) (w' : World) : Prop := e = .returned (.int .i64 (v : Int)) ∧ Rd g b off n c j w' ∧ W.grownBy w' (some g) ∧ w'.heap.size = W.heap.size
theorem tk_any (g b off n c j wd j' v : Nat) (bs : List UInt8) (h1 : j' = j + wd) (h2 : v = numB ((bs.drop j).take wd)) (hn : n = bs.length) (hc : n ≤ c) (hcm : c ≤ maxLen) (hj : j + wd < n) (hwd : wd ≤ 4) :
    ∀ W, Byt W.heap.size W (some ⟨b, off, none⟩) bs → Rd g b off n c j W → Calls Tryd.prog 42 #[.pointer (some ⟨g, 0, none⟩), .int .i64 (wd : Int)] W (TkP g b off n c j' v W) := by
  intro W hA hR
  subst h1; subst h2
  exact rtake_any g b off n c j wd bs W hn hc hcm hj hwd hA hR
/-- The modes' values, and where their numbers and truths lie. -/
def ModesAt (bs : List UInt8) (N M k : Nat) (vs : List MdV) (W : World) : Prop :=
  vs.length = k ∧ ∀ i, i < k → ∃ G1 G2 G3, vs[i]? = some ⟨⟨some ⟨G1, 0, none⟩, N, N⟩, ⟨some ⟨G2, 0, none⟩, N, N⟩, ⟨some ⟨G3, 0, none⟩, M, M⟩⟩ ∧
    Blk W G1 3 ((modeR bs N M (18 + i * (N + 2))).d.map (Value.int .i64)).toArray ∧ Blk W G2 4 ((modeR bs N M (18 + i * (N + 2))).x.map Value.bool).toArray ∧ Blk W G3 4 ((modeR bs N M (18 + i * (N + 2))).n.map Value.bool).toArray
theorem ModesAt.keep {bs : List UInt8} {N M k : Nat} {vs : List MdV} {W W' : World} (h : ModesAt bs N M k vs W) (hk : Ki W W') : ModesAt bs N M k vs W' :=
  ⟨h.1, fun i hi => by
    obtain ⟨G1, G2, G3, e, a, b, c⟩ := h.2 i hi
    exact ⟨G1, G2, G3, e, hk _ _ _ a (.inl rfl), hk _ _ _ b (.inr rfl), hk _ _ _ c (.inr rfl)⟩⟩
/-- The modes' cells. -/
def cellsOs (vs : List MdV) : List Value := vs.flatMap fun v => [.slice v.d.A v.d.n v.d.c, .slice v.x.A v.x.n v.x.c, .slice v.n.A v.n.n v.n.c]
theorem own_ne_blk {W : World} {b g sz : Nat} {e t : TypeId} {v : Value} {n : Nat} {xs : List Value} {cs : Array Value} (h : W.ownsRow b e sz v n xs) (k : Blk W g t cs) (hne : t ≠ e) : some g ≠ v.ownBlock := by
  intro he
  rcases h.2 with ⟨rfl, _⟩ | ⟨g', cap, cur, rfl, _, hg, _⟩
  · cases he
  · simp only [Value.ownBlock, Option.some.injEq] at he
    subst he
    unfold Blk at k
    rw [hg] at k
    injection k with k
    injection k with _ h2 _
    exact hne h2.symm
theorem own_set {W : World} {b g j sz : Nat} {e : TypeId} {v : Value} {n : Nat} {xs : List Value} (h : W.ownsRow b e sz v n xs) (hg : some g ≠ v.ownBlock) (u : Value) : (W.setCell ⟨g, j, none⟩ u).ownsRow b e sz v n xs :=
  h.kept (only_setCell (World.grownBy.refl W (some g)) (.inl rfl) u) (.inr fun e => hg e.symm)
theorem own_reader {W W' : World} {b g sz : Nat} {e : TypeId} {v : Value} {n : Nat} {xs : List Value} {cs : Array Value} (h : W.ownsRow b e sz v n xs) (k : Blk W g 74 cs) (hne : 74 ≠ e) (hg : W.grownBy W' (some g)) : W'.ownsRow b e sz v n xs :=
  h.kept hg (.inr fun e => own_ne_blk h k hne e.symm)
theorem Tryd.infoMode : (Tryd.prog.info? 46).map (fun i => (i.zero, i.size, i.bytes)) = some (some (.agg #[.slice none 0 0, .slice none 0 0, .slice none 0 0]), 3, 72) := by kernel_rfl
theorem ki_own {W w1 : World} {b sz k : Nat} {v : Value} {xs : List Value} {o : Obj} (h : W.ownsRow b 46 sz v k xs) (hg : (W.alloc o).grownBy w1 v.ownBlock) : Ki W w1 := fun b2 t c x ht => (x.alloc o).grown hg (own_ne_blk h x (by rcases ht with rfl | rfl <;> decide))
theorem own_new {W : World} {b g sz : Nat} {e : TypeId} {v : Value} {n : Nat} {xs : List Value} (h : W.ownsRow b e sz v n xs) (hg : W.heap.size ≤ g) : some g ≠ v.ownBlock := fun e1 => by
  have := (h.lt g e1.symm).2
  omega
theorem ModesAt.snoc {bs : List UInt8} {N M k G1 G2 G3 : Nat} {vs : List MdV} {W : World} (h : ModesAt bs N M k vs W) (h1 : Blk W G1 3 ((modeR bs N M (18 + k * (N + 2))).d.map (Value.int .i64)).toArray) (h2 : Blk W G2 4 ((modeR bs N M (18 + k * (N + 2))).x.map Value.bool).toArray) (h3 : Blk W G3 4 ((modeR bs N M (18 + k * (N + 2))).n.map Value.bool).toArray) :
    ModesAt bs N M (k + 1) (vs ++ [⟨⟨some ⟨G1, 0, none⟩, N, N⟩, ⟨some ⟨G2, 0, none⟩, N, N⟩, ⟨some ⟨G3, 0, none⟩, M, M⟩⟩]) W := by
  refine ⟨by rw [List.length_append, h.1]; rfl, fun i hi => ?_⟩
  rcases Nat.lt_or_ge i k with hik | hik
  · obtain ⟨a, b, c, e, x⟩ := h.2 i hik
    exact ⟨a, b, c, by rw [List.getElem?_append_left (by rw [h.1]; exact hik)]; exact e, x⟩
  · obtain rfl : i = k := by omega
    exact ⟨G1, G2, G3, by rw [List.getElem?_append_right (by rw [h.1]; exact Nat.le_refl _), h.1]; simp, h1, h2, h3⟩
theorem cellsOs_snoc (vs : List MdV) (v : MdV) : cellsOs (vs ++ [v]) = cellsOs vs ++ [.slice v.d.A v.d.n v.d.c, .slice v.x.A v.x.n v.x.c, .slice v.n.A v.n.n v.n.c] := by unfold cellsOs; rw [List.flatMap_append]; simp
theorem cellsOs_length (vs : List MdV) : (cellsOs vs).length = vs.length * 3 := by
  induction vs with
  | nil => rfl
  | cons v vs ih =>
    have e : cellsOs (v :: vs) = [.slice v.d.A v.d.n v.d.c, .slice v.x.A v.x.n v.x.c, .slice v.n.A v.n.n v.n.c] ++ cellsOs vs := rfl
    rw [e, List.length_append, ih]; simp; omega
theorem cellsOs_at (vs : List MdV) (j : Nat) (v : MdV) (h : vs[j]? = some v) : (cellsOs vs)[j * 3]? = some (.slice v.d.A v.d.n v.d.c) ∧ (cellsOs vs)[j * 3 + 1]? = some (.slice v.x.A v.x.n v.x.c) ∧ (cellsOs vs)[j * 3 + 2]? = some (.slice v.n.A v.n.n v.n.c) := by
  induction vs generalizing j with
  | nil => simp at h
  | cons u vs ih =>
    have e : cellsOs (u :: vs) = [.slice u.d.A u.d.n u.d.c, .slice u.x.A u.x.n u.x.c, .slice u.n.A u.n.n u.n.c] ++ cellsOs vs := rfl
    cases j with
    | zero =>
      obtain rfl : u = v := by simpa using h
      rw [e]; exact ⟨rfl, rfl, rfl⟩
    | succ j =>
      have := ih j (by simpa using h)
      rw [e, show (j + 1) * 3 = j * 3 + 3 by omega]
      exact this
theorem bools_blk {W : World} {g : Nat} {l : List Bool} (h : Blk W g 4 (l.map Value.bool).toArray) : Bools W.heap.size W (some ⟨g, 0, none⟩) l := fun _ => ⟨g, 0, rfl, h.lt, fun j hj => by
  rw [Nat.zero_add, h.cell]; simp [List.getElem?_eq_getElem hj]⟩
theorem ints_blk {W : World} {g : Nat} {l : List Int} (h : Blk W g 3 (l.map (Value.int .i64)).toArray) : Ints W.heap.size W (some ⟨g, 0, none⟩) l := fun _ => ⟨g, 0, rfl, h.lt, fun j hj => by
  rw [Nat.zero_add, h.cell]; simp [List.getElem?_eq_getElem hj]⟩
theorem med_read {W : World} {bs : List UInt8} {N M gc v B : Nat} {vs : List MdV} {vA : Option Addr} {vc : Nat} {a1 a2 a3 a4 a5 a6 : Int} (hN : N ≤ 255) (hM : M ≤ 255) (hb : ∀ k, k < M → 18 + k * (N + 2) + N ≤ bs.length) (kc : Blk W gc 4 ((bitsN v N).map Value.bool).toArray) (hV : ModesAt bs N M M vs W) (ho : W.ownsRow B 46 3 (.slice vA M vc) M (cellsOs vs)) :
    Med W ⟨a1, a2, a3, a4, a5, a6, bitsN v N, modesR bs N M M⟩ ⟨some ⟨gc, 0, none⟩, N, N⟩ ⟨vA, M, vc⟩ := by
  have hbig : (255 : Nat) ≤ maxLen := by unfold maxLen; omega
  refine ⟨bools_blk kc, (bitsN_length v N).symm, Nat.le_trans hN hbig, fun hne => ?_, (modesR_length bs N M M).symm, Nat.le_trans hM hbig⟩
  have hM0 : 0 < M := by
    rcases Nat.eq_zero_or_pos M with h | h
    · subst h; exact absurd rfl hne
    · exact h
  rcases ho.2 with ⟨_, h0⟩ | ⟨g, cap, cur, he, _, hg, _⟩
  · omega
  injection he with he _ _
  subst he
  refine ⟨g, 0, rfl, (Array.getElem?_eq_some_iff.1 hg).1, fun j o hj => ?_⟩
  have hjM : j < M := by
    rcases Nat.lt_or_ge j M with h | h
    · exact h
    · rw [List.getElem?_eq_none (by rw [modesR_length]; exact h)] at hj; cases hj
  obtain rfl : modeR bs N M (18 + j * (N + 2)) = o := by simpa [modesR, hjM] using hj
  obtain ⟨G1, G2, G3, e, b1, b2, b3⟩ := hV.2 j hjM
  obtain ⟨c1, c2, c3⟩ := cellsOs_at vs j _ e
  have q := fun i u h => ho.cells (g := g) rfl i u h
  have q1 := q _ _ c1; have q2 := q _ _ c2; have q3 := q _ _ c3
  rw [addr_add] at q1 q2 q3
  have hl := hb j hjM
  refine ⟨_, q1, q2, q3, ints_blk b1, ?_, Nat.le_trans hN hbig, bools_blk b2, (bitsN_length _ _).symm, Nat.le_trans hN hbig, bools_blk b3, (bitsN_length _ _).symm, Nat.le_trans hM hbig⟩
  show N = (numsB ((bs.drop (18 + j * (N + 2))).take N)).length
  simp [numsB]
  omega
theorem take1 (bs : List UInt8) (j : Nat) (h : j < bs.length) : numB ((bs.drop j).take 1) = byteN bs j := one_num bs j h
set_option maxRecDepth 100000 in
set_option maxHeartbeats 8000000 in
theorem read_any (b off n c : Nat) (bs : List UInt8) (w : World) (hn : n = bs.length) (hc : n ≤ c) (hcm : c ≤ maxLen) (hA : Byt w.heap.size w (some ⟨b, off, none⟩) bs) (hlen : n = 18 + byteN bs 2 * (byteN bs 1 + 2) + 3) :
    Calls Tryd.prog 21 #[.slice (some ⟨b, off, none⟩) n c] w fun e w' => ∃ c1 s1 : Slc, e = .returned (vM (readM bs) c1 s1) ∧ Med w' (readM bs) c1 s1 ∧ (∀ r cs W, Blk w' r 25 cs → w'.grownBy W (some r) → Med W (readM bs) c1 s1) ∧ Below w.heap.size w w' := by
  obtain ⟨b0, off0, e0, hb, -⟩ := hA (by rintro rfl; simp at hn; omega)
  injection e0 with e0
  injection e0 with e1 e2 _
  subst e1
  clear e2 off0
  have hcm2 := hcm
  unfold maxLen at hcm2
  have h1c : 1 < c := by omega
  have hN256 : byteN bs 1 < 256 := (bs[1]?.getD 0).toNat_lt
  have hM256 : byteN bs 2 < 256 := (bs[2]?.getD 0).toNat_lt
  have htr := fun g j N W (hN : N ≤ 255) (hj : j + 1 < n) hA hR => rtruths_any g b off n c j N bs W hn hc hcm hN hj hA hR
  have hnu := fun g j N W (hN : N ≤ 255) (hj : j + N < n) hA hbg hR => rnumbers_any g b off n c j N bs W hn hc hcm hN hj hA hbg hR
  obtain ⟨R, hR⟩ : ∃ R, R = readM bs := ⟨_, rfl⟩
  rw [← hR]
  unfold readM at hR
  obtain ⟨N, hN⟩ : ∃ N, N = byteN bs 1 := ⟨_, rfl⟩
  obtain ⟨M, hM⟩ : ∃ M, M = byteN bs 2 := ⟨_, rfl⟩
  rw [← hN, ← hM] at hlen hR
  rw [← hN] at hN256
  rw [← hM] at hM256
  have hMN : M * (N + 2) ≤ 255 * 257 := Nat.mul_le_mul (by omega) (by omega)
  have hn18 : 21 ≤ n := by omega
  obtain ⟨S, hS⟩ : ∃ x, x = numAt bs 3 4 := ⟨_, rfl⟩
  rw [← hS] at hR
  obtain ⟨G, hG⟩ : ∃ x, x = numAt bs 7 4 := ⟨_, rfl⟩
  rw [← hG] at hR
  obtain ⟨T, hT⟩ : ∃ x, x = numAt bs 11 4 := ⟨_, rfl⟩
  rw [← hT] at hR
  obtain ⟨D, hD⟩ : ∃ x, x = byteN bs 15 := ⟨_, rfl⟩
  rw [← hD] at hR
  obtain ⟨L, hL⟩ : ∃ x, x = byteN bs 16 := ⟨_, rfl⟩
  rw [← hL] at hR
  have tN := tk_any (w.heap.size + 1) b off n c 1 1 2 N bs rfl (by rw [hN]; exact (take1 bs 1 (by omega)).symm) hn hc hcm (by omega) (by decide)
  have tM := tk_any (w.heap.size + 1) b off n c 2 1 3 M bs rfl (by rw [hM]; exact (take1 bs 2 (by omega)).symm) hn hc hcm (by omega) (by decide)
  have tS := tk_any (w.heap.size + 1) b off n c 3 4 7 S bs rfl (by rw [hS]; rfl) hn hc hcm (by omega) (by decide)
  have tG := tk_any (w.heap.size + 1) b off n c 7 4 11 G bs rfl (by rw [hG]; rfl) hn hc hcm (by omega) (by decide)
  have tT := tk_any (w.heap.size + 1) b off n c 11 4 15 T bs rfl (by rw [hT]; rfl) hn hc hcm (by omega) (by decide)
  have tD := tk_any (w.heap.size + 1) b off n c 15 1 16 D bs rfl (by rw [hD]; exact (take1 bs 15 (by omega)).symm) hn hc hcm (by omega) (by decide)
  have tL := tk_any (w.heap.size + 1) b off n c 16 1 17 L bs rfl (by rw [hL]; exact (take1 bs 16 (by omega)).symm) hn hc hcm (by omega) (by decide)
  have HTR := Lib.hid htr; have HNU := Lib.hid hnu; have TN := Lib.hid tN; have TM := Lib.hid tM; have TS := Lib.hid tS; have TG := Lib.hid tG; have TT := Lib.hid tT; have TD := Lib.hid tD; have TL := Lib.hid tL; have HNL := Lib.hid hn; have HA := Lib.hid hA; have HLEN := Lib.hid hlen; have HRR := Lib.hid hR; have HN := Lib.hid hN; have HM := Lib.hid hM
  clear htr hnu hA hlen hR hN hM hcm hn tN tM tS tG tT tD tL hS hG hT hD hL
  obtain ⟨kr, kg, bc⟩ := bx2 w #[.int .i64 0, .int .i64 0, .int .i64 0, .int .i64 0, .int .i64 0, .int .i64 0, .slice none 0 0, .slice none 0 0] #[.slice (some ⟨b, off + 1, none⟩) (n - 1) (c - 1)] 25 74
  go_enter Tryd.func21, Tryd.ntmps21
  go_wp2_with fail
  generalize (w.alloc (.cells #[.int .i64 0, .int .i64 0, .int .i64 0, .int .i64 0, .int .i64 0, .int .i64 0, .slice none 0 0, .slice none 0 0] 25)).alloc (.cells #[.slice (some ⟨b, off + 1, none⟩) (n - 1) (c - 1)] 74) = u0 at *
  have hR : Rd (w.heap.size + 1) b off n c 1 u0 := kg
  clear kg
  have hlt := kr.lt
  have hlg := Blk.lt hR
  refine (TN.out _ ((HA.out.below bc).mono bc.size) hR).mono ?_
  rintro e w1 ⟨rfl, hR1, hg, hs⟩
  replace kr := kr.grown hg (some_ne (by omega))
  replace bc := Below.off bc bc.size (by omega) hg
  clear hg hR hs TN
  have hR := hR1; clear hR1
  have hlg := Blk.lt hR
  dsimp only
  have kq := Blk.new w1 25 #[.int .i64 (N : Int), .int .i64 0, .int .i64 0, .int .i64 0, .int .i64 0, .int .i64 0, .slice none 0 0, .slice none 0 0]
  have hal := Below.al w1 (.cells #[.int .i64 (N : Int), .int .i64 0, .int .i64 0, .int .i64 0, .int .i64 0, .int .i64 0, .slice none 0 0, .slice none 0 0] 25)
  replace kr := kr.on hal; replace bc := bc.trans (hal.mono bc.size)
  replace hR := Blk.on hR hal
  have hqg : w.heap.size + 1 < w1.heap.size := hlg
  clear hal hlg
  go_wp2_with fail
  generalize w1.alloc (.cells #[.int .i64 (N : Int), .int .i64 0, .int .i64 0, .int .i64 0, .int .i64 0, .int .i64 0, .slice none 0 0, .slice none 0 0] 25) = x1 at *
  generalize w1.heap.size = q at *
  refine (TM.out _ ((HA.out.below bc).mono bc.size) hR).mono ?_
  rintro e w2 ⟨rfl, hR1, hg, hs⟩
  replace kr := kr.grown hg (some_ne (by omega))
  replace kq := kq.grown hg (some_ne (by omega))
  replace bc := Below.off bc bc.size (by omega) hg
  clear hg hR hs TM
  have hR := hR1; clear hR1
  have hlg := Blk.lt hR
  dsimp only
  go_wp2_with fail
  refine (TS.out _ ((HA.out.below bc).mono bc.size) hR).mono ?_
  rintro e w3 ⟨rfl, hR1, hg, hs⟩
  replace kr := kr.grown hg (some_ne (by omega))
  replace kq := kq.grown hg (some_ne (by omega))
  replace bc := Below.off bc bc.size (by omega) hg
  clear hg hR hs TS
  have hR := hR1; clear hR1
  have hlg := Blk.lt hR
  dsimp only
  obtain ⟨p0, p1, p2, p3, p4, p5, p6, p7⟩ := kq.eight
  obtain ⟨f0, f1, f2, f3, f4, f5, f6, f7⟩ := kq.eightF
  have lq := kq.lt
  have hG := only_setCell (World.grownBy.refl w3 (some q)) (p := ⟨q, 1, none⟩) (.inl rfl) (.int .i64 (S : Int))
  have kq2 : Blk (w3.setCell ⟨q, 1, none⟩ (.int .i64 (S : Int))) q 25 #[.int .i64 (N : Int), .int .i64 (S : Int), .int .i64 0, .int .i64 0, .int .i64 0, .int .i64 0, .slice none 0 0, .slice none 0 0] := by simpa using kq.set_ 1 (.int .i64 (S : Int))
  replace kr := kr.grown hG (some_ne (by omega))
  replace hR := Blk.grown hR hG (some_ne (by omega))
  replace bc := Below.off bc bc.size (by omega) hG
  clear hG kq
  have kq := kq2; clear kq2
  go_wp2_with fail
  clear p0 p1 p2 p3 p4 p5 p6 p7 f0 f1 f2 f3 f4 f5 f6 f7
  generalize w3.setCell ⟨q, 1, none⟩ (.int .i64 (S : Int)) = x4 at *
  refine (TG.out _ ((HA.out.below bc).mono bc.size) hR).mono ?_
  rintro e w4 ⟨rfl, hR1, hg, hs⟩
  replace kr := kr.grown hg (some_ne (by omega))
  replace kq := kq.grown hg (some_ne (by omega))
  replace bc := Below.off bc bc.size (by omega) hg
  clear hg hR hs TG
  have hR := hR1; clear hR1
  have hlg := Blk.lt hR
  dsimp only
  obtain ⟨p0, p1, p2, p3, p4, p5, p6, p7⟩ := kq.eight
  obtain ⟨f0, f1, f2, f3, f4, f5, f6, f7⟩ := kq.eightF
  have lq := kq.lt
  have hG := only_setCell (World.grownBy.refl w4 (some q)) (p := ⟨q, 2, none⟩) (.inl rfl) (.int .i64 (G : Int))
  have kq2 : Blk (w4.setCell ⟨q, 2, none⟩ (.int .i64 (G : Int))) q 25 #[.int .i64 (N : Int), .int .i64 (S : Int), .int .i64 (G : Int), .int .i64 0, .int .i64 0, .int .i64 0, .slice none 0 0, .slice none 0 0] := by simpa using kq.set_ 2 (.int .i64 (G : Int))
  replace kr := kr.grown hG (some_ne (by omega))
  replace hR := Blk.grown hR hG (some_ne (by omega))
  replace bc := Below.off bc bc.size (by omega) hG
  clear hG kq
  have kq := kq2; clear kq2
  go_wp2_with fail
  clear p0 p1 p2 p3 p4 p5 p6 p7 f0 f1 f2 f3 f4 f5 f6 f7
  generalize w4.setCell ⟨q, 2, none⟩ (.int .i64 (G : Int)) = x5 at *
  refine (TT.out _ ((HA.out.below bc).mono bc.size) hR).mono ?_
  rintro e w5 ⟨rfl, hR1, hg, hs⟩
  replace kr := kr.grown hg (some_ne (by omega))
  replace kq := kq.grown hg (some_ne (by omega))
  replace bc := Below.off bc bc.size (by omega) hg
  clear hg hR hs TT
  have hR := hR1; clear hR1
  have hlg := Blk.lt hR
  dsimp only
  obtain ⟨p0, p1, p2, p3, p4, p5, p6, p7⟩ := kq.eight
  obtain ⟨f0, f1, f2, f3, f4, f5, f6, f7⟩ := kq.eightF
  have lq := kq.lt
  have hG := only_setCell (World.grownBy.refl w5 (some q)) (p := ⟨q, 3, none⟩) (.inl rfl) (.int .i64 (T : Int))
  have kq2 : Blk (w5.setCell ⟨q, 3, none⟩ (.int .i64 (T : Int))) q 25 #[.int .i64 (N : Int), .int .i64 (S : Int), .int .i64 (G : Int), .int .i64 (T : Int), .int .i64 0, .int .i64 0, .slice none 0 0, .slice none 0 0] := by simpa using kq.set_ 3 (.int .i64 (T : Int))
  replace kr := kr.grown hG (some_ne (by omega))
  replace hR := Blk.grown hR hG (some_ne (by omega))
  replace bc := Below.off bc bc.size (by omega) hG
  clear hG kq
  have kq := kq2; clear kq2
  go_wp2_with fail
  clear p0 p1 p2 p3 p4 p5 p6 p7 f0 f1 f2 f3 f4 f5 f6 f7
  generalize w5.setCell ⟨q, 3, none⟩ (.int .i64 (T : Int)) = x6 at *
  refine (TD.out _ ((HA.out.below bc).mono bc.size) hR).mono ?_
  rintro e w6 ⟨rfl, hR1, hg, hs⟩
  replace kr := kr.grown hg (some_ne (by omega))
  replace kq := kq.grown hg (some_ne (by omega))
  replace bc := Below.off bc bc.size (by omega) hg
  clear hg hR hs TD
  have hR := hR1; clear hR1
  have hlg := Blk.lt hR
  dsimp only
  obtain ⟨p0, p1, p2, p3, p4, p5, p6, p7⟩ := kq.eight
  obtain ⟨f0, f1, f2, f3, f4, f5, f6, f7⟩ := kq.eightF
  have lq := kq.lt
  have hG := only_setCell (World.grownBy.refl w6 (some q)) (p := ⟨q, 4, none⟩) (.inl rfl) (.int .i64 (D : Int))
  have kq2 : Blk (w6.setCell ⟨q, 4, none⟩ (.int .i64 (D : Int))) q 25 #[.int .i64 (N : Int), .int .i64 (S : Int), .int .i64 (G : Int), .int .i64 (T : Int), .int .i64 (D : Int), .int .i64 0, .slice none 0 0, .slice none 0 0] := by simpa using kq.set_ 4 (.int .i64 (D : Int))
  replace kr := kr.grown hG (some_ne (by omega))
  replace hR := Blk.grown hR hG (some_ne (by omega))
  replace bc := Below.off bc bc.size (by omega) hG
  clear hG kq
  have kq := kq2; clear kq2
  go_wp2_with fail
  clear p0 p1 p2 p3 p4 p5 p6 p7 f0 f1 f2 f3 f4 f5 f6 f7
  generalize w6.setCell ⟨q, 4, none⟩ (.int .i64 (D : Int)) = x7 at *
  refine (TL.out _ ((HA.out.below bc).mono bc.size) hR).mono ?_
  rintro e w7 ⟨rfl, hR1, hg, hs⟩
  replace kr := kr.grown hg (some_ne (by omega))
  replace kq := kq.grown hg (some_ne (by omega))
  replace bc := Below.off bc bc.size (by omega) hg
  clear hg hR hs TL
  have hR := hR1; clear hR1
  have hlg := Blk.lt hR
  dsimp only
  obtain ⟨p0, p1, p2, p3, p4, p5, p6, p7⟩ := kq.eight
  obtain ⟨f0, f1, f2, f3, f4, f5, f6, f7⟩ := kq.eightF
  have lq := kq.lt
  have hG := only_setCell (World.grownBy.refl w7 (some q)) (p := ⟨q, 5, none⟩) (.inl rfl) (.int .i64 (L : Int))
  have kq2 : Blk (w7.setCell ⟨q, 5, none⟩ (.int .i64 (L : Int))) q 25 #[.int .i64 (N : Int), .int .i64 (S : Int), .int .i64 (G : Int), .int .i64 (T : Int), .int .i64 (D : Int), .int .i64 (L : Int), .slice none 0 0, .slice none 0 0] := by simpa using kq.set_ 5 (.int .i64 (L : Int))
  replace kr := kr.grown hG (some_ne (by omega))
  replace hR := Blk.grown hR hG (some_ne (by omega))
  replace bc := Below.off bc bc.size (by omega) hG
  clear hG kq
  have kq := kq2; clear kq2
  go_wp2_with fail
  clear p0 p1 p2 p3 p4 p5 p6 p7 f0 f1 f2 f3 f4 f5 f6 f7 lq
  generalize w7.setCell ⟨q, 5, none⟩ (.int .i64 (L : Int)) = x8 at *
  refine (HTR.out (w.heap.size + 1) 17 N _ (by omega) (by omega) ((HA.out.below bc).mono bc.size) hR).mono ?_
  rintro e w8 ⟨gc, rfl, hgc, kc, hR1, hg⟩
  dsimp only
  have lq0 := kq.lt
  replace kr := kr.grown hg (some_ne (by omega))
  replace kq := kq.grown hg (some_ne (by omega))
  replace bc := Below.off bc bc.size (by omega) hg
  clear hg hR; have hR := hR1; clear hR1
  obtain ⟨p0, p1, p2, p3, p4, p5, p6, p7⟩ := kq.eight
  obtain ⟨f0, f1, f2, f3, f4, f5, f6, f7⟩ := kq.eightF
  have lq := kq.lt
  have hG := only_setCell (World.grownBy.refl w8 (some q)) (p := ⟨q, 6, none⟩) (.inl rfl) (.slice (some ⟨gc, 0, none⟩) N N)
  have kq2 : Blk (w8.setCell ⟨q, 6, none⟩ (.slice (some ⟨gc, 0, none⟩) N N)) q 25 #[.int .i64 (N : Int), .int .i64 (S : Int), .int .i64 (G : Int), .int .i64 (T : Int), .int .i64 (D : Int), .int .i64 (L : Int), .slice (some ⟨gc, 0, none⟩) N N, .slice none 0 0] := by simpa using kq.set_ 6 (.slice (some ⟨gc, 0, none⟩) N N)
  replace kr := kr.grown hG (some_ne (by omega))
  replace hR := Blk.grown hR hG (some_ne (by omega))
  replace kc := kc.grown hG (some_ne (by omega))
  replace bc := Below.off bc bc.size (by omega) hG
  have hgq : q + 1 ≤ gc := by omega
  clear hG kq hgc lq0
  have kq := kq2; clear kq2
  go_wp2_with fail
  clear p0 p1 p2 p3 p4 p5 p6 p7 f0 f1 f2 f3 f4 f5 f6 f7 lq
  generalize w8.setCell ⟨q, 6, none⟩ (.slice (some ⟨gc, 0, none⟩) N N) = x9 at *
  have lq := kq.lt
  obtain ⟨i0, hi, hz0, hz1, hz2⟩ := info_parts Tryd.infoMode
  go_loopw [28] (fun i wr => ∃ (k : Nat) (vs : List MdV) (vA : Option Addr) (vc : Nat), k ≤ M ∧ i = .int .i64 k ∧ Rd (w.heap.size + 1) b off n c (18 + k * (N + 2)) wr ∧ Blk wr w.heap.size 25 #[.int .i64 0, .int .i64 0, .int .i64 0, .int .i64 0, .int .i64 0, .int .i64 0, .slice none 0 0, .slice none 0 0] ∧ Blk wr q 25 #[.int .i64 (N : Int), .int .i64 (S : Int), .int .i64 (G : Int), .int .i64 (T : Int), .int .i64 (D : Int), .int .i64 (L : Int), .slice (some ⟨gc, 0, none⟩) N N, .slice vA k vc] ∧ Blk wr gc 4 ((bitsN (bs[17]?.getD 0).toNat N).map Value.bool).toArray ∧ ModesAt bs N M k vs wr ∧ wr.ownsRow (q + 1) 46 3 (.slice vA k vc) k (cellsOs vs) ∧ Below w.heap.size w wr) (fun i _ => M - (intOf i).toNat)
  case atStart => exact ⟨0, [], none, 0, by omega, rfl, by rw [Nat.zero_mul]; exact hR, kr, kq, kc, ⟨rfl, fun i hi => by omega⟩, World.ownsRow_nil _ _ _ _, bc⟩
  case round =>
    clear hR kr kq kc bc lq
    obtain ⟨k, vs, vA, vc, hk, rfl, hR, kr, kq, kc, hV, ho, bc⟩ := hrel
    by_cases hlt : k < M
    · have hQ : k * (N + 2) + (N + 2) ≤ M * (N + 2) := by
        have h := Nat.mul_le_mul_right (N + 2) (show k + 1 ≤ M by omega)
        rwa [Nat.add_mul, Nat.one_mul] at h
      obtain ⟨J, hJ⟩ : ∃ J, J = 18 + k * (N + 2) := ⟨_, rfl⟩
      have hJn : J + N + 2 + 3 ≤ n := by have := HLEN.out; omega
      rw [← hJ] at hR
      have HJ := Lib.hid hJ; clear hJ hQ
      obtain ⟨p0, p1, p2, p3, p4, p5, p6, p7⟩ := kq.eight
      have lq := kq.lt
      go_wp2_with fail
      refine (HNU.out (w.heap.size + 1) J N _ (by omega) (by omega) ((HA.out.below bc).mono bc.size) (by omega) hR).mono ?_
      rintro e w10 ⟨gd, rfl, hgd, kd, hR1, hg⟩
      dsimp only
      have kiR := ki_grown hR hg
      replace kr := kr.grown hg (some_ne (by omega))
      replace kq := kq.grown hg (some_ne (by omega))
      replace kc := kiR _ _ _ kc (.inr rfl)
      replace hV := hV.keep kiR
      replace ho := own_reader ho hR (by decide) hg
      replace bc := Below.off bc bc.size (by omega) hg
      have hsz10 := hg.size
      clear hg hR kiR p0 p1 p2 p3 p4 p5 p6 p7; have hR := hR1; clear hR1
      have hobx := own_new ho (Nat.le_refl _)
      have hbq : q < w10.heap.size := kq.lt
      have hbg : w.heap.size + 1 < w10.heap.size := Blk.lt hR
      have ko := Blk.new w10 46 #[.slice (some ⟨gd, 0, none⟩) N N, .slice none 0 0, .slice none 0 0]
      have al := Below.al w10 (.cells #[.slice (some ⟨gd, 0, none⟩) N N, .slice none 0 0, .slice none 0 0] 46)
      replace kr := kr.on al; replace kq := kq.on al; replace kc := kc.on al; replace kd := kd.on al; replace hV := hV.keep (ki_alloc w10 (.cells #[.slice (some ⟨gd, 0, none⟩) N N, .slice none 0 0, .slice none 0 0] 46)); replace ho := ho.alloc (.cells #[.slice (some ⟨gd, 0, none⟩) N N, .slice none 0 0, .slice none 0 0] 46); replace bc := bc.trans (al.mono bc.size); replace hR := Blk.on hR al
      clear al
      obtain ⟨p0, p1, p2, p3, p4, p5, p6, p7⟩ := kq.eight
      have lq := kq.lt
      go_wp2_with fail
      generalize w10.alloc (.cells #[.slice (some ⟨gd, 0, none⟩) N N, .slice none 0 0, .slice none 0 0] 46) = y10 at *
      generalize w10.heap.size = bx at *
      refine (HTR.out (w.heap.size + 1) (J + N) N _ (by omega) (by omega) ((HA.out.below bc).mono bc.size) hR).mono ?_
      rintro e w11 ⟨gx, rfl, hgx, kx, hR1, hg⟩
      dsimp only
      have kiR := ki_grown hR hg
      replace kr := kr.grown hg (some_ne (by omega)); replace kq := kq.grown hg (some_ne (by omega)); replace ko := ko.grown hg (some_ne (by omega))
      replace kc := kiR _ _ _ kc (.inr rfl)
      replace kd := kiR _ _ _ kd (.inl rfl)
      replace hV := hV.keep kiR; replace ho := own_reader ho hR (by decide) hg; replace bc := Below.off bc bc.size (by omega) hg
      clear hg hR kiR; (try clear p0 p1 p2 p3 p4 p5 p6 p7 lq); have hR := hR1; clear hR1
      obtain ⟨m0, m1, m2, n0, n1, n2⟩ := ko.three
      have lo := ko.lt
      have hG := only_setCell (World.grownBy.refl w11 (some bx)) (p := ⟨bx, 1, none⟩) (.inl rfl) (.slice (some ⟨gx, 0, none⟩) N N)
      have kiS := ki_set ko (by decide) (by decide) 1 (.slice (some ⟨gx, 0, none⟩) N N)
      have ko2 : Blk (w11.setCell ⟨bx, 1, none⟩ (.slice (some ⟨gx, 0, none⟩) N N)) bx 46 #[.slice (some ⟨gd, 0, none⟩) N N, .slice (some ⟨gx, 0, none⟩) N N, .slice none 0 0] := by simpa using ko.set_ 1 (.slice (some ⟨gx, 0, none⟩) N N)
      replace kr := kr.grown hG (some_ne (by omega)); replace kq := kq.grown hG (some_ne (by omega)); replace hR := Blk.grown hR hG (some_ne (by omega))
      replace kc := kiS _ _ _ kc (.inr rfl)
      replace kd := kiS _ _ _ kd (.inl rfl)
      replace kx := kiS _ _ _ kx (.inr rfl)
      replace hV := hV.keep kiS; replace ho := own_set (j := 1) ho hobx (.slice (some ⟨gx, 0, none⟩) N N); replace bc := Below.off bc bc.size (by omega) hG
      clear hG kiS ko; have ko := ko2; clear ko2
      obtain ⟨p0, p1, p2, p3, p4, p5, p6, p7⟩ := kq.eight
      obtain ⟨f0, f1, f2, f3, f4, f5, f6, f7⟩ := kq.eightF
      have lq := kq.lt
      go_wp2_with fail
      clear p0 p1 p2 p3 p4 p5 p6 p7 f0 f1 f2 f3 f4 f5 f6 f7 lq m0 m1 m2 n0 n1 n2 lo
      generalize w11.setCell ⟨bx, 1, none⟩ (.slice (some ⟨gx, 0, none⟩) N N) = y11 at *
      refine (HTR.out (w.heap.size + 1) (J + N + 1) M _ (by omega) (by omega) ((HA.out.below bc).mono bc.size) hR).mono ?_
      rintro e w12 ⟨gn, rfl, hgn, kn, hR1, hg⟩
      dsimp only
      have kiR := ki_grown hR hg
      replace kr := kr.grown hg (some_ne (by omega)); replace kq := kq.grown hg (some_ne (by omega)); replace ko := ko.grown hg (some_ne (by omega))
      replace kc := kiR _ _ _ kc (.inr rfl)
      replace kd := kiR _ _ _ kd (.inl rfl)
      replace kx := kiR _ _ _ kx (.inr rfl)
      replace hV := hV.keep kiR; replace ho := own_reader ho hR (by decide) hg; replace bc := Below.off bc bc.size (by omega) hg
      clear hg hR kiR; (try clear p0 p1 p2 p3 p4 p5 p6 p7 lq); have hR := hR1; clear hR1
      obtain ⟨m0, m1, m2, n0, n1, n2⟩ := ko.three
      have lo := ko.lt
      have hG := only_setCell (World.grownBy.refl w12 (some bx)) (p := ⟨bx, 2, none⟩) (.inl rfl) (.slice (some ⟨gn, 0, none⟩) M M)
      have kiS := ki_set ko (by decide) (by decide) 2 (.slice (some ⟨gn, 0, none⟩) M M)
      have ko2 : Blk (w12.setCell ⟨bx, 2, none⟩ (.slice (some ⟨gn, 0, none⟩) M M)) bx 46 #[.slice (some ⟨gd, 0, none⟩) N N, .slice (some ⟨gx, 0, none⟩) N N, .slice (some ⟨gn, 0, none⟩) M M] := by simpa using ko.set_ 2 (.slice (some ⟨gn, 0, none⟩) M M)
      replace kr := kr.grown hG (some_ne (by omega)); replace kq := kq.grown hG (some_ne (by omega)); replace hR := Blk.grown hR hG (some_ne (by omega))
      replace kc := kiS _ _ _ kc (.inr rfl)
      replace kd := kiS _ _ _ kd (.inl rfl)
      replace kx := kiS _ _ _ kx (.inr rfl)
      replace kn := kiS _ _ _ kn (.inr rfl)
      replace hV := hV.keep kiS; replace ho := own_set (j := 2) ho hobx (.slice (some ⟨gn, 0, none⟩) M M); replace bc := Below.off bc bc.size (by omega) hG
      clear hG kiS ko; have ko := ko2; clear ko2
      obtain ⟨p0, p1, p2, p3, p4, p5, p6, p7⟩ := kq.eight
      obtain ⟨f0, f1, f2, f3, f4, f5, f6, f7⟩ := kq.eightF
      have lq := kq.lt
      go_upto_region 15 with fail
      clear m0 m1 m2 n0 n1 n2 lo
      obtain ⟨m0, m1, m2, -⟩ := ko.three
      have lo := ko.lt
      generalize w12.setCell ⟨bx, 2, none⟩ (.slice (some ⟨gn, 0, none⟩) M M) = y12 at *
      have hnb : (y12.alloc (.cells #[.slice (some ⟨gd, 0, none⟩) N N, .slice (some ⟨gx, 0, none⟩) N N, .slice (some ⟨gn, 0, none⟩) M M] 46)).heap[y12.heap.size]? = some (.cells #[.slice (some ⟨gd, 0, none⟩) N N, .slice (some ⟨gx, 0, none⟩) N N, .slice (some ⟨gn, 0, none⟩) M M] 46 (0, 0)) := Blk.new y12 46 #[.slice (some ⟨gd, 0, none⟩) N N, .slice (some ⟨gx, 0, none⟩) N N, .slice (some ⟨gn, 0, none⟩) M M]
      have hq1 : q + 1 ≤ y12.heap.size := lq
      go_wp2_with (at_builtin; refine wpList_append_own_at _ rfl _ _ 23 rfl (q + 1) 46 i0 (.agg #[.slice none 0 0, .slice none 0 0, .slice none 0 0]) 3 72 Tryd.underlying23 hi hz0 hz1 hz2 rfl (by decide) (.slice vA k vc) k _ rfl (ho.alloc _) ⟨y12.heap.size, 0, none⟩ 1 1 [.slice (some ⟨gd, 0, none⟩) N N, .slice (some ⟨gx, 0, none⟩) N N, .slice (some ⟨gn, 0, none⟩) M M] rfl rfl (World.news_of_block hnb) (by simp [Value.oneCell']) (by unfold maxLen; omega) (by omega) (by simp; omega) ?_; intro v' w13 hown hgrow _ hat; obtain ⟨vA2, vc2, rfl⟩ := own_slice hown; have kiO := ki_own ho hgrow; replace kr := (kr.alloc (.cells #[.slice (some ⟨gd, 0, none⟩) N N, .slice (some ⟨gx, 0, none⟩) N N, .slice (some ⟨gn, 0, none⟩) M M] 46)).grown hgrow (own_ne_blk ho kr (by decide)); replace kq := (kq.alloc (.cells #[.slice (some ⟨gd, 0, none⟩) N N, .slice (some ⟨gx, 0, none⟩) N N, .slice (some ⟨gn, 0, none⟩) M M] 46)).grown hgrow (own_ne_blk ho kq (by decide)); replace hR := Blk.grown (Blk.alloc hR (.cells #[.slice (some ⟨gd, 0, none⟩) N N, .slice (some ⟨gx, 0, none⟩) N N, .slice (some ⟨gn, 0, none⟩) M M] 46)) hgrow (own_ne_blk ho hR (by decide)); replace kc := kiO _ _ _ kc (.inr rfl); replace kd := kiO _ _ _ kd (.inl rfl); replace kx := kiO _ _ _ kx (.inr rfl); replace kn := kiO _ _ _ kn (.inr rfl); replace hV := hV.keep kiO; replace bc := own_below ho hgrow bc (by omega) (by omega); clear p0 p1 p2 p3 p4 p5 p6 p7 f0 f1 f2 f3 f4 f5 f6 f7 lq m0 m1 m2 lo; obtain ⟨p0, p1, p2, p3, p4, p5, p6, p7⟩ := kq.eight; obtain ⟨f0, f1, f2, f3, f4, f5, f6, f7⟩ := kq.eightF; have lq := kq.lt)
      have hG := only_setCell (World.grownBy.refl w13 (some q)) (p := ⟨q, 7, none⟩) (.inl rfl) (.slice vA2 (k + 1) vc2)
      have kiS := ki_set kq (by decide) (by decide) 7 (.slice vA2 (k + 1) vc2)
      have kq2 : Blk (w13.setCell ⟨q, 7, none⟩ (.slice vA2 (k + 1) vc2)) q 25 #[.int .i64 (N : Int), .int .i64 (S : Int), .int .i64 (G : Int), .int .i64 (T : Int), .int .i64 (D : Int), .int .i64 (L : Int), .slice (some ⟨gc, 0, none⟩) N N, .slice vA2 (k + 1) vc2] := by simpa using kq.set_ 7 (.slice vA2 (k + 1) vc2)
      have ho2 := own_set (j := 7) hown (own_ne_blk hown kq (by decide)) (.slice vA2 (k + 1) vc2)
      replace kr := kr.grown hG (some_ne (by omega)); replace hR := Blk.grown hR hG (some_ne (by omega))
      replace kc := kiS _ _ _ kc (.inr rfl)
      replace kd := kiS _ _ _ kd (.inl rfl)
      replace kx := kiS _ _ _ kx (.inr rfl)
      replace kn := kiS _ _ _ kn (.inr rfl)
      replace hV := hV.keep kiS; replace bc := Below.off bc bc.size (by omega) hG
      rw [HJ.out] at kd kx kn hR
      have hV2 := hV.snoc kd kx kn
      go_roundw
      case rel =>
        refine ⟨k + 1, _, vA2, vc2, by omega, by go_num, ?_, kr, kq2, kc, hV2, ?_, bc⟩
        · rw [show 18 + (k + 1) * (N + 2) = 18 + k * (N + 2) + N + 1 + 1 by rw [Nat.add_mul]; omega]
          exact hR
        · rw [cellsOs_snoc]
          exact ho2
      case measure => simp [intOf]; omega
    · obtain rfl : k = M := by omega
      have hq1 := kq.lt
      have hrq : w.heap.size ≠ q := by omega
      obtain ⟨p0, p1, p2, p3, p4, p5, p6, p7⟩ := kq.eight
      have hst := run_storeVar_row (P := Tryd.prog) wr w.heap.size 25 25 _ #[.int .i64 (N : Int), .int .i64 (S : Int), .int .i64 (G : Int), .int .i64 (T : Int), .int .i64 (D : Int), .int .i64 (L : Int), .slice (some ⟨gc, 0, none⟩) N N, .slice vA k vc] kr infoM rfl (by simp [Value.oneCell'])
      simp [go_sem] at hst
      have hG := only_setRow wr w.heap.size #[.int .i64 (N : Int), .int .i64 (S : Int), .int .i64 (G : Int), .int .i64 (T : Int), .int .i64 (D : Int), .int .i64 (L : Int), .slice (some ⟨gc, 0, none⟩) N N, .slice vA k vc]
      have kiG : Ki wr (wr.setRow w.heap.size #[.int .i64 (N : Int), .int .i64 (S : Int), .int .i64 (G : Int), .int .i64 (T : Int), .int .i64 (D : Int), .int .i64 (L : Int), .slice (some ⟨gc, 0, none⟩) N N, .slice vA k vc]) := fun b t c x ht => x.grown hG (some_ne (x.ne_type kr (by rcases ht with rfl | rfl <;> decide)))
      have hor := ho.kept hG (.inr fun e => own_ne_blk ho kr (by decide) e.symm)
      replace bc := Below.off bc bc.size (Nat.le_refl _) hG
      have kr2 := kr.row8 #[.int .i64 (N : Int), .int .i64 (S : Int), .int .i64 (G : Int), .int .i64 (T : Int), .int .i64 (D : Int), .int .i64 (L : Int), .slice (some ⟨gc, 0, none⟩) N N, .slice vA k vc]
      have hlen := HLEN.out
      have hmed := med_read (a1 := N) (a2 := S) (a3 := G) (a4 := T) (a5 := D) (a6 := L) (by omega) (by omega) (fun k2 hk2 => by
        have h := Nat.mul_le_mul_right (N + 2) (show k2 + 1 ≤ k by omega)
        rw [Nat.add_mul, Nat.one_mul] at h
        have := HNL.out
        omega) (kiG _ _ _ kc (.inr rfl)) (hV.keep kiG) hor
      have hall := fun (r : Nat) (cs : Array Value) (U : World) (hr : Blk (wr.setRow w.heap.size #[.int .i64 (N : Int), .int .i64 (S : Int), .int .i64 (G : Int), .int .i64 (T : Int), .int .i64 (D : Int), .int .i64 (L : Int), .slice (some ⟨gc, 0, none⟩) N N, .slice vA k vc]) r 25 cs) (hu : (wr.setRow w.heap.size #[.int .i64 (N : Int), .int .i64 (S : Int), .int .i64 (G : Int), .int .i64 (T : Int), .int .i64 (D : Int), .int .i64 (L : Int), .slice (some ⟨gc, 0, none⟩) N N, .slice vA k vc]).grownBy U (some r)) => med_read (a1 := N) (a2 := S) (a3 := G) (a4 := T) (a5 := D) (a6 := L) (by omega) (by omega) (fun k2 hk2 => by
        have h := Nat.mul_le_mul_right (N + 2) (show k2 + 1 ≤ k by omega)
        rw [Nat.add_mul, Nat.one_mul] at h
        have := HNL.out
        omega) ((kiG _ _ _ kc (.inr rfl)).grown hu (some_ne ((kiG _ _ _ kc (.inr rfl)).ne_type hr (by decide)))) ((hV.keep kiG).keep fun b t c x ht => x.grown hu (some_ne (x.ne_type hr (by rcases ht with rfl | rfl <;> decide)))) (hor.kept hu (.inr fun e => own_ne_blk hor hr (by decide) e.symm))
      have HMED := Lib.hid hmed; have HALL := Lib.hid hall
      obtain ⟨q0, q1, q2, q3, q4, q5, q6, q7⟩ := kr2.eight
      clear hG kiG hor kr kq kc hV ho hmed hall kr2 hR hlen
      have BC := Lib.hid bc; clear bc
      go_wp2_with fail
      refine bodyPost_ret (v := .agg #[.int .i64 (N : Int), .int .i64 (S : Int), .int .i64 (G : Int), .int .i64 (T : Int), .int .i64 (D : Int), .int .i64 (L : Int), .slice (some ⟨gc, 0, none⟩) N N, .slice vA k vc]) (by simp [results, Tryd.results21, go_sem, q0, q1, q2, q3, q4, q5, q6, q7]) rfl ?_
      rw [HRR.out]
      exact ⟨⟨some ⟨gc, 0, none⟩, N, N⟩, ⟨vA, k, vc⟩, rfl, HMED.out, HALL.out, BC.out⟩
end Go.Proofs.YtnmaelefcohogaaDoor
