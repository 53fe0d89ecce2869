/-
  A scope in which the run jumps to several labels (over no program), and the labels of the program's Decode. No condition.
  The program's Decode, label by label. Conditions: rows that can be read, of up to 65,536 samples.
  The program's Decode, its labels that read, and the whole. Conditions: rows that can be read, of up to 65,536 samples.
  The program's Decode, the label length, and the whole. Conditions: rows that can be read, of up to 65,536 samples.
  The program's Decode and Receive. Conditions: rows that can be read, of up to 65,536 samples.
  PhasorReads returns true and leaves all memory that was there as it was, for all samples, places and quarters. Condition: samples that can be read.
-/
import Derived.Test.YtdmedhklcicpeaaW8
import Derived.Test.YtdmedhklcicpeaaKA
import Derived.WalkMore
import Derived.ScopeJumps
namespace Go.Proofs.Ytdmedhklcicpeaa
open Go.RowKit

/-- As Q; by a goto to a label l: J of it, with a measure below m. -/
def jumpsTo (m : Nat) (J : Nat → Nat → Act → World → Prop) (Q : Exit → Act → World → Prop) : Exit → Act → World → Prop
  | .goto l, a, w => ∃ m', m' < m ∧ J l m' a w
  | e, a, w => Q e a w
theorem wp_scope_labels {P : Program} {a : Act} {w : World} {Q : Exit → Act → World → Prop} {c : Code} (J : Nat → Nat → Act → World → Prop) (M : Nat)
    (first : c.wp P (jumpsTo M J Q) a w)
    (pass : ∀ l m a w, J l m a w → ∃ rest, findLabel c l = some rest ∧ rest.wp P (jumpsTo m J Q) a w) : (Code.scope c).wp P Q a w := by
  intro b k cs
  have key : ∀ m l a w, J l m a w → ∃ rest, findLabel c l = some rest ∧ ∃ e a' w', Q e a' w' ∧ Arrives P (lone (b.at a (.code rest :: .inScope c :: k)) cs w) b k cs e a' w' := by
    intro m
    induction m using Nat.strongRecOn with
    | _ m ih =>
      intro l a w hJ
      obtain ⟨rest, hf, hp⟩ := pass l m a w hJ
      refine ⟨rest, hf, ?_⟩
      obtain ⟨e, a₁, w₁, hq, harr⟩ := hp b (.inScope c :: k) cs
      cases e with
      | normal => exact ⟨.normal, a₁, w₁, hq, Steps.trans harr (.one step_inScope)⟩
      | exit id => exact ⟨.exit id, a₁, w₁, hq, fun k' hk => harr k' (by simp [exitTo, hk])⟩
      | goto l' =>
        obtain ⟨m', hlt, hJ'⟩ := hq
        obtain ⟨rest', hf', e₂, a₂, w₂, hq₂, harr₂⟩ := ih m' hlt l' a₁ w₁ hJ'
        have hg : gotoIn l' (.inScope c :: k) = some (.code rest' :: .inScope c :: k) := by simp [gotoIn, hf']
        exact ⟨e₂, a₂, w₂, hq₂, .of_steps (harr _ hg) harr₂⟩
      | ret => exact ⟨_, a₁, w₁, hq, harr⟩
      | panic ch => exact ⟨_, a₁, w₁, hq, harr⟩
      | outgrown => exact ⟨_, a₁, w₁, hq, harr⟩
  obtain ⟨e, a₁, w₁, hq, harr⟩ := first b (.inScope c :: k) cs
  cases e with
  | normal => exact ⟨.normal, a₁, w₁, hq, .head step_scope (Steps.trans harr (.one step_inScope))⟩
  | exit id => exact ⟨.exit id, a₁, w₁, hq, fun k' hk => .head step_scope (harr k' (by simp [exitTo, hk]))⟩
  | goto l' =>
    obtain ⟨m', _, hJ'⟩ := hq
    obtain ⟨rest', hf', e₂, a₂, w₂, hq₂, harr₂⟩ := key m' l' a₁ w₁ hJ'
    have hg : gotoIn l' (.inScope c :: k) = some (.code rest' :: .inScope c :: k) := by simp [gotoIn, hf']
    exact ⟨e₂, a₂, w₂, hq₂, .of_steps (.head step_scope (harr _ hg)) harr₂⟩
  | ret => exact ⟨_, a₁, w₁, hq, .of_steps (.one step_scope) harr⟩
  | panic ch => exact ⟨_, a₁, w₁, hq, .of_steps (.one step_scope) harr⟩
  | outgrown => exact ⟨_, a₁, w₁, hq, .of_steps (.one step_scope) harr⟩

/-- Decode's body within its scope, and what stands behind each of its labels. -/
noncomputable def codeD : Code := match Try.f28.body with | some (.seq _ (.scope c)) => c | _ => .skip
noncomputable def restD (l : Nat) : Code := match findLabel codeD l with | some (.seq _ r) => r | _ => .skip
theorem find_restD : ∀ l, l < 4 → findLabel codeD l = some (.seq .skip (restD l))
  | 0, _ => by kernel_rfl
  | 1, _ => by kernel_rfl
  | 2, _ => by kernel_rfl
  | 3, _ => by kernel_rfl

/-- The frame of Decode at a label. -/
def FrD (x0 x8 x9 x11 : Value) (at_ q : Int) (g : Nat) (a : Act) : Prop := ∃ u12 u13 u14 u15 u16 u17 u18 u19 u20 u21 u22 u23 u24 u25 u26 u27 u28 u29 u30 u31 u32 u33 u34 u35 u36 u37 u38 u39 u40 u41 u42 u43 u44 u45 u46 u47 u48 u49 u50 u51 u52 u53 u54 u55 u56 u57 u58 u59 u60 u61 u62 u63 u64 u65 u66 u67 u68 u69 u70 u71 u72 u73 u74 u75 u76 u77 u78 : Value, a = ⟨#[x0, .int .i64 at_, .int .i64 q, undef, undef, undef, .pointer (some ⟨g, 0, none⟩), .int .i64 0, x8, x9, .pointer (some ⟨g + 1, 0, none⟩), x11, u12, u13, u14, u15, u16, u17, u18, u19, u20, u21, u22, u23, u24, u25, u26, u27, u28, u29, u30, u31, u32, u33, u34, u35, u36, u37, u38, u39, u40, u41, u42, u43, u44, u45, u46, u47, u48, u49, u50, u51, u52, u53, u54, u55, u56, u57, u58, u59, u60, u61, u62, u63, u64, u65, u66, u67, u68, u69, u70, u71, u72, u73, u74, u75, u76, u77, u78], []⟩

/-- Decode of what stands behind the preamble. -/
def decD (D : List Sp) (q : Int) : Int × List Bool :=
  if (D.take 6).all mayS = false then (31, [])
  else if D.length < 6 + (numOf (bitsS (D.take 6) q) + 1) / 2 then (32, [])
  else if ((D.drop 6).take ((numOf (bitsS (D.take 6) q) + 1) / 2)).all mayS = false then (31, [])
  else if (bitsS ((D.drop 6).take ((numOf (bitsS (D.take 6) q) + 1) / 2)) q)[numOf (bitsS (D.take 6) q)]?.getD false = true then (33, [])
  else (0, (bitsS ((D.drop 6).take ((numOf (bitsS (D.take 6) q) + 1) / 2)) q).take (numOf (bitsS (D.take 6) q)))
theorem decode_decD (l : List Sp) (a : Nat) (q : Int) (h : a + 14 ≤ l.length) : decodeS l (a : Int) q = decD (l.drop (a + 8)) q := by
  unfold decodeS decD lenS
  rw [if_neg (by omega), if_neg (by omega), Int.toNat_natCast, List.drop_drop, show a + 8 + 6 = a + 14 by omega]
  generalize numOf (bitsS ((l.drop (a + 8)).take 6) q) = n
  by_cases h2 : l.length - (a + 8) < 6 + (n + 1) / 2
  · have e1 : (l.length : Int) - ((a : Int) + 14) < (((n + 1) / 2 : Nat) : Int) := by omega
    have e2 : (l.drop (a + 8)).length < 6 + (n + 1) / 2 := by rw [List.length_drop]; exact h2
    rw [if_pos e1, if_pos e2]
  · have e1 : ¬ (l.length : Int) - ((a : Int) + 14) < (((n + 1) / 2 : Nat) : Int) := by omega
    have e2 : ¬ (l.drop (a + 8)).length < 6 + (n + 1) / 2 := by rw [List.length_drop]; exact h2
    rw [if_neg e1, if_neg e2]
theorem not_all_take {D : List Sp} {k m : Nat} (hk : k < m) (hD : k < D.length) (h : mayS (D[k]?.getD (0, 0)) = false) : (D.take m).all mayS = false :=
  not_all_may _ k (by rw [List.length_take]; omega) (by rw [List.getElem?_take_of_lt hk]; exact h)
theorem dec_e1 {D : List Sp} {k : Nat} (q : Int) (hk : k < 6) (hD : k < D.length) (h : mayS (D[k]?.getD (0, 0)) = false) : decD D q = (31, []) := by
  unfold decD
  rw [if_pos (not_all_take hk hD h)]
theorem dec_e2 {D : List Sp} (q : Int) (h6 : (D.take 6).all mayS = true) (h : D.length < 6 + (numOf (bitsS (D.take 6) q) + 1) / 2) : decD D q = (32, []) := by
  unfold decD
  rw [if_neg (by rw [h6]; decide), if_pos h]
theorem dec_e3 {D : List Sp} {k : Nat} (q : Int) (h6 : (D.take 6).all mayS = true) (h : 6 + (numOf (bitsS (D.take 6) q) + 1) / 2 ≤ D.length) (hk0 : 6 ≤ k) (hk : k < 6 + (numOf (bitsS (D.take 6) q) + 1) / 2) (hm : mayS (D[k]?.getD (0, 0)) = false) : decD D q = (31, []) := by
  unfold decD
  have hx : ((D.drop 6).take ((numOf (bitsS (D.take 6) q) + 1) / 2)).all mayS = false :=
    not_all_take (k := k - 6) (by omega) (by rw [List.length_drop]; omega) (by rw [List.getElem?_drop, show 6 + (k - 6) = k by omega]; exact hm)
  rw [if_neg (by rw [h6]; decide), if_neg (by omega), if_pos hx]
theorem bits_take (D : List Sp) (q : Int) (m : Nat) : bitsS (D.take (6 + m)) q = bitsS (D.take 6) q ++ bitsS ((D.drop 6).take m) q := by
  unfold bitsS
  rw [← List.flatMap_append, ← List.take_add]
theorem dec_fin {D : List Sp} (q : Int) {n : Nat} (hn : n = numOf (bitsS (D.take 6) q)) (hK : 6 + (n + 1) / 2 ≤ D.length) (h : (D.take (6 + (n + 1) / 2)).all mayS = true) :
    decD D q = if (bitsS (D.take (6 + (n + 1) / 2)) q)[12 + n]?.getD false = true then (33, []) else (0, ((bitsS (D.take (6 + (n + 1) / 2)) q).drop 12).take n) := by
  have h6 : (D.take 6).all mayS = true := by
    rw [List.all_eq_true] at h ⊢
    exact fun s hs => h s (by
      have e : D.take 6 = (D.take (6 + (n + 1) / 2)).take 6 := by rw [List.take_take, Nat.min_eq_left (by omega)]
      rw [e] at hs; exact List.mem_of_mem_take hs)
  have h7 : ((D.drop 6).take ((n + 1) / 2)).all mayS = true := by
    rw [List.all_eq_true] at h ⊢
    exact fun s hs => h s (by rw [List.take_add]; exact List.mem_append.2 (.inr hs))
  have hl : (bitsS (D.take 6) q).length = 12 := by rw [bitsS_length, List.length_take]; omega
  have e1 : (bitsS (D.take (6 + (n + 1) / 2)) q)[12 + n]? = (bitsS ((D.drop 6).take ((n + 1) / 2)) q)[n]? := by
    rw [bits_take, List.getElem?_append_right (by omega), hl, show 12 + n - 12 = n by omega]
  have e2 : (bitsS (D.take (6 + (n + 1) / 2)) q).drop 12 = bitsS ((D.drop 6).take ((n + 1) / 2)) q := by
    rw [bits_take, ← hl, List.drop_left]
  rw [e1, e2]
  unfold decD
  rw [← hn, if_neg (by rw [h6]; decide), if_neg (by omega), if_neg (by rw [h7]; decide)]

/-- What Decode answers, at its end. -/
structure EndD (w : World) (R : Int × List Bool) (x11 : Value) (W : World) : Prop where
  err : x11 = .int .i64 R.1
  out : ∃ (A : Option Addr) (n c : Nat) (bs : List UInt8), Blk W (w.heap.size + 1) 24 #[.int .i64 R.2.length, .slice A n c] ∧ n = bs.length ∧ IsBits R.2 bs ∧ R.2.length ≤ 4096 ∧ Byt W.heap.size W A bs ∧ Fresh (w.heap.size + 2) A bs
  box : Blk W w.heap.size 24 #[.int .i64 0, .slice none 0 0]
  bel : Below w.heap.size w W
/-- What it has, while it reads: k samples read, of those that stand in D. -/
structure MidD (w : World) (D : List Sp) (q : Int) (k : Nat) (x8 : Value) (W : World) : Prop where
  out : Blk W (w.heap.size + 1) 24 #[.int .i64 0, .slice none 0 0]
  box : Blk W w.heap.size 24 #[.int .i64 0, .slice none 0 0]
  bel : Below w.heap.size w W
  row : W.ownsRow (w.heap.size + 2) 4 1 x8 (2 * k) ((bitsS (D.take k) q).map Value.bool)
  may : (D.take k).all mayS = true
theorem MidD.end_ {w : World} {D : List Sp} {q : Int} {k : Nat} {x8 : Value} {W : World} (h : MidD w D q k x8 W) (e : Int) : EndD w (e, []) (.int .i64 e) W :=
  ⟨rfl, ⟨none, 0, 0, [], h.out, rfl, isBits_nil, by simp, fun h => absurd rfl h, fun _ h => by cases h⟩, h.box, h.bel⟩

set_option maxRecDepth 100000 in
set_option maxHeartbeats 1000000 in
theorem decL0 (w : World) (R : Int × List Bool) (x0 x8 x9 x11 : Value) (at_ q : Int) (a : Act) (W : World) (Q : Exit → Act → World → Prop)
    (hR : ∀ a' w', bodyPost Try.prog Try.f28 (Res w R) .ret a' w' → Q .ret a' w')
    (hF : FrD x0 x8 x9 x11 at_ q w.heap.size a) (hE : EndD w R x11 W) : (restD 0).wp Try.prog Q a W := by
  obtain ⟨u12, u13, u14, u15, u16, u17, u18, u19, u20, u21, u22, u23, u24, u25, u26, u27, u28, u29, u30, u31, u32, u33, u34, u35, u36, u37, u38, u39, u40, u41, u42, u43, u44, u45, u46, u47, u48, u49, u50, u51, u52, u53, u54, u55, u56, u57, u58, u59, u60, u61, u62, u63, u64, u65, u66, u67, u68, u69, u70, u71, u72, u73, u74, u75, u76, u77, u78, rfl⟩ := hF
  obtain ⟨rfl, ⟨A, n, c, bs, hb1, hn, his, hl, hA, hFr⟩, hb0, bel⟩ := hE
  obtain ⟨c1, c2, f1, f2⟩ := hb1.two
  obtain ⟨c3, c4, f3, f4⟩ := hb0.two
  have z1 := hb1.lt
  have z0 := hb0.lt
  have HR := Lib.hid hR; have HN := Lib.hid hn; have HI := Lib.hid his; have HL := Lib.hid hl; have HA := Lib.hid hA; have HFR := Lib.hid hFr
  clear hR hn his hl hA hFr
  simp only [restD, codeD, Try.f28, findLabel, Nat.reduceBEq, Bool.false_eq_true, ↓reduceIte, beq_self_eq_true]
  go_wp2
  refine HR.out _ _ (bodyPost_ret (v := .tuple #[.agg #[.int .i64 R.2.length, .slice A n c], .int .i64 R.1]) (by simp [results, Try.results28, go_sem, c3, c4]) rfl ⟨A, n, c, bs, rfl, HN.out, HI.out, HL.out, ?_, (bel.setCell (p := ⟨w.heap.size, 0, none⟩) (Nat.le_refl _) _).setCell (p := ⟨w.heap.size, 1, none⟩) (Nat.le_refl _) _, fun a ha hne => Nat.le_trans (by omega) (HFR.out a ha hne)⟩)
  have h1 := (HA.out.set_low HFR.out (p := ⟨w.heap.size, 0, none⟩) (by simp) (.int .i64 R.2.length)).set_low HFR.out (p := ⟨w.heap.size, 1, none⟩) (by simp) (.slice A n c)
  simpa using h1
end Go.Proofs.Ytdmedhklcicpeaa

namespace Go.Proofs.Ytdmedhklcicpeaa
open Go.RowKit

theorem Bools.part {n₀ : Nat} {W : World} {b off : Nat} {l : List Bool} (h : Bools n₀ W (some ⟨b, off, none⟩) l) (f k : Nat) : Bools n₀ W (some ⟨b, off + f, none⟩) ((l.drop f).take k) := fun hne => by
  have hlen : 0 < ((l.drop f).take k).length := List.length_pos_iff.2 hne
  rw [List.length_take, List.length_drop] at hlen
  obtain ⟨b', off', e, hlt, hc⟩ := h (by rintro rfl; simp at hlen)
  injection e with e; injection e with e1 e2; subst e1; subst e2
  refine ⟨b, off + f, rfl, hlt, fun j hj => ?_⟩
  rw [List.length_take, List.length_drop] at hj
  have := hc (f + j) (by omega)
  rw [List.getElem?_take_of_lt (by omega), List.getElem?_drop, show off + f + j = off + (f + j) by omega]
  exact this

set_option maxRecDepth 100000 in
set_option maxHeartbeats 4000000 in
theorem decL2 (w : World) (D : List Sp) (n : Nat) (x0 x8 : Value) (at_ q : Int) (a : Act) (W : World) (Q : Exit → Act → World → Prop)
    (hn : n = numOf (bitsS (D.take 6) q)) (hn2 : n < 4096) (hK : 6 + (n + 1) / 2 ≤ D.length)
    (hR : ∀ a' w', bodyPost Try.prog Try.f28 (Res w (decD D q)) .ret a' w' → Q .ret a' w')
    (h0 : ∀ x0' x8' x9' x11' a' w', FrD x0' x8' x9' x11' at_ q w.heap.size a' → EndD w (decD D q) x11' w' → Q (.goto 0) a' w')
    (hF : FrD x0 x8 (.int .i64 n) (.int .i64 0) at_ q w.heap.size a) (hM : MidD w D q (6 + (n + 1) / 2) x8 W) : (restD 2).wp Try.prog Q a W := by
  obtain ⟨u12, u13, u14, u15, u16, u17, u18, u19, u20, u21, u22, u23, u24, u25, u26, u27, u28, u29, u30, u31, u32, u33, u34, u35, u36, u37, u38, u39, u40, u41, u42, u43, u44, u45, u46, u47, u48, u49, u50, u51, u52, u53, u54, u55, u56, u57, u58, u59, u60, u61, u62, u63, u64, u65, u66, u67, u68, u69, u70, u71, u72, u73, u74, u75, u76, u77, u78, rfl⟩ := hF
  have hfin := dec_fin q hn hK hM.may
  have hPl : (bitsS (D.take (6 + (n + 1) / 2)) q).length = 2 * (6 + (n + 1) / 2) := by rw [bitsS_length, List.length_take]; omega
  have hend := hM.end_
  obtain ⟨hout, hbox, bel, hrow, hmay⟩ := hM
  generalize bitsS (D.take (6 + (n + 1) / 2)) q = P at *
  obtain ⟨m, hm⟩ : ∃ m, m = 2 * (6 + (n + 1) / 2) := ⟨_, rfl⟩
  rw [← hm] at hrow hPl
  obtain ⟨RA, rc, hv, hBo⟩ := bools_of_own hrow
  rw [hPl] at hv
  subst hv
  have hrcap := own_cap hrow
  have hm12 : 12 + n ≤ m ∧ m ≤ 13 + n := by omega
  obtain ⟨g, off, hRA, hgl, _⟩ := hBo.at_ (k := 0) (by omega)
  subst hRA
  have HR := Lib.hid hR; have H0 := Lib.hid h0; have HFIN := Lib.hid hfin; have HPL := Lib.hid hPl; have HROW := Lib.hid hrow; have HBO := Lib.hid hBo; have HEND := Lib.hid hend
  clear hR h0 hfin hPl hrow hBo hmay hn hend hm
  have hw1 : IntKind.i64.wrap (12 + (n : Int)) = 12 + (n : Int) := IntWalk.i64_in _ (by omega)
  have hpl : ((P.drop 12).take n).length = n := by rw [List.length_take, List.length_drop, HPL.out]; omega
  have hbp : Bools W.heap.size W (some ⟨g, off + 12, none⟩) ((P.drop 12).take n) := HBO.out.part 12 n
  obtain ⟨L, hL⟩ : ∃ L, L = (P.drop 12).take n := ⟨_, rfl⟩
  rw [← hL] at hpl hbp
  have hfin2 : ¬ P[12 + n]?.getD false = true → decD D q = (0, L) := fun h => by rw [HFIN.out, if_neg h, hL]
  have hof := fun A' c' (h : Bools W.heap.size W A' L) => of_any A' n c' L W hpl.symm (by unfold maxLen; omega) h
  rw [of_some (by omega)] at hof
  have HOF := Lib.hid hof; have HPP := Lib.hid hpl; have HBP := Lib.hid hbp; have HFIN2 := Lib.hid hfin2
  clear hof hpl hbp hfin2 hL
  simp only [restD, codeD, Try.f28, findLabel, Nat.reduceBEq, Bool.false_eq_true, ↓reduceIte, beq_self_eq_true]
  by_cases hgt : 12 + n < m
  · have hd0 : decide (12 + (n : Int) < (m : Int)) = true := by simp; omega
    have hd1 : decide (12 + n < m) = true := by simpa using hgt
    obtain ⟨g', off', he, _, hc0⟩ := HBO.out.at_ (k := 12 + n) (by rw [HPL.out]; exact hgt)
    injection he with he; injection he with he1 he2; subst he1; subst he2
    by_cases hb : P[12 + n]?.getD false = true
    · rw [hb] at hc0
      go_wp2
      go_step3
      refine H0.out _ _ _ _ _ _ ⟨_, _, _, _, _, _, _, _, _, _, _, _, _, _, _, _, _, _, _, _, _, _, _, _, _, _, _, _, _, _, _, _, _, _, _, _, _, _, _, _, _, _, _, _, _, _, _, _, _, _, _, _, _, _, _, _, _, _, _, _, _, _, _, _, _, _, _, rfl⟩ ?_
      rw [HFIN.out, if_pos hb]
      exact HEND.out 33
    · have hbf : P[12 + n]?.getD false = false := by simpa using hb
      rw [hbf] at hc0
      go_wp2_with fail
      refine (HOF.out _ _ HBP.out).mono ?_
      rintro e w1 ⟨A1, n1, c1, bs1, rfl, hn1, his1, hl1, hA1, hB1, hF1⟩
      dsimp only at his1 hl1
      have ho1 := hout.on hB1
      have hb1 := hbox.on hB1
      obtain ⟨d1, d2, e1, e2⟩ := ho1.two
      obtain ⟨d3, d4, e3, e4⟩ := hb1.two
      have z1 := ho1.lt
      have z0 := hb1.lt
      have bel1 := bel.trans (hB1.mono bel.size)
      have hne : w.heap.size ≠ w.heap.size + 1 := by omega
      have HN1 := Lib.hid hn1; have HI1 := Lib.hid his1; have HL1 := Lib.hid hl1; have HA1 := Lib.hid hA1; have HF1 := Lib.hid hF1
      clear hn1 his1 hl1 hA1 hF1
      dsimp only
      go_wp2
      go_step3
      go_wp2
      refine HR.out _ _ (bodyPost_ret (v := .tuple #[.agg #[.int .i64 L.length, .slice A1 n1 c1], .int .i64 0]) (by simp [results, Try.results28, go_sem, d3, d4]) rfl ?_)
      rw [HFIN2.out (by first | exact hb | (rw [hbf]; decide))]
      refine ⟨A1, n1, c1, bs1, rfl, HN1.out, HI1.out, HL1.out, ?_, (((bel1.setCell (p := ⟨w.heap.size + 1, 0, none⟩) (by simp) _).setCell (p := ⟨w.heap.size + 1, 1, none⟩) (by simp) _).setCell (p := ⟨w.heap.size, 0, none⟩) (Nat.le_refl _) _).setCell (p := ⟨w.heap.size, 1, none⟩) (Nat.le_refl _) _, fun a ha hne => Nat.le_trans bel.size (HF1.out a ha hne)⟩
      have hz2 : w.heap.size + 1 < W.heap.size := hout.lt
      have hz3 : w.heap.size < W.heap.size := hbox.lt
      have h1 := (((HA1.out.set_low HF1.out (p := ⟨w.heap.size + 1, 0, none⟩) hz2 (.int .i64 L.length)).set_low HF1.out (p := ⟨w.heap.size + 1, 1, none⟩) hz2 (.slice A1 n1 c1)).set_low HF1.out (p := ⟨w.heap.size, 0, none⟩) hz3 (.int .i64 L.length)).set_low HF1.out (p := ⟨w.heap.size, 1, none⟩) hz3 (.slice A1 n1 c1)
      simpa using h1
  · have hd0 : decide (12 + (n : Int) < (m : Int)) = false := by simp; omega
    have hd1 : decide (12 + n < m) = false := by simpa using hgt
    have hbf : P[12 + n]?.getD false = false := by rw [List.getElem?_eq_none (by rw [HPL.out]; omega)]; rfl
    by_cases hrc : 12 < rc
    · have hrc2 : decide (12 < rc) = true := by simpa using hrc
      go_wp2_with fail
      refine (HOF.out _ _ HBP.out).mono ?_
      rintro e w1 ⟨A1, n1, c1, bs1, rfl, hn1, his1, hl1, hA1, hB1, hF1⟩
      dsimp only at his1 hl1
      have ho1 := hout.on hB1
      have hb1 := hbox.on hB1
      obtain ⟨d1, d2, e1, e2⟩ := ho1.two
      obtain ⟨d3, d4, e3, e4⟩ := hb1.two
      have z1 := ho1.lt
      have z0 := hb1.lt
      have bel1 := bel.trans (hB1.mono bel.size)
      have hne : w.heap.size ≠ w.heap.size + 1 := by omega
      have HN1 := Lib.hid hn1; have HI1 := Lib.hid his1; have HL1 := Lib.hid hl1; have HA1 := Lib.hid hA1; have HF1 := Lib.hid hF1
      clear hn1 his1 hl1 hA1 hF1
      dsimp only
      go_wp2
      go_step3
      go_wp2
      refine HR.out _ _ (bodyPost_ret (v := .tuple #[.agg #[.int .i64 L.length, .slice A1 n1 c1], .int .i64 0]) (by simp [results, Try.results28, go_sem, d3, d4]) rfl ?_)
      rw [HFIN2.out (by first | fail | (rw [hbf]; decide))]
      refine ⟨A1, n1, c1, bs1, rfl, HN1.out, HI1.out, HL1.out, ?_, (((bel1.setCell (p := ⟨w.heap.size + 1, 0, none⟩) (by simp) _).setCell (p := ⟨w.heap.size + 1, 1, none⟩) (by simp) _).setCell (p := ⟨w.heap.size, 0, none⟩) (Nat.le_refl _) _).setCell (p := ⟨w.heap.size, 1, none⟩) (Nat.le_refl _) _, fun a ha hne => Nat.le_trans bel.size (HF1.out a ha hne)⟩
      have hz2 : w.heap.size + 1 < W.heap.size := hout.lt
      have hz3 : w.heap.size < W.heap.size := hbox.lt
      have h1 := (((HA1.out.set_low HF1.out (p := ⟨w.heap.size + 1, 0, none⟩) hz2 (.int .i64 L.length)).set_low HF1.out (p := ⟨w.heap.size + 1, 1, none⟩) hz2 (.slice A1 n1 c1)).set_low HF1.out (p := ⟨w.heap.size, 0, none⟩) hz3 (.int .i64 L.length)).set_low HF1.out (p := ⟨w.heap.size, 1, none⟩) hz3 (.slice A1 n1 c1)
      simpa using h1
    · have hrc2 : decide (12 < rc) = false := by simpa using hrc
      have hLn : L = [] := List.eq_nil_of_length_eq_zero (by rw [HPP.out]; omega)
      have HLN := Lib.hid hLn; clear hLn
      go_wp2_with fail
      refine (HOF.out _ _ (fun h => absurd HLN.out h)).mono ?_
      rintro e w1 ⟨A1, n1, c1, bs1, rfl, hn1, his1, hl1, hA1, hB1, hF1⟩
      dsimp only at his1 hl1
      have ho1 := hout.on hB1
      have hb1 := hbox.on hB1
      obtain ⟨d1, d2, e1, e2⟩ := ho1.two
      obtain ⟨d3, d4, e3, e4⟩ := hb1.two
      have z1 := ho1.lt
      have z0 := hb1.lt
      have bel1 := bel.trans (hB1.mono bel.size)
      have hne : w.heap.size ≠ w.heap.size + 1 := by omega
      have HN1 := Lib.hid hn1; have HI1 := Lib.hid his1; have HL1 := Lib.hid hl1; have HA1 := Lib.hid hA1; have HF1 := Lib.hid hF1
      clear hn1 his1 hl1 hA1 hF1
      dsimp only
      go_wp2
      go_step3
      go_wp2
      refine HR.out _ _ (bodyPost_ret (v := .tuple #[.agg #[.int .i64 L.length, .slice A1 n1 c1], .int .i64 0]) (by simp [results, Try.results28, go_sem, d3, d4]) rfl ?_)
      rw [HFIN2.out (by first | fail | (rw [hbf]; decide))]
      refine ⟨A1, n1, c1, bs1, rfl, HN1.out, HI1.out, HL1.out, ?_, (((bel1.setCell (p := ⟨w.heap.size + 1, 0, none⟩) (by simp) _).setCell (p := ⟨w.heap.size + 1, 1, none⟩) (by simp) _).setCell (p := ⟨w.heap.size, 0, none⟩) (Nat.le_refl _) _).setCell (p := ⟨w.heap.size, 1, none⟩) (Nat.le_refl _) _, fun a ha hne => Nat.le_trans bel.size (HF1.out a ha hne)⟩
      have hz2 : w.heap.size + 1 < W.heap.size := hout.lt
      have hz3 : w.heap.size < W.heap.size := hbox.lt
      have h1 := (((HA1.out.set_low HF1.out (p := ⟨w.heap.size + 1, 0, none⟩) hz2 (.int .i64 L.length)).set_low HF1.out (p := ⟨w.heap.size + 1, 1, none⟩) hz2 (.slice A1 n1 c1)).set_low HF1.out (p := ⟨w.heap.size, 0, none⟩) hz3 (.int .i64 L.length)).set_low HF1.out (p := ⟨w.heap.size, 1, none⟩) hz3 (.slice A1 n1 c1)
      simpa using h1
end Go.Proofs.Ytdmedhklcicpeaa

namespace Go.Proofs.Ytdmedhklcicpeaa
open Go.RowKit

theorem MidD.more {w : World} {D : List Sp} {q : Int} {k : Nat} {x8 v' : Value} {W W' : World} (h : MidD w D q k x8 W) (hk : k < D.length) (hm : mayS (D[k]?.getD (0, 0)) = true) (hB : Below (w.heap.size + 2) W W')
    (ho : W'.ownsRow (w.heap.size + 2) 4 1 v' (2 * (k + 1)) ((bitsS (D.take k) q ++ bits1 q (D[k]?.getD (0, 0))).map Value.bool)) : MidD w D q (k + 1) v' W' :=
  ⟨h.out.below hB (by omega), h.box.below hB (by omega), h.bel.trans (hB.mono (by omega)), by rw [bits_snoc D q k hk]; exact ho, by rw [all_take_may D k hk, h.may, hm]; rfl⟩
theorem MidD.err {w : World} {D : List Sp} {q : Int} {k : Nat} {x8 : Value} {W W' : World} (h : MidD w D q k x8 W) (hB : Below (w.heap.size + 2) W W') (e : Int) : EndD w (e, []) (.int .i64 e) W' :=
  ⟨rfl, ⟨none, 0, 0, [], h.out.below hB (by omega), rfl, isBits_nil, by simp, fun h => absurd rfl h, fun _ h => by cases h⟩, h.box.below hB (by omega), h.bel.trans (hB.mono (by omega))⟩

set_option maxRecDepth 100000 in
set_option maxHeartbeats 4000000 in
theorem decL3 (w : World) (D : List Sp) (n k : Nat) (SA : Option Addr) (sn sc : Nat) (x8 : Value) (at_ q : Int) (a : Act) (W : World) (Q : Exit → Act → World → Prop)
    (hn : n = numOf (bitsS (D.take 6) q)) (hn2 : n < 4096) (hK : 6 + (n + 1) / 2 ≤ D.length) (hk0 : 6 ≤ k) (hk1 : k ≤ 6 + (n + 1) / 2) (hsn : sn = D.length) (hsm : sn ≤ 65536) (hS : Smps w.heap.size w SA D)
    (h0 : ∀ x0' x8' x9' x11' a' w', FrD x0' x8' x9' x11' at_ q w.heap.size a' → EndD w (decD D q) x11' w' → Q (.goto 0) a' w')
    (h2 : ∀ x0' x8' a' w', FrD x0' x8' (.int .i64 n) (.int .i64 0) at_ q w.heap.size a' → MidD w D q (6 + (n + 1) / 2) x8' w' → Q (.goto 2) a' w')
    (h3 : ∀ x8' a' w', FrD (.slice SA sn sc) x8' (.int .i64 n) (.int .i64 0) at_ q w.heap.size a' → MidD w D q (k + 1) x8' w' → k + 1 ≤ 6 + (n + 1) / 2 → Q (.goto 3) a' w')
    (hF : FrD (.slice SA sn sc) x8 (.int .i64 n) (.int .i64 0) at_ q w.heap.size a) (hM : MidD w D q k x8 W) : (restD 3).wp Try.prog Q a W := by
  obtain ⟨u12, u13, u14, u15, u16, u17, u18, u19, u20, u21, u22, u23, u24, u25, u26, u27, u28, u29, u30, u31, u32, u33, u34, u35, u36, u37, u38, u39, u40, u41, u42, u43, u44, u45, u46, u47, u48, u49, u50, u51, u52, u53, u54, u55, u56, u57, u58, u59, u60, u61, u62, u63, u64, u65, u66, u67, u68, u69, u70, u71, u72, u73, u74, u75, u76, u77, u78, rfl⟩ := hF
  have hPl : (bitsS (D.take k) q).length = 2 * k := by rw [bitsS_length, List.length_take]; omega
  obtain ⟨RA, rc, hv, _⟩ := bools_of_own hM.row
  rw [hPl] at hv
  subst hv
  have hw1 : IntKind.i64.wrap (12 + (n : Int)) = 12 + (n : Int) := IntWalk.i64_in _ (by omega)
  have H0 := Lib.hid h0; have H2 := Lib.hid h2; have H3 := Lib.hid h3; have HN := Lib.hid hn; have HM := Lib.hid hM; have HSN := Lib.hid hsn; have HS := Lib.hid hS; have HK := Lib.hid hK
  clear h0 h2 h3 hn hM hsn hS hPl hK
  obtain ⟨m, hm⟩ : ∃ m, m = 2 * k := ⟨_, rfl⟩
  simp only [restD, codeD, Try.f28, findLabel, Nat.reduceBEq, Bool.false_eq_true, ↓reduceIte, beq_self_eq_true]
  by_cases hge : 12 + n ≤ m
  · have hd0 : decide (12 + (n : Int) ≤ (m : Int)) = true := by simp; omega
    have hd1 : decide (12 + n ≤ m) = true := by simpa using hge
    have hkk : 6 + (n + 1) / 2 = k := by omega
    have HKK := Lib.hid hkk; have HMM := Lib.hid hm
    rw [← hm]
    clear hkk hm
    go_wp2
    go_step3
    refine H2.out _ _ _ _ ⟨_, _, _, _, _, _, _, _, _, _, _, _, _, _, _, _, _, _, _, _, _, _, _, _, _, _, _, _, _, _, _, _, _, _, _, _, _, _, _, _, _, _, _, _, _, _, _, _, _, _, _, _, _, _, _, _, _, _, _, _, _, _, _, _, _, _, _, rfl⟩ ?_
    rw [HKK.out, HMM.out]
    exact HM.out
  · have hd0 : decide (12 + (n : Int) ≤ (m : Int)) = false := by simp; omega
    have hd1 : decide (12 + n ≤ m) = false := by simpa using hge
    have hks : k < sn := by have := HSN.out; have := HK.out; omega
    have hrd := readNext_any (w.heap.size + 2) (.slice RA (2 * k) rc) k (bitsS (D.take k) q) SA sn sc D q W HM.out.row (by have := HM.out.out.lt; omega) HSN.out hsm ((HS.out.below HM.out.bel).mono (by omega)) hks
    rw [← hm] at hrd
    have HRD := Lib.hid hrd; have HMM := Lib.hid hm
    rw [← hm]
    clear hrd hm
    go_wp2_with fail
    refine HRD.out.mono ?_
    rintro e w1 ⟨hB1, hb1, hif⟩
    by_cases hms : mayS (D[k]?.getD (0, 0)) = true
    · rw [if_pos hms] at hif
      obtain ⟨v', rfl, hown⟩ := hif
      have hmid := HM.out.more (by have := HSN.out; omega) hms hB1 hown
      have HMID := Lib.hid hmid
      clear hown hmid
      go_wp2
      go_step3
      exact H3.out _ _ _ ⟨_, _, _, _, _, _, _, _, _, _, _, _, _, _, _, _, _, _, _, _, _, _, _, _, _, _, _, _, _, _, _, _, _, _, _, _, _, _, _, _, _, _, _, _, _, _, _, _, _, _, _, _, _, _, _, _, _, _, _, _, _, _, _, _, _, _, _, rfl⟩ HMID.out (by have := HMM.out; omega)
    · rw [if_neg hms] at hif
      subst hif
      have hmf : mayS (D[k]?.getD (0, 0)) = false := by simpa using hms
      have hend := HM.out.err hB1 31
      rw [← dec_e3 q (by
        have hmy := HM.out.may
        rw [List.all_eq_true] at hmy ⊢
        exact fun s hs => hmy s (by
          have e : D.take 6 = (D.take k).take 6 := by rw [List.take_take, Nat.min_eq_left (by omega)]
          rw [e] at hs; exact List.mem_of_mem_take hs)) (by rw [← HN.out]; exact HK.out) hk0 (by rw [← HN.out]; have := HMM.out; omega) hmf] at hend
      have HEND := Lib.hid hend
      clear hend
      go_wp2
      go_step3
      exact H0.out _ _ _ _ _ _ ⟨_, _, _, _, _, _, _, _, _, _, _, _, _, _, _, _, _, _, _, _, _, _, _, _, _, _, _, _, _, _, _, _, _, _, _, _, _, _, _, _, _, _, _, _, _, _, _, _, _, _, _, _, _, _, _, _, _, _, _, _, _, _, _, _, _, _, _, rfl⟩ HEND.out
end Go.Proofs.Ytdmedhklcicpeaa

namespace Go.Proofs.Ytdmedhklcicpeaa
open Go.RowKit

set_option maxRecDepth 100000 in
set_option maxHeartbeats 4000000 in
theorem decL1 (w : World) (D : List Sp) (k : Nat) (SA : Option Addr) (sn sc : Nat) (x8 : Value) (at_ q : Int) (a : Act) (W : World) (Q : Exit → Act → World → Prop)
    (hk : k < 6) (hD : 6 ≤ D.length) (hsn : sn = D.length) (hsm : sn ≤ 65536) (hS : Smps w.heap.size w SA D)
    (h0 : ∀ x0' x8' x9' x11' a' w', FrD x0' x8' x9' x11' at_ q w.heap.size a' → EndD w (decD D q) x11' w' → Q (.goto 0) a' w')
    (h1 : ∀ x8' a' w', FrD (.slice SA sn sc) x8' (.int .i64 0) (.int .i64 0) at_ q w.heap.size a' → MidD w D q (k + 1) x8' w' → k + 1 < 6 → Q (.goto 1) a' w')
    (h2 : ∀ n : Nat, n = numOf (bitsS (D.take 6) q) → 6 + (n + 1) / 2 ≤ D.length → ∀ x0' x8' a' w', FrD x0' x8' (.int .i64 n) (.int .i64 0) at_ q w.heap.size a' → MidD w D q (6 + (n + 1) / 2) x8' w' → Q (.goto 2) a' w')
    (h3 : ∀ n : Nat, n = numOf (bitsS (D.take 6) q) → 6 + (n + 1) / 2 ≤ D.length → ∀ k' x8' a' w', FrD (.slice SA sn sc) x8' (.int .i64 n) (.int .i64 0) at_ q w.heap.size a' → MidD w D q k' x8' w' → 6 ≤ k' → k' ≤ 6 + (n + 1) / 2 → Q (.goto 3) a' w')
    (hF : FrD (.slice SA sn sc) x8 (.int .i64 0) (.int .i64 0) at_ q w.heap.size a) (hM : MidD w D q k x8 W) : (restD 1).wp Try.prog Q a W := by
  obtain ⟨u12, u13, u14, u15, u16, u17, u18, u19, u20, u21, u22, u23, u24, u25, u26, u27, u28, u29, u30, u31, u32, u33, u34, u35, u36, u37, u38, u39, u40, u41, u42, u43, u44, u45, u46, u47, u48, u49, u50, u51, u52, u53, u54, u55, u56, u57, u58, u59, u60, u61, u62, u63, u64, u65, u66, u67, u68, u69, u70, u71, u72, u73, u74, u75, u76, u77, u78, rfl⟩ := hF
  have hPl : (bitsS (D.take k) q).length = 2 * k := by rw [bitsS_length, List.length_take]; omega
  obtain ⟨RA, rc, hv, _⟩ := bools_of_own hM.row
  rw [hPl] at hv
  subst hv
  have hrd := readNext_any (w.heap.size + 2) (.slice RA (2 * k) rc) k (bitsS (D.take k) q) SA sn sc D q W hM.row (by have := hM.out.lt; omega) hsn hsm ((hS.below hM.bel).mono (by omega)) (by omega)
  have H0 := Lib.hid h0; have H1 := Lib.hid h1; have H2 := Lib.hid h2; have H3 := Lib.hid h3; have HM := Lib.hid hM; have HSN := Lib.hid hsn; have HS := Lib.hid hS; have HRD := Lib.hid hrd
  clear h0 h1 h2 h3 hM hsn hS hPl hrd
  simp only [restD, codeD, Try.f28, findLabel, ↓reduceIte, beq_self_eq_true]
  go_wp2_with fail
  refine HRD.out.mono ?_
  rintro e w1 ⟨hB1, hb1, hif⟩
  by_cases hms : mayS (D[k]?.getD (0, 0)) = true
  · rw [if_pos hms] at hif
    obtain ⟨v', rfl, hown⟩ := hif
    have hmid := HM.out.more (by omega) hms hB1 hown
    obtain ⟨g, cap, rfl, hg, hgl⟩ := hown.form (by omega)
    have hcap := own_cap hown
    have HMID := Lib.hid hmid; have HOWN := Lib.hid hown
    clear hown hmid
    obtain ⟨m, hm⟩ : ∃ m, m = 2 * (k + 1) := ⟨_, rfl⟩
    have HMM := Lib.hid hm
    rw [← hm]
    rw [← hm] at hcap
    by_cases hlt : m < 12
    · have hd0 : decide ((m : Int) < 12) = true := by simp; omega
      have hd1 : decide (m < 12) = true := by simpa using hlt
      clear hm
      go_wp2
      go_step3
      refine H1.out _ _ _ ⟨_, _, _, _, _, _, _, _, _, _, _, _, _, _, _, _, _, _, _, _, _, _, _, _, _, _, _, _, _, _, _, _, _, _, _, _, _, _, _, _, _, _, _, _, _, _, _, _, _, _, _, _, _, _, _, _, _, _, _, _, _, _, _, _, _, _, _, rfl⟩ ?_ (by have := HMM.out; omega)
      rw [HMM.out]
      exact HMID.out
    · have hm12 : m = 12 := by omega
      have hk5 : k = 5 := by omega
      subst hk5
      subst hm12
      clear hlt hm
      have hmid := HMID.out
      have hBo := (bools_of_own hmid.row)
      obtain ⟨RA', rc', hv', hBo⟩ := hBo
      injection hv' with hv1 hv2 hv3
      subst hv1
      have hl12 : (bitsS (D.take 6) q).length = 12 := by rw [bitsS_length, List.length_take]; omega
      obtain ⟨n, hn⟩ : ∃ n, n = numOf (bitsS (D.take 6) q) := ⟨_, rfl⟩
      have hn2 : n < 4096 := by rw [hn]; have := numOf_lt (bitsS (D.take 6) q); rw [hl12] at this; omega
      have hlo := lengthOf_any (some ⟨g, 0, none⟩) cap (bitsS (D.take 6) q) w1 hl12 (by omega) hBo
      rw [← hn] at hlo
      have hpa := fun w2 => payLen_any n w2 (by omega)
      obtain ⟨p, hp⟩ : ∃ p, p = (n + 1) / 2 := ⟨_, rfl⟩
      rw [← hp] at hpa
      have hw6 : IntKind.i64.wrap (6 + (p : Int)) = 6 + (p : Int) := IntWalk.i64_in _ (by omega)
      have HLO := Lib.hid hlo; have HPA := Lib.hid hpa; have HNN := Lib.hid hn; have HP := Lib.hid hp
      clear hlo hpa hn hl12 hBo hmid hp hv2 hv3
      go_wp2_with fail
      refine HLO.out.mono ?_
      rintro e w2 ⟨rfl, rfl⟩
      go_wp2_with fail
      refine (HPA.out _).mono ?_
      rintro e w2 ⟨rfl, rfl⟩
      by_cases hsh : sn < 6 + p
      · have hd0 : decide ((sn : Int) < 6 + (p : Int)) = true := by simp; omega
        have hd1 : decide (sn < 6 + p) = true := by simpa using hsh
        have hend := HM.out.err hB1 32
        rw [← dec_e2 q HMID.out.may (by rw [← HNN.out, ← HP.out, ← HSN.out]; exact hsh)] at hend
        have HEND := Lib.hid hend
        clear hend
        go_wp2
        go_step3
        exact H0.out _ _ _ _ _ _ ⟨_, _, _, _, _, _, _, _, _, _, _, _, _, _, _, _, _, _, _, _, _, _, _, _, _, _, _, _, _, _, _, _, _, _, _, _, _, _, _, _, _, _, _, _, _, _, _, _, _, _, _, _, _, _, _, _, _, _, _, _, _, _, _, _, _, _, _, rfl⟩ HEND.out
      · have hd0 : decide ((sn : Int) < 6 + (p : Int)) = false := by simp; omega
        have hd1 : decide (sn < 6 + p) = false := by simpa using hsh
        go_wp2
        go_step3
        rename_i K1 hK1
        refine hK1 _ _ ?_
        change (restD 3).wp Try.prog Q _ w1
        have hKD : 6 + (n + 1) / 2 ≤ D.length := by have := HP.out; have := HSN.out; omega
        refine decL3 w D n 6 SA sn sc _ at_ q _ w1 Q HNN.out hn2 hKD (Nat.le_refl _) (by omega) HSN.out hsm HS.out H0.out (H2.out n HNN.out hKD) (fun x8' a' w' f m hle => H3.out n HNN.out hKD _ _ _ _ f m (by omega) hle) ⟨_, _, _, _, _, _, _, _, _, _, _, _, _, _, _, _, _, _, _, _, _, _, _, _, _, _, _, _, _, _, _, _, _, _, _, _, _, _, _, _, _, _, _, _, _, _, _, _, _, _, _, _, _, _, _, _, _, _, _, _, _, _, _, _, _, _, _, rfl⟩ HMID.out
  · rw [if_neg hms] at hif
    subst hif
    have hmf : mayS (D[k]?.getD (0, 0)) = false := by simpa using hms
    have hend := HM.out.err hB1 31
    rw [← dec_e1 q hk (by omega) hmf] at hend
    have HEND := Lib.hid hend
    clear hend
    go_wp2
    go_step3
    exact H0.out _ _ _ _ _ _ ⟨_, _, _, _, _, _, _, _, _, _, _, _, _, _, _, _, _, _, _, _, _, _, _, _, _, _, _, _, _, _, _, _, _, _, _, _, _, _, _, _, _, _, _, _, _, _, _, _, _, _, _, _, _, _, _, _, _, _, _, _, _, _, _, _, _, _, _, rfl⟩ HEND.out

/-- What holds at Decode's labels, with a measure. -/
def atLabel (w : World) (D : List Sp) (SA : Option Addr) (sn sc : Nat) (at_ q : Int) (l m : Nat) (a : Act) (W : World) : Prop :=
  (l = 0 ∧ m = 0 ∧ ∃ x0 x8 x9 x11, FrD x0 x8 x9 x11 at_ q w.heap.size a ∧ EndD w (decD D q) x11 W) ∨
  (l = 2 ∧ m = 1 ∧ ∃ n : Nat, n = numOf (bitsS (D.take 6) q) ∧ 6 + (n + 1) / 2 ≤ D.length ∧ ∃ x0 x8, FrD x0 x8 (.int .i64 n) (.int .i64 0) at_ q w.heap.size a ∧ MidD w D q (6 + (n + 1) / 2) x8 W) ∨
  (l = 3 ∧ ∃ n : Nat, n = numOf (bitsS (D.take 6) q) ∧ 6 + (n + 1) / 2 ≤ D.length ∧ ∃ k x8, m = 2 + (10000 - k) ∧ 6 ≤ k ∧ k ≤ 6 + (n + 1) / 2 ∧ FrD (.slice SA sn sc) x8 (.int .i64 n) (.int .i64 0) at_ q w.heap.size a ∧ MidD w D q k x8 W) ∨
  (l = 1 ∧ ∃ k x8, m = 20000 + (6 - k) ∧ k < 6 ∧ FrD (.slice SA sn sc) x8 (.int .i64 0) (.int .i64 0) at_ q w.heap.size a ∧ MidD w D q k x8 W)

theorem len_small (D : List Sp) (q : Int) : numOf (bitsS (D.take 6) q) < 4096 := by
  have h1 := numOf_lt (bitsS (D.take 6) q)
  have h2 : (2 : Nat) ^ (bitsS (D.take 6) q).length ≤ 2 ^ 12 := Nat.pow_le_pow_right (by decide) (by rw [bitsS_length, List.length_take]; omega)
  omega

theorem dec_pass (w : World) (D : List Sp) (SA : Option Addr) (sn sc : Nat) (at_ q : Int) (Q : Exit → Act → World → Prop) (hD : 6 ≤ D.length) (hsn : sn = D.length) (hsm : sn ≤ 65536) (hS : Smps w.heap.size w SA D)
    (hR : ∀ a' w', bodyPost Try.prog Try.f28 (Res w (decD D q)) .ret a' w' → Q .ret a' w') (l m : Nat) (a : Act) (W : World) (hJ : atLabel w D SA sn sc at_ q l m a W) :
    ∃ rest, findLabel codeD l = some rest ∧ rest.wp Try.prog (jumpsTo m (atLabel w D SA sn sc at_ q) Q) a W := by
  rcases hJ with ⟨rfl, rfl, x0, x8, x9, x11, hF, hE⟩ | ⟨rfl, rfl, n, hn, hK, x0, x8, hF, hM⟩ | ⟨rfl, n, hn, hK, k, x8, rfl, hk0, hk1, hF, hM⟩ | ⟨rfl, k, x8, rfl, hk, hF, hM⟩
  · exact ⟨_, find_restD 0 (by decide), wp_seq (wp_skip (decL0 w (decD D q) x0 x8 x9 x11 at_ q a W _ hR hF hE))⟩
  · refine ⟨_, find_restD 2 (by decide), wp_seq (wp_skip (decL2 w D n x0 x8 at_ q a W _ hn (by rw [hn]; exact len_small D q) hK hR ?_ hF hM))⟩
    exact fun x0' x8' x9' x11' a' w' f e => ⟨0, by omega, .inl ⟨rfl, rfl, _, _, _, _, f, e⟩⟩
  · refine ⟨_, find_restD 3 (by decide), wp_seq (wp_skip (decL3 w D n k SA sn sc x8 at_ q a W _ hn (by rw [hn]; exact len_small D q) hK hk0 hk1 hsn hsm hS ?_ ?_ ?_ hF hM))⟩
    · exact fun x0' x8' x9' x11' a' w' f e => ⟨0, by omega, .inl ⟨rfl, rfl, _, _, _, _, f, e⟩⟩
    · exact fun x0' x8' a' w' f e => ⟨1, by omega, .inr (.inl ⟨rfl, rfl, n, hn, hK, _, _, f, e⟩)⟩
    · exact fun x8' a' w' f e hle => ⟨2 + (10000 - (k + 1)), by have := len_small D q; omega, .inr (.inr (.inl ⟨rfl, n, hn, hK, k + 1, _, rfl, by omega, hle, f, e⟩))⟩
  · refine ⟨_, find_restD 1 (by decide), wp_seq (wp_skip (decL1 w D k SA sn sc x8 at_ q a W _ hk hD hsn hsm hS ?_ ?_ ?_ ?_ hF hM))⟩
    · exact fun x0' x8' x9' x11' a' w' f e => ⟨0, by omega, .inl ⟨rfl, rfl, _, _, _, _, f, e⟩⟩
    · exact fun x8' a' w' f e hlt => ⟨20000 + (6 - (k + 1)), by omega, .inr (.inr (.inr ⟨rfl, k + 1, _, rfl, hlt, f, e⟩))⟩
    · exact fun n hn hK x0' x8' a' w' f e => ⟨1, by omega, .inr (.inl ⟨rfl, rfl, n, hn, hK, _, _, f, e⟩)⟩
    · exact fun n hn hK k' x8' a' w' f e h6 hle => ⟨2 + (10000 - k'), by omega, .inr (.inr (.inl ⟨rfl, n, hn, hK, k', _, rfl, h6, hle, f, e⟩))⟩
end Go.Proofs.Ytdmedhklcicpeaa

namespace Go.Proofs.Ytdmedhklcicpeaa
open Go.RowKit

theorem dec_pass0 (w : World) (R : Int × List Bool) (at_ q : Int) (Q : Exit → Act → World → Prop) (hR : ∀ a' w', bodyPost Try.prog Try.f28 (Res w R) .ret a' w' → Q .ret a' w') (l m : Nat) (a : Act) (W : World)
    (hJ : l = 0 ∧ m = 0 ∧ ∃ x0 x8 x9 x11, FrD x0 x8 x9 x11 at_ q w.heap.size a ∧ EndD w R x11 W) :
    ∃ rest, findLabel codeD l = some rest ∧ rest.wp Try.prog (jumpsTo m (fun l m a W => l = 0 ∧ m = 0 ∧ ∃ x0 x8 x9 x11, FrD x0 x8 x9 x11 at_ q w.heap.size a ∧ EndD w R x11 W) Q) a W := by
  obtain ⟨rfl, rfl, x0, x8, x9, x11, hF, hE⟩ := hJ
  exact ⟨_, find_restD 0 (by decide), wp_seq (wp_skip (decL0 w R x0 x8 x9 x11 at_ q a W _ hR hF hE))⟩
theorem two_boxes (w : World) (e : Int) : EndD w (e, []) (.int .i64 e) ((w.alloc (.cells #[.int .i64 0, .slice none 0 0] 24)).alloc (.cells #[.int .i64 0, .slice none 0 0] 24)) :=
  ⟨rfl, ⟨none, 0, 0, [], by simpa using Blk.new (w.alloc (.cells #[.int .i64 0, .slice none 0 0] 24)) 24 #[.int .i64 0, .slice none 0 0], rfl, isBits_nil, by simp, fun h => absurd rfl h, fun _ h => by cases h⟩, (Blk.new w 24 _).alloc _, ((Below.refl _ _).alloc (Nat.le_refl _) _).alloc (by simp) _⟩
theorem two_mid (w : World) (D : List Sp) (q : Int) : MidD w D q 0 (.slice none 0 0) ((w.alloc (.cells #[.int .i64 0, .slice none 0 0] 24)).alloc (.cells #[.int .i64 0, .slice none 0 0] 24)) :=
  ⟨by simpa using Blk.new (w.alloc (.cells #[.int .i64 0, .slice none 0 0] 24)) 24 #[.int .i64 0, .slice none 0 0], (Blk.new w 24 _).alloc _, ((Below.refl _ _).alloc (Nat.le_refl _) _).alloc (by simp) _, World.ownsRow_nil _ _ _ _, rfl⟩

set_option maxRecDepth 100000 in
set_option maxHeartbeats 4000000 in
theorem decode_any (A : Option Addr) (n c : Nat) (l : List Sp) (at_ q : Int) (w : World) (hn : n = l.length) (hm : n ≤ 65536) (hcap : n ≤ c) (hA : Smps w.heap.size w A l) :
    Calls Try.prog 28 #[.slice A n c, .int .i64 at_, .int .i64 q] w (Res w (decodeS l at_ q)) := by
  by_cases h0 : at_ < 0
  · have e : decodeS l at_ q = (2, []) := by unfold decodeS; rw [if_pos h0]
    rw [e]
    have hd : decide (at_ < 0) = true := by simpa using h0
    clear hA hn e
    have HE := Lib.hid (two_boxes w 2)
    go_enter Try.func28, Try.ntmps28
    go_wp2
    refine wp_scope_labels (c := codeD) (fun l m a W => l = 0 ∧ m = 0 ∧ ∃ x0 x8 x9 x11, FrD x0 x8 x9 x11 at_ q w.heap.size a ∧ EndD w (2, []) x11 W) 1 ?_ (dec_pass0 w (2, []) at_ q _ (fun a' w' h => h))
    simp only [codeD, Try.f28]
    go_wp2
    go_step3
    exact ⟨0, by omega, rfl, rfl, _, _, _, _, ⟨_, _, _, _, _, _, _, _, _, _, _, _, _, _, _, _, _, _, _, _, _, _, _, _, _, _, _, _, _, _, _, _, _, _, _, _, _, _, _, _, _, _, _, _, _, _, _, _, _, _, _, _, _, _, _, _, _, _, _, _, _, _, _, _, _, _, _, rfl⟩, HE.out⟩
  · have hd : decide (at_ < 0) = false := by simpa using h0
    obtain ⟨a, rfl⟩ := Int.eq_ofNat_of_zero_le (show 0 ≤ at_ by omega)
    by_cases h1 : (n : Int) - 14 < a
    · have e : decodeS l (a : Nat) q = (32, []) := by unfold decodeS; rw [if_neg h0, if_pos (by rw [← hn]; exact h1)]
      rw [e]
      have hd1 : decide ((n : Int) - 14 < (a : Int)) = true := by simpa using h1
      clear hA hn e
      have HE := Lib.hid (two_boxes w 32)
      go_enter Try.func28, Try.ntmps28
      go_wp2
      refine wp_scope_labels (c := codeD) (fun l m a' W => l = 0 ∧ m = 0 ∧ ∃ x0 x8 x9 x11, FrD x0 x8 x9 x11 (a : Int) q w.heap.size a' ∧ EndD w (32, []) x11 W) 1 ?_ (dec_pass0 w (32, []) a q _ (fun a' w' h => h))
      simp only [codeD, Try.f28]
      go_wp2
      go_step3
      exact ⟨0, by omega, rfl, rfl, _, _, _, _, ⟨_, _, _, _, _, _, _, _, _, _, _, _, _, _, _, _, _, _, _, _, _, _, _, _, _, _, _, _, _, _, _, _, _, _, _, _, _, _, _, _, _, _, _, _, _, _, _, _, _, _, _, _, _, _, _, _, _, _, _, _, _, _, _, _, _, _, _, rfl⟩, HE.out⟩
    · have hd1 : decide ((n : Int) - 14 < (a : Int)) = false := by simpa using h1
      have ha14 : a + 14 ≤ n := by omega
      rw [decode_decD l a q (by omega)]
      obtain ⟨b, off, rfl, hbl, hcl⟩ := hA (by rintro rfl; simp at hn; omega)
      have hDl : (l.drop (a + 8)).length = n - (a + 8) := by rw [List.length_drop, hn]
      have hS : Smps w.heap.size w (some ⟨b, off + (a + 8) * 2, none⟩) (l.drop (a + 8)) := fun _ => ⟨b, off + (a + 8) * 2, rfl, hbl, fun j hj => by
        have := hcl (a + 8 + j) (by omega)
        rw [List.getElem?_drop, show off + (a + 8) * 2 + j * 2 = off + (a + 8 + j) * 2 by omega]
        exact this⟩
      generalize l.drop (a + 8) = D at *
      have hw8 : IntKind.i64.wrap ((a : Int) + 8) = ((a + 8 : Nat) : Int) := by rw [IntWalk.i64_in _ (by omega)]; omega
      obtain ⟨a8, ha8⟩ : ∃ a8, a8 = a + 8 := ⟨_, rfl⟩
      rw [← ha8] at hw8 hS hDl
      have ha8n : a8 + 6 ≤ n := by omega
      have HD := Lib.hid hDl; have HS := Lib.hid hS; have HMI := Lib.hid (two_mid w D q); have HA8 := Lib.hid ha8
      clear hDl hS hcl hA hn ha8
      go_enter Try.func28, Try.ntmps28
      go_wp2
      refine wp_scope_labels (c := codeD) (atLabel w D (some ⟨b, off + a8 * 2, none⟩) (n - a8) (c - a8) (a : Int) q) 30000 ?_ (dec_pass w D (some ⟨b, off + a8 * 2, none⟩) (n - a8) (c - a8) (a : Int) q _ (by rw [HD.out]; omega) HD.out.symm (by omega) HS.out (fun a' w' h => h))
      simp only [codeD, Try.f28]
      go_wp2
      go_step3
      rename_i K1 hK1
      refine hK1 _ _ ?_
      change (restD 1).wp Try.prog _ _ _
      refine decL1 w D 0 (some ⟨b, off + a8 * 2, none⟩) (n - a8) (c - a8) _ (a : Int) q _ _ _ (by decide) (by rw [HD.out]; omega) HD.out.symm (by omega) HS.out ?_ ?_ ?_ ?_ ⟨_, _, _, _, _, _, _, _, _, _, _, _, _, _, _, _, _, _, _, _, _, _, _, _, _, _, _, _, _, _, _, _, _, _, _, _, _, _, _, _, _, _, _, _, _, _, _, _, _, _, _, _, _, _, _, _, _, _, _, _, _, _, _, _, _, _, _, rfl⟩ HMI.out
      · exact fun x0' x8' x9' x11' a' w' f e => ⟨0, by omega, .inl ⟨rfl, rfl, _, _, _, _, f, e⟩⟩
      · exact fun x8' a' w' f e hlt => ⟨20000 + (6 - (0 + 1)), by omega, .inr (.inr (.inr ⟨rfl, 0 + 1, _, rfl, hlt, f, e⟩))⟩
      · exact fun n hn hK x0' x8' a' w' f e => ⟨1, by omega, .inr (.inl ⟨rfl, rfl, n, hn, hK, _, _, f, e⟩)⟩
      · exact fun n hn hK k' x8' a' w' f e h6 hle => ⟨2 + (10000 - k'), by omega, .inr (.inr (.inl ⟨rfl, n, hn, hK, k', _, rfl, h6, hle, f, e⟩))⟩

set_option maxRecDepth 4000 in
set_option maxHeartbeats 2000000 in
theorem receive_any (A : Option Addr) (n c : Nat) (l : List Sp) (w : World) (hn : n = l.length) (hm : n ≤ 65536) (hcap : n ≤ c) (hA : Smps w.heap.size w A l) :
    Calls Try.prog 30 #[.slice A n c] w (Res w (receiveS l)) := by
  have h1 := fun (w1 : World) (h : Below w.heap.size w w1) => find_any A n c l 0 w1 hn hm hcap (hA.on h)
  have h2 := fun (w1 : World) (at_ q : Int) (h : Below w.heap.size w w1) => decode_any A n c l at_ q w1 hn hm hcap (hA.on h)
  have k0 := Blk.new w 24 #[.int .i64 0, .slice none 0 0]
  have b0 : Below w.heap.size w (w.alloc (.cells #[.int .i64 0, .slice none 0 0] 24)) := (Below.refl _ _).alloc (Nat.le_refl _) _
  unfold receiveS
  generalize findS l 0 = F at *
  obtain ⟨F1, F2, F3⟩ := F
  dsimp only at *
  have H1 := Lib.hid h1; have H2 := Lib.hid h2
  clear h1 h2 hA hn
  by_cases h0 : F3 = 0
  · rw [if_pos h0]
    subst h0
    have hde := fun (w1 : World) (h : Below w.heap.size w w1) => H2.out w1 F1 F2 h
    generalize decodeS l F1 F2 = R at *
    have HDE := Lib.hid hde; clear hde
    go_enter Try.func30, Try.ntmps30
    go_wp2_with fail
    refine (H1.out _ b0).mono ?_
    rintro e w1 ⟨rfl, hB1⟩
    replace k0 := k0.on hB1
    replace b0 := b0.trans (hB1.mono b0.size)
    have hlt := k0.lt
    go_wp2_with fail
    refine (HDE.out _ b0).mono ?_
    rintro e w2 ⟨A3, n3, c3, bs3, rfl, hn3, his3, hl3, hA3, hB3, hF3⟩
    have HN3 := Lib.hid hn3; clear hn3
    replace k0 := k0.on hB3
    obtain ⟨c1, c2, f1, f2⟩ := k0.two
    have hlt2 := k0.lt
    go_wp2
    exact bodyPost_ret (v := .tuple #[.agg #[.int .i64 R.2.length, .slice A3 n3 c3], .int .i64 R.1]) (by simp [results, Try.results30, go_sem, c1, c2]) rfl
      (res_stored HN3.out his3 hl3 hA3 b0 hB3 hF3 (Nat.le_refl _) hlt)
  · rw [if_neg h0]
    have hne : (F3 == 0) = false := by simpa using h0
    clear h0
    go_enter Try.func30, Try.ntmps30
    go_wp2_with fail
    refine (H1.out _ b0).mono ?_
    rintro e w1 ⟨rfl, hB1⟩
    replace k0 := k0.on hB1
    replace b0 := b0.trans (hB1.mono b0.size)
    obtain ⟨c1, c2, f1, f2⟩ := k0.two
    have hlt := k0.lt
    go_wp2
    exact bodyPost_ret (v := .tuple #[.agg #[.int .i64 0, .slice none 0 0], .int .i64 F3]) (by simp [results, Try.results30, go_sem, c1, c2]) rfl (res_err F3 ((b0.setCell (p := ⟨w.heap.size, 0, none⟩) (Nat.le_refl _) _).setCell (p := ⟨w.heap.size, 1, none⟩) (Nat.le_refl _) _))
end Go.Proofs.Ytdmedhklcicpeaa

namespace Go.Proofs.Ytdmedhklcicpeaa
open Go.RowKit

/-- Bits that are the same are told so. -/
theorem same_res (R : List Bool) (A A' : Option Addr) (n n' c c' : Nat) (bs bs' : List UInt8) (w : World) (hn : n = bs.length) (hn' : n' = bs'.length) (hi : IsBits R bs) (hi' : IsBits R bs') (hA : Byt w.heap.size w A bs) (hA' : Byt w.heap.size w A' bs') :
    Calls Try.prog 32 #[.agg #[.int .i64 R.length, .slice A n c], .agg #[.int .i64 R.length, .slice A' n' c']] w fun e w' => e = .returned (.bool true) ∧ Below w.heap.size w w' := by
  have e : bs = bs' := hi.unique hi'
  subst e
  have := rsame_any (R.length : Int) (R.length : Int) A A' n n' c c' bs bs w hn hn' hA hA'
  rw [sameB_self] at this
  exact this

set_option maxRecDepth 8000 in
set_option maxHeartbeats 4000000 in
theorem reads_law (A : Option Addr) (n c : Nat) (l : List Sp) (at_ q : Int) (w : World) (hn : n = l.length) (hm : n ≤ maxLen) (hcap : n ≤ c) (hA : Smps w.heap.size w A l) :
    Calls Try.prog 6 #[.slice A n c, .int .i64 at_, .int .i64 q] w fun e w' => e = .returned (.bool true) ∧ Below w.heap.size w w' := by
  have HBG := Lib.hid begun_any
  have HFW := Lib.hid (fun w1 => few_s A n c w1 hm)
  have HN := Lib.hid hn; have HA := Lib.hid hA
  clear hn hA hm
  go_enter Try.func6, Try.ntmps6
  go_wp2_with fail
  refine (HBG.out _).mono ?_
  rintro e w1 ⟨rfl, b1⟩
  go_wp2_with fail
  refine (HFW.out _).mono ?_
  rintro e w2 ⟨rfl, rfl⟩
  have b2 := b1.alloc b1.size (.cells #[.slice A n c] 25)
  by_cases h5 : n ≤ 5000
  · have hd : decide (n ≤ 5000) = true := by simpa using h5
    rw [hd]
    have h1 := fun w1 (h : Below w.heap.size w w1) => decode_any A n c l at_ q w1 HN.out (by omega) hcap (HA.out.on h)
    have h2 := fun w1 (h : Below w.heap.size w w1) => rdecode_any A n c l at_ q w1 HN.out (by omega) hcap (HA.out.on h)
    have h3 := fun w1 (h : Below w.heap.size w w1) => receive_any A n c l w1 HN.out (by omega) hcap (HA.out.on h)
    have h4 := fun w1 (h : Below w.heap.size w w1) => rreceive_any A n c l w1 HN.out (by omega) hcap (HA.out.on h)
    generalize decodeS l at_ q = R at *
    generalize receiveS l = S at *
    obtain ⟨re, rl⟩ := R
    obtain ⟨se, sl⟩ := S
    have H1 := Lib.hid h1; have H2 := Lib.hid h2; have H3 := Lib.hid h3; have H4 := Lib.hid h4
    clear h1 h2 h3 h4
    go_wp2_with fail
    refine (H1.out _ b2).mono ?_
    rintro e w3 ⟨A1, n1, c1, bs1, rfl, hn1, hi1, _, hA1, hB3, _⟩
    have HN1 := Lib.hid hn1; have HI1 := Lib.hid hi1; have HA1 := Lib.hid hA1; clear hn1 hi1 hA1
    dsimp only
    have hB3' := hB3.alloc hB3.size (.cells #[.int .i64 rl.length, .slice A1 n1 c1] 24)
    have b3 := b2.trans (hB3'.mono b2.size)
    have k1 := Blk.new w3 24 #[.int .i64 rl.length, .slice A1 n1 c1]
    have HA1' := Lib.hid (HA1.out.on ((Below.refl _ _).alloc (Nat.le_refl _) (.cells #[.int .i64 rl.length, .slice A1 n1 c1] 24)))
    go_wp2_with fail
    refine (H2.out _ b3).mono ?_
    rintro e w4 ⟨A2, n2, c2, bs2, rfl, hn2, hi2, _, hA2, hB4, _⟩
    have HN2 := Lib.hid hn2; have HI2 := Lib.hid hi2; have HA2 := Lib.hid hA2; clear hn2 hi2 hA2
    dsimp only
    have hB4' := hB4.alloc hB4.size (.cells #[.int .i64 rl.length, .slice A2 n2 c2] 24)
    have b4 := b3.trans (hB4'.mono b3.size)
    replace k1 := k1.on hB4'
    have k2 := Blk.new w4 24 #[.int .i64 rl.length, .slice A2 n2 c2]
    have HA1'' := Lib.hid (HA1'.out.on hB4')
    have HA2' := Lib.hid (HA2.out.on ((Below.refl _ _).alloc (Nat.le_refl _) (.cells #[.int .i64 rl.length, .slice A2 n2 c2] 24)))
    go_wp2_with fail
    refine (H3.out _ b4).mono ?_
    rintro e w5 ⟨A3, n3, c3, bs3, rfl, hn3, hi3, _, hA3, hB5, _⟩
    have HN3 := Lib.hid hn3; have HI3 := Lib.hid hi3; have HA3 := Lib.hid hA3; clear hn3 hi3 hA3
    dsimp only
    have hB5' := hB5.alloc hB5.size (.cells #[.int .i64 sl.length, .slice A3 n3 c3] 24)
    have b5 := b4.trans (hB5'.mono b4.size)
    replace k1 := k1.on hB5'
    replace k2 := k2.on hB5'
    have k3 := Blk.new w5 24 #[.int .i64 sl.length, .slice A3 n3 c3]
    have HA15 := Lib.hid (HA1''.out.on hB5')
    have HA25 := Lib.hid (HA2'.out.on hB5')
    have HA3' := Lib.hid (HA3.out.on ((Below.refl _ _).alloc (Nat.le_refl _) (.cells #[.int .i64 sl.length, .slice A3 n3 c3] 24)))
    go_wp2_with fail
    refine (H4.out _ b5).mono ?_
    rintro e w6 ⟨A4, n4, c4, bs4, rfl, hn4, hi4, _, hA4, hB6, _⟩
    have HN4 := Lib.hid hn4; have HI4 := Lib.hid hi4; have HA4 := Lib.hid hA4; clear hn4 hi4 hA4
    dsimp only
    have hB6' := hB6.alloc hB6.size (.cells #[.int .i64 sl.length, .slice A4 n4 c4] 24)
    have b6 := b5.trans (hB6'.mono b5.size)
    replace k1 := k1.on hB6'
    replace k2 := k2.on hB6'
    replace k3 := k3.on hB6'
    have k4 := Blk.new w6 24 #[.int .i64 sl.length, .slice A4 n4 c4]
    have HA16 := Lib.hid (HA15.out.on hB6')
    have HA26 := Lib.hid (HA25.out.on hB6')
    have HA36 := Lib.hid (HA3'.out.on hB6')
    have HA4' := Lib.hid (HA4.out.on ((Below.refl _ _).alloc (Nat.le_refl _) (.cells #[.int .i64 sl.length, .slice A4 n4 c4] 24)))
    obtain ⟨p1, p2, _⟩ := k1.two
    obtain ⟨p3, p4, _⟩ := k2.two
    have y1 := k1.lt
    have y2 := k2.lt
    go_wp2_with fail
    refine (same_res rl A1 A2 n1 n2 c1 c2 bs1 bs2 _ HN1.out HN2.out HI1.out HI2.out HA16.out HA26.out).mono ?_
    rintro e w7 ⟨rfl, hB7⟩
    have b7 := b6.trans (hB7.mono b6.size)
    replace k3 := k3.on hB7
    replace k4 := k4.on hB7
    obtain ⟨p5, p6, _⟩ := k3.two
    obtain ⟨p7, p8, _⟩ := k4.two
    have y3 := k3.lt
    have y4 := k4.lt
    have HA37 := Lib.hid (HA36.out.on hB7)
    have HA47 := Lib.hid (HA4'.out.on hB7)
    go_wp2_with fail
    refine (same_res sl A3 A4 n3 n4 c3 c4 bs3 bs4 _ HN3.out HN4.out HI3.out HI4.out HA37.out HA47.out).mono ?_
    rintro e w8 ⟨rfl, hB8⟩
    have b8 := b7.trans (hB8.mono b7.size)
    go_wp2
    go_ret
    exact ⟨rfl, b8⟩
  · have hd : decide (n ≤ 5000) = false := by simpa using h5
    rw [hd]
    go_wp2_with fail
    refine (HBG.out _).mono ?_
    rintro e w3 ⟨rfl, hB3⟩
    go_wp2
    go_ret
    exact ⟨rfl, b2.trans (hB3.mono b2.size)⟩
end Go.Proofs.Ytdmedhklcicpeaa
