/-
  A scope in which the run jumps to several labels (over no program), and the labels of the program's Decode. No condition.
-/
import Derived.Test.YtdmedhklcicpeaaW8
import Derived.Test.YtdmedhklcicpeaaK1
import Derived.WalkMore
import Derived.ScopeJumps
namespace Go.Proofs.Ytdmedhklcicpeaa
open Go.RowKit

/-- As Q; by a goto to a label l: J of it, with a measure below m. -/
def jumpsTo (m : Nat) (J : Nat → Nat → Act → World → Prop) (Q : Exit → Act → World → Prop) : Exit → Act → World → Prop
  | .goto l, a, w => ∃ m', m' < m ∧ J l m' a w
  | e, a, w => Q e a w
theorem wp_scope_labels {P : Program} {a : Act} {w : World} {Q : Exit → Act → World → Prop} {c : Code} (J : Nat → Nat → Act → World → Prop) (M : Nat)
    (first : c.wp P (jumpsTo M J Q) a w)
    (pass : ∀ l m a w, J l m a w → ∃ rest, findLabel c l = some rest ∧ rest.wp P (jumpsTo m J Q) a w) : (Code.scope c).wp P Q a w := by
  intro b k cs
  have key : ∀ m l a w, J l m a w → ∃ rest, findLabel c l = some rest ∧ ∃ e a' w', Q e a' w' ∧ Arrives P (lone (b.at a (.code rest :: .inScope c :: k)) cs w) b k cs e a' w' := by
    intro m
    induction m using Nat.strongRecOn with
    | _ m ih =>
      intro l a w hJ
      obtain ⟨rest, hf, hp⟩ := pass l m a w hJ
      refine ⟨rest, hf, ?_⟩
      obtain ⟨e, a₁, w₁, hq, harr⟩ := hp b (.inScope c :: k) cs
      cases e with
      | normal => exact ⟨.normal, a₁, w₁, hq, Steps.trans harr (.one step_inScope)⟩
      | exit id => exact ⟨.exit id, a₁, w₁, hq, fun k' hk => harr k' (by simp [exitTo, hk])⟩
      | goto l' =>
        obtain ⟨m', hlt, hJ'⟩ := hq
        obtain ⟨rest', hf', e₂, a₂, w₂, hq₂, harr₂⟩ := ih m' hlt l' a₁ w₁ hJ'
        have hg : gotoIn l' (.inScope c :: k) = some (.code rest' :: .inScope c :: k) := by simp [gotoIn, hf']
        exact ⟨e₂, a₂, w₂, hq₂, .of_steps (harr _ hg) harr₂⟩
      | ret => exact ⟨_, a₁, w₁, hq, harr⟩
      | panic ch => exact ⟨_, a₁, w₁, hq, harr⟩
      | outgrown => exact ⟨_, a₁, w₁, hq, harr⟩
  obtain ⟨e, a₁, w₁, hq, harr⟩ := first b (.inScope c :: k) cs
  cases e with
  | normal => exact ⟨.normal, a₁, w₁, hq, .head step_scope (Steps.trans harr (.one step_inScope))⟩
  | exit id => exact ⟨.exit id, a₁, w₁, hq, fun k' hk => .head step_scope (harr k' (by simp [exitTo, hk]))⟩
  | goto l' =>
    obtain ⟨m', _, hJ'⟩ := hq
    obtain ⟨rest', hf', e₂, a₂, w₂, hq₂, harr₂⟩ := key m' l' a₁ w₁ hJ'
    have hg : gotoIn l' (.inScope c :: k) = some (.code rest' :: .inScope c :: k) := by simp [gotoIn, hf']
    exact ⟨e₂, a₂, w₂, hq₂, .of_steps (.head step_scope (harr _ hg)) harr₂⟩
  | ret => exact ⟨_, a₁, w₁, hq, .of_steps (.one step_scope) harr⟩
  | panic ch => exact ⟨_, a₁, w₁, hq, .of_steps (.one step_scope) harr⟩
  | outgrown => exact ⟨_, a₁, w₁, hq, .of_steps (.one step_scope) harr⟩

/-- Decode's body within its scope, and what stands behind each of its labels. -/
noncomputable def codeD : Code := match Try.f28.body with | some (.seq _ (.scope c)) => c | _ => .skip
noncomputable def restD (l : Nat) : Code := match findLabel codeD l with | some (.seq _ r) => r | _ => .skip
theorem find_restD : ∀ l, l < 4 → findLabel codeD l = some (.seq .skip (restD l))
  | 0, _ => by kernel_rfl
  | 1, _ => by kernel_rfl
  | 2, _ => by kernel_rfl
  | 3, _ => by kernel_rfl

/-- The frame of Decode at a label. -/
def FrD (x0 x8 x9 x11 : Value) (at_ q : Int) (g : Nat) (a : Act) : Prop := ∃ u12 u13 u14 u15 u16 u17 u18 u19 u20 u21 u22 u23 u24 u25 u26 u27 u28 u29 u30 u31 u32 u33 u34 u35 u36 u37 u38 u39 u40 u41 u42 u43 u44 u45 u46 u47 u48 u49 u50 u51 u52 u53 u54 u55 u56 u57 u58 u59 u60 u61 u62 u63 u64 u65 u66 u67 u68 u69 u70 u71 u72 u73 u74 u75 u76 u77 u78 : Value, a = ⟨#[x0, .int .i64 at_, .int .i64 q, undef, undef, undef, .pointer (some ⟨g, 0, none⟩), .int .i64 0, x8, x9, .pointer (some ⟨g + 1, 0, none⟩), x11, u12, u13, u14, u15, u16, u17, u18, u19, u20, u21, u22, u23, u24, u25, u26, u27, u28, u29, u30, u31, u32, u33, u34, u35, u36, u37, u38, u39, u40, u41, u42, u43, u44, u45, u46, u47, u48, u49, u50, u51, u52, u53, u54, u55, u56, u57, u58, u59, u60, u61, u62, u63, u64, u65, u66, u67, u68, u69, u70, u71, u72, u73, u74, u75, u76, u77, u78], []⟩

/-- Decode of what stands behind the preamble. -/
def decD (D : List Sp) (q : Int) : Int × List Bool :=
  if (D.take 6).all mayS = false then (31, [])
  else if D.length < 6 + (numOf (bitsS (D.take 6) q) + 1) / 2 then (32, [])
  else if ((D.drop 6).take ((numOf (bitsS (D.take 6) q) + 1) / 2)).all mayS = false then (31, [])
  else if (bitsS ((D.drop 6).take ((numOf (bitsS (D.take 6) q) + 1) / 2)) q)[numOf (bitsS (D.take 6) q)]?.getD false = true then (33, [])
  else (0, (bitsS ((D.drop 6).take ((numOf (bitsS (D.take 6) q) + 1) / 2)) q).take (numOf (bitsS (D.take 6) q)))
theorem decode_decD (l : List Sp) (a : Nat) (q : Int) (h : a + 14 ≤ l.length) : decodeS l (a : Int) q = decD (l.drop (a + 8)) q := by
  unfold decodeS decD lenS
  rw [if_neg (by omega), if_neg (by omega), Int.toNat_natCast, List.drop_drop, show a + 8 + 6 = a + 14 by omega]
  generalize numOf (bitsS ((l.drop (a + 8)).take 6) q) = n
  by_cases h2 : l.length - (a + 8) < 6 + (n + 1) / 2
  · have e1 : (l.length : Int) - ((a : Int) + 14) < (((n + 1) / 2 : Nat) : Int) := by omega
    have e2 : (l.drop (a + 8)).length < 6 + (n + 1) / 2 := by rw [List.length_drop]; exact h2
    rw [if_pos e1, if_pos e2]
  · have e1 : ¬ (l.length : Int) - ((a : Int) + 14) < (((n + 1) / 2 : Nat) : Int) := by omega
    have e2 : ¬ (l.drop (a + 8)).length < 6 + (n + 1) / 2 := by rw [List.length_drop]; exact h2
    rw [if_neg e1, if_neg e2]
theorem not_all_take {D : List Sp} {k m : Nat} (hk : k < m) (hD : k < D.length) (h : mayS (D[k]?.getD (0, 0)) = false) : (D.take m).all mayS = false :=
  not_all_may _ k (by rw [List.length_take]; omega) (by rw [List.getElem?_take_of_lt hk]; exact h)
theorem dec_e1 {D : List Sp} {k : Nat} (q : Int) (hk : k < 6) (hD : k < D.length) (h : mayS (D[k]?.getD (0, 0)) = false) : decD D q = (31, []) := by
  unfold decD
  rw [if_pos (not_all_take hk hD h)]
theorem dec_e2 {D : List Sp} (q : Int) (h6 : (D.take 6).all mayS = true) (h : D.length < 6 + (numOf (bitsS (D.take 6) q) + 1) / 2) : decD D q = (32, []) := by
  unfold decD
  rw [if_neg (by rw [h6]; decide), if_pos h]
theorem dec_e3 {D : List Sp} {k : Nat} (q : Int) (h6 : (D.take 6).all mayS = true) (h : 6 + (numOf (bitsS (D.take 6) q) + 1) / 2 ≤ D.length) (hk0 : 6 ≤ k) (hk : k < 6 + (numOf (bitsS (D.take 6) q) + 1) / 2) (hm : mayS (D[k]?.getD (0, 0)) = false) : decD D q = (31, []) := by
  unfold decD
  have hx : ((D.drop 6).take ((numOf (bitsS (D.take 6) q) + 1) / 2)).all mayS = false :=
    not_all_take (k := k - 6) (by omega) (by rw [List.length_drop]; omega) (by rw [List.getElem?_drop, show 6 + (k - 6) = k by omega]; exact hm)
  rw [if_neg (by rw [h6]; decide), if_neg (by omega), if_pos hx]
theorem bits_take (D : List Sp) (q : Int) (m : Nat) : bitsS (D.take (6 + m)) q = bitsS (D.take 6) q ++ bitsS ((D.drop 6).take m) q := by
  unfold bitsS
  rw [← List.flatMap_append, ← List.take_add]
theorem dec_fin {D : List Sp} (q : Int) {n : Nat} (hn : n = numOf (bitsS (D.take 6) q)) (hK : 6 + (n + 1) / 2 ≤ D.length) (h : (D.take (6 + (n + 1) / 2)).all mayS = true) :
    decD D q = if (bitsS (D.take (6 + (n + 1) / 2)) q)[12 + n]?.getD false = true then (33, []) else (0, ((bitsS (D.take (6 + (n + 1) / 2)) q).drop 12).take n) := by
  have h6 : (D.take 6).all mayS = true := by
    rw [List.all_eq_true] at h ⊢
    exact fun s hs => h s (by
      have e : D.take 6 = (D.take (6 + (n + 1) / 2)).take 6 := by rw [List.take_take, Nat.min_eq_left (by omega)]
      rw [e] at hs; exact List.mem_of_mem_take hs)
  have h7 : ((D.drop 6).take ((n + 1) / 2)).all mayS = true := by
    rw [List.all_eq_true] at h ⊢
    exact fun s hs => h s (by rw [List.take_add]; exact List.mem_append.2 (.inr hs))
  have hl : (bitsS (D.take 6) q).length = 12 := by rw [bitsS_length, List.length_take]; omega
  have e1 : (bitsS (D.take (6 + (n + 1) / 2)) q)[12 + n]? = (bitsS ((D.drop 6).take ((n + 1) / 2)) q)[n]? := by
    rw [bits_take, List.getElem?_append_right (by omega), hl, show 12 + n - 12 = n by omega]
  have e2 : (bitsS (D.take (6 + (n + 1) / 2)) q).drop 12 = bitsS ((D.drop 6).take ((n + 1) / 2)) q := by
    rw [bits_take, ← hl, List.drop_left]
  rw [e1, e2]
  unfold decD
  rw [← hn, if_neg (by rw [h6]; decide), if_neg (by omega), if_neg (by rw [h7]; decide)]

/-- What Decode answers, at its end. -/
structure EndD (w : World) (R : Int × List Bool) (x11 : Value) (W : World) : Prop where
  err : x11 = .int .i64 R.1
  out : ∃ (A : Option Addr) (n c : Nat) (bs : List UInt8), Blk W (w.heap.size + 1) 24 #[.int .i64 R.2.length, .slice A n c] ∧ n = bs.length ∧ IsBits R.2 bs ∧ R.2.length ≤ 4096 ∧ Byt W.heap.size W A bs ∧ Fresh (w.heap.size + 2) A bs
  box : Blk W w.heap.size 24 #[.int .i64 0, .slice none 0 0]
  bel : Below w.heap.size w W
/-- What it has, while it reads: k samples read, of those that stand in D. -/
structure MidD (w : World) (D : List Sp) (q : Int) (k : Nat) (x8 : Value) (W : World) : Prop where
  out : Blk W (w.heap.size + 1) 24 #[.int .i64 0, .slice none 0 0]
  box : Blk W w.heap.size 24 #[.int .i64 0, .slice none 0 0]
  bel : Below w.heap.size w W
  row : W.ownsRow (w.heap.size + 2) 4 1 x8 (2 * k) ((bitsS (D.take k) q).map Value.bool)
  may : (D.take k).all mayS = true
theorem MidD.end_ {w : World} {D : List Sp} {q : Int} {k : Nat} {x8 : Value} {W : World} (h : MidD w D q k x8 W) (e : Int) : EndD w (e, []) (.int .i64 e) W :=
  ⟨rfl, ⟨none, 0, 0, [], h.out, rfl, isBits_nil, by simp, fun h => absurd rfl h, fun _ h => by cases h⟩, h.box, h.bel⟩

set_option maxRecDepth 100000 in
set_option maxHeartbeats 1000000 in
theorem decL0 (w : World) (R : Int × List Bool) (x0 x8 x9 x11 : Value) (at_ q : Int) (a : Act) (W : World) (Q : Exit → Act → World → Prop)
    (hR : ∀ a' w', bodyPost Try.prog Try.f28 (Res w R) .ret a' w' → Q .ret a' w')
    (hF : FrD x0 x8 x9 x11 at_ q w.heap.size a) (hE : EndD w R x11 W) : (restD 0).wp Try.prog Q a W := by
  obtain ⟨u12, u13, u14, u15, u16, u17, u18, u19, u20, u21, u22, u23, u24, u25, u26, u27, u28, u29, u30, u31, u32, u33, u34, u35, u36, u37, u38, u39, u40, u41, u42, u43, u44, u45, u46, u47, u48, u49, u50, u51, u52, u53, u54, u55, u56, u57, u58, u59, u60, u61, u62, u63, u64, u65, u66, u67, u68, u69, u70, u71, u72, u73, u74, u75, u76, u77, u78, rfl⟩ := hF
  obtain ⟨rfl, ⟨A, n, c, bs, hb1, hn, his, hl, hA, hFr⟩, hb0, bel⟩ := hE
  obtain ⟨c1, c2, f1, f2⟩ := hb1.two
  obtain ⟨c3, c4, f3, f4⟩ := hb0.two
  have z1 := hb1.lt
  have z0 := hb0.lt
  have HR := Lib.hid hR; have HN := Lib.hid hn; have HI := Lib.hid his; have HL := Lib.hid hl; have HA := Lib.hid hA; have HFR := Lib.hid hFr
  clear hR hn his hl hA hFr
  simp only [restD, codeD, Try.f28, findLabel, Nat.reduceBEq, Bool.false_eq_true, ↓reduceIte, beq_self_eq_true]
  go_wp2
  refine HR.out _ _ (bodyPost_ret (v := .tuple #[.agg #[.int .i64 R.2.length, .slice A n c], .int .i64 R.1]) (by simp [results, Try.results28, go_sem, c3, c4]) rfl ⟨A, n, c, bs, rfl, HN.out, HI.out, HL.out, ?_, (bel.setCell (p := ⟨w.heap.size, 0, none⟩) (Nat.le_refl _) _).setCell (p := ⟨w.heap.size, 1, none⟩) (Nat.le_refl _) _, fun a ha hne => Nat.le_trans (by omega) (HFR.out a ha hne)⟩)
  have h1 := (HA.out.set_low HFR.out (p := ⟨w.heap.size, 0, none⟩) (by simp) (.int .i64 R.2.length)).set_low HFR.out (p := ⟨w.heap.size, 1, none⟩) (by simp) (.slice A n c)
  simpa using h1
end Go.Proofs.Ytdmedhklcicpeaa
