/-
  Interfaces between host and controller in plain Lean and in memory: which may be, and what each call makes of one. No condition. (Stage 12; laid ahead.)
-/
import Derived.Test.YtnlmpemfpkmodaaI0
namespace Go.Proofs.Ytnlmpemfpkmodaa
open Go.RowKit

/-- A message: its data and its age. -/
structure Ms where
  d : List UInt8
  g : Int
instance : Inhabited Ms := ⟨⟨[], 0⟩⟩
/-- An interface. -/
structure Cn where
  id : Int
  out : List UInt8
  ms : List Ms
  life : Int
  want : Int
instance : Inhabited Cn := ⟨⟨0, [], [], 0, 0⟩⟩
def okMs (m : Ms) : Prop := m.d.length ≤ 8 ∧ 0 ≤ m.g ∧ m.g ≤ 255
instance (m : Ms) : Decidable (okMs m) := by unfold okMs; infer_instance
/-- What Check asks ahead of the messages. -/
def headCn (c : Cn) : Prop := 4 ≤ c.ms.length ∧ c.ms.length ≤ 8 ∧ 0 ≤ c.id ∧ c.id < c.ms.length ∧ c.out.length ≤ 8 ∧ 0 ≤ c.life ∧ c.life ≤ 4 ∧ -1 ≤ c.want ∧ c.want < 4
instance (c : Cn) : Decidable (headCn c) := by unfold headCn; infer_instance
/-- Check, by the document. -/
def okCn (c : Cn) : Prop := headCn c ∧ ∀ k, k < c.ms.length → okMs (c.ms[k]?.getD default)
instance (c : Cn) : Decidable (okCn c) := by unfold okCn; infer_instance
def chkCn (c : Cn) : Int := if okCn c then 0 else 120
def zeroCn : Cn := ⟨0, [], [], 0, 0⟩
def newCn (id n : Int) : Int × Cn := if (4 ≤ n ∧ n ≤ 8) ∧ 0 ≤ id ∧ id < n then (0, ⟨id, [], List.replicate n.toNat ⟨[], 255⟩, 4, -1⟩) else (120, zeroCn)
def writeCn (c : Cn) (d : List UInt8) : Int × Cn := if okCn c then if d.length ≤ 8 then (0, { c with out := d }) else (3, zeroCn) else (120, zeroCn)
def beatCn (c : Cn) : Int × Cn := if okCn c then (0, { c with life := 4 }) else (120, zeroCn)
def askCn (c : Cn) (m : Int) : Int × Cn := if okCn c then if -1 ≤ m ∧ m < 4 then (0, { c with want := m }) else (2, zeroCn) else (120, zeroCn)
def sentB (c : Cn) (k : Nat) : List UInt8 := (List.range k).map fun i => if 0 < c.life then c.out[i]?.getD 0 else 0
def sendCn (c : Cn) (k : Int) : Int × List UInt8 := if okCn c then if 0 ≤ k ∧ k ≤ 8 then (0, sentB c k.toNat) else (2, []) else (120, [])
def deliverCn (c : Cn) (s : Int) (d : List UInt8) : Int × Cn :=
  if okCn c then if 0 ≤ s ∧ s < c.ms.length then if d.length ≤ 8 then (0, { c with ms := c.ms.set s.toNat ⟨d, 0⟩ }) else (3, zeroCn) else (2, zeroCn) else (120, zeroCn)
def olderMs (m : Ms) : Ms := ⟨m.d, min (m.g + 1) 255⟩
def roundCn (c : Cn) : Int × Cn := if okCn c then (0, { c with ms := c.ms.map olderMs, life := max (c.life - 1) 0 }) else (120, zeroCn)
def isFresh (m : Ms) (a : Int) : Bool := decide (m.g ≤ a) && decide (m.g < 255)
def freshTo (c : Cn) (a : Int) (k : Nat) : List Nat := (List.range k).filter fun j => isFresh (c.ms[j]?.getD default) a
def freshCn (c : Cn) (a : Int) : List Nat := if okCn c then freshTo c a c.ms.length else []
def aliveCn (c : Cn) : Bool := decide (okCn c) && decide (0 < c.life)
def sameCn (a b : Cn) : Bool := decide (a.id = b.id ∧ a.out = b.out ∧ a.life = b.life ∧ a.want = b.want ∧ a.ms.length = b.ms.length) && decide (∀ k, k < a.ms.length → (a.ms[k]?.getD default).d = (b.ms[k]?.getD default).d ∧ (a.ms[k]?.getD default).g = (b.ms[k]?.getD default).g)
theorem chkCn_yes {c : Cn} (h : okCn c) : chkCn c = 0 := if_pos h
theorem chkCn_no {c : Cn} (h : ¬ okCn c) : chkCn c = 120 := if_neg h
theorem chkCn_zero {c : Cn} : chkCn c = 0 ↔ okCn c := by unfold chkCn; split <;> simp_all
theorem ms_eq {a b : List Ms} (hl : a.length = b.length) (h : ∀ k, k < a.length → (a[k]?.getD default).d = (b[k]?.getD default).d ∧ (a[k]?.getD default).g = (b[k]?.getD default).g) : a = b := by
  refine List.ext_getElem hl fun k h1 h2 => ?_
  have := h k h1
  simp only [List.getElem?_eq_getElem h1, List.getElem?_eq_getElem h2, Option.getD_some] at this
  generalize a[k] = x at *
  generalize b[k] = y at *
  obtain ⟨xd, xg⟩ := x
  obtain ⟨yd, yg⟩ := y
  dsimp only at this
  rw [this.1, this.2]
theorem sameCn_iff {a b : Cn} : sameCn a b = true ↔ a = b := by
  constructor
  · intro h
    unfold sameCn at h
    simp only [Bool.and_eq_true] at h
    have h1 := of_decide_eq_true h.1; have h2 := of_decide_eq_true h.2
    obtain ⟨e1, e2, e3, e4, e5⟩ := h1
    have e6 := ms_eq e5 h2
    obtain ⟨_, _, _, _, _⟩ := a
    obtain ⟨_, _, _, _, _⟩ := b
    dsimp only at e1 e2 e3 e4 e6
    rw [e1, e2, e3, e4, e6]
  · rintro rfl
    simp [sameCn]
theorem sameCn_self (a : Cn) : sameCn a a = true := sameCn_iff.2 rfl
theorem sameCn_eq (a b : Cn) [Decidable (a = b)] : sameCn a b = decide (a = b) := by
  by_cases h : a = b
  · rw [decide_eq_true h]; exact sameCn_iff.2 h
  · rw [decide_eq_false h]
    cases hs : sameCn a b with
    | false => rfl
    | true => exact absurd (sameCn_iff.1 hs) h
theorem freshTo_yes {c : Cn} {a : Int} {k : Nat} (h : isFresh (c.ms[k]?.getD default) a = true) : freshTo c a (k + 1) = freshTo c a k ++ [k] := by simp [freshTo, List.range_succ, h]
theorem freshTo_no {c : Cn} {a : Int} {k : Nat} (h : isFresh (c.ms[k]?.getD default) a = false) : freshTo c a (k + 1) = freshTo c a k := by simp [freshTo, List.range_succ, h]
theorem freshTo_length (c : Cn) (a : Int) (k : Nat) : (freshTo c a k).length ≤ k := by
  have := List.length_filter_le (fun j => isFresh (c.ms[j]?.getD default) a) (List.range k)
  simpa [freshTo] using this

/-! ### In memory -/
abbrev cCn (c : Cn) (v u : Sl3) : Array Value := #[.int .i64 c.id, .slice v.A v.n v.c, .slice u.A u.n u.c, .int .i64 c.life, .int .i64 c.want]
/-- The slice at A holds the messages l. -/
def Msgs (n₀ : Nat) (W : World) (A : Option Addr) (l : List Ms) : Prop :=
  l ≠ [] → ∃ b off, A = some ⟨b, off, none⟩ ∧ b < n₀ ∧ ∀ (j : Nat) (s : Ms), l[j]? = some s → ∃ v : Sl3,
    (W.cell? ⟨b, off + j * 2, none⟩ = some (.slice v.A v.n v.c) ∧ W.cell? ⟨b, off + j * 2 + 1, none⟩ = some (.int .i64 s.g)) ∧ BOk n₀ W s.d v
theorem Msgs.below {n₀ : Nat} {W W' : World} {A : Option Addr} {l : List Ms} (h : Msgs n₀ W A l) (hb : Below n₀ W W') : Msgs n₀ W' A l := fun hn => by
  obtain ⟨b, off, e, hlt, hc⟩ := h hn
  refine ⟨b, off, e, hlt, fun j s hj => ?_⟩
  obtain ⟨v, ⟨h0, h1⟩, h6⟩ := hc j s hj
  exact ⟨v, ⟨(hb.cell (p := ⟨b, off + j * 2, none⟩) hlt).trans h0, (hb.cell (p := ⟨b, off + j * 2 + 1, none⟩) hlt).trans h1⟩, h6.below hb⟩
theorem Msgs.mono {n₀ n₁ : Nat} {W : World} {A : Option Addr} {l : List Ms} (h : Msgs n₀ W A l) (hn : n₀ ≤ n₁) : Msgs n₁ W A l := fun hb => by
  obtain ⟨b, off, e, hlt, hc⟩ := h hb
  refine ⟨b, off, e, Nat.lt_of_lt_of_le hlt hn, fun j s hj => ?_⟩
  obtain ⟨v, h0, h3⟩ := hc j s hj
  exact ⟨v, h0, h3.mono hn⟩
theorem Msgs.on {W W' : World} {A : Option Addr} {l : List Ms} (h : Msgs W.heap.size W A l) (hb : Below W.heap.size W W') : Msgs W'.heap.size W' A l := (h.below hb).mono hb.size
theorem Msgs.nil (n₀ : Nat) (W : World) (A : Option Addr) : Msgs n₀ W A [] := fun h => absurd rfl h
theorem Msgs.at_ {n₀ : Nat} {W : World} {A : Option Addr} {l : List Ms} (h : Msgs n₀ W A l) {k : Nat} (hk : k < l.length) :
    ∃ b off, A = some ⟨b, off, none⟩ ∧ b < n₀ ∧ ∃ v : Sl3,
    (W.cell? ⟨b, off + k * 2, none⟩ = some (.slice v.A v.n v.c) ∧ W.cell? ⟨b, off + k * 2 + 1, none⟩ = some (.int .i64 (l[k]?.getD default).g)) ∧ BOk n₀ W (l[k]?.getD default).d v := by
  obtain ⟨b, off, e, hb, hc⟩ := h (by rintro rfl; simp at hk)
  have hl : l[k]? = some (l[k]?.getD default) := by simp [hk]
  obtain ⟨v, hv⟩ := hc k _ hl
  exact ⟨b, off, e, hb, v, hv⟩
/-- An interface lies where its two slices' values say. -/
structure CnOk (n₀ : Nat) (W : World) (c : Cn) (v u : Sl3) : Prop where
  out : BOk n₀ W c.out v
  ms : Msgs n₀ W u.A c.ms
  mn : u.n = c.ms.length
  mc : u.n ≤ u.c
  mm : u.c ≤ maxLen
  mz : u.A = none → u.c = 0
theorem CnOk.below {n₀ : Nat} {W W' : World} {c : Cn} {v u : Sl3} (h : CnOk n₀ W c v u) (hb : Below n₀ W W') : CnOk n₀ W' c v u := ⟨h.out.below hb, h.ms.below hb, h.mn, h.mc, h.mm, h.mz⟩
theorem CnOk.mono {n₀ n₁ : Nat} {W : World} {c : Cn} {v u : Sl3} (h : CnOk n₀ W c v u) (hn : n₀ ≤ n₁) : CnOk n₁ W c v u := ⟨h.out.mono hn, h.ms.mono hn, h.mn, h.mc, h.mm, h.mz⟩
theorem CnOk.on {W W' : World} {c : Cn} {v u : Sl3} (h : CnOk W.heap.size W c v u) (hb : Below W.heap.size W W') : CnOk W'.heap.size W' c v u := (h.below hb).mono hb.size
theorem CnOk.zero (n₀ : Nat) (W : World) : CnOk n₀ W zeroCn ⟨none, 0, 0⟩ ⟨none, 0, 0⟩ := ⟨BOk.nil _ _, Msgs.nil _ _ _, rfl, Nat.le_refl _, Nat.zero_le _, fun _ => rfl⟩
/-- An interface lies in blocks from a base on, and is there in whatever world has those. -/
def CnFr (base : Nat) (W : World) (c : Cn) (v u : Sl3) : Prop := ∀ W' : World, (∀ b, base ≤ b → b < W.heap.size → W'.heap[b]? = W.heap[b]?) → W.heap.size ≤ W'.heap.size → CnOk W'.heap.size W' c v u
theorem CnFr.ok {base : Nat} {W : World} {c : Cn} {v u : Sl3} (h : CnFr base W c v u) : CnOk W.heap.size W c v u := h W (fun _ _ _ => rfl) (Nat.le_refl _)
theorem CnFr.on {base : Nat} {W W' : World} {c : Cn} {v u : Sl3} (h : CnFr base W c v u) (hb : Below W.heap.size W W') : CnFr base W' c v u := fun W'' hk hs =>
  h W'' (fun b h1 h2 => (hk b h1 (Nat.lt_of_lt_of_le h2 hb.size)).trans (hb.block b h2)) (Nat.le_trans hb.size hs)
theorem CnFr.put {base g : Nat} {W W' : World} {c : Cn} {v u : Sl3} (h : CnFr base W c v u) (hG : W.grownBy W' (some g)) (hg : g < base) : CnFr base W' c v u := fun W'' hk hs =>
  h W'' (fun b h1 h2 => (hk b h1 (Nat.lt_of_lt_of_le h2 hG.size)).trans (hG.block b h2 (fun e => by injection e with e; omega))) (Nat.le_trans hG.size hs)
theorem CnFr.mono {base base' : Nat} {W : World} {c : Cn} {v u : Sl3} (h : CnFr base W c v u) (hb : base' ≤ base) : CnFr base' W c v u := fun W' hk hs => h W' (fun b h1 h2 => hk b (Nat.le_trans hb h1) h2) hs
theorem CnFr.zero (base : Nat) (W : World) : CnFr base W zeroCn ⟨none, 0, 0⟩ ⟨none, 0, 0⟩ := fun _ _ _ => CnOk.zero _ _
/-- What a call answers: an error's number and an interface in memory of its own. -/
def ResCn (w : World) (r : Int × Cn) (e : Ending) (w' : World) : Prop := ∃ v u : Sl3, e = .returned (.tuple #[.agg (cCn r.2 v u), .int .i64 r.1]) ∧ CnFr w.heap.size w' r.2 v u ∧ Below w.heap.size w w'
/-- A box of five cells. -/
theorem Blk.fiveI {w : World} {g : Nat} {t : TypeId} {a b c d e : Value} (h : Blk w g t #[a, b, c, d, e]) :
    w.cell? ⟨g, 0, none⟩ = some a ∧ w.cell? ⟨g, 1, none⟩ = some b ∧ w.cell? ⟨g, 2, none⟩ = some c ∧ w.cell? ⟨g, 3, none⟩ = some d ∧ w.cell? ⟨g, 4, none⟩ = some e :=
  ⟨by simpa using h.cell 0, by simpa using h.cell 1, by simpa using h.cell 2, by simpa using h.cell 3, by simpa using h.cell 4⟩
theorem Blk.fiveFI {w : World} {g : Nat} {t : TypeId} {a b c d e : Value} (h : Blk w g t #[a, b, c, d, e]) :
    w.frozen? ⟨g, 0, none⟩ = false ∧ w.frozen? ⟨g, 1, none⟩ = false ∧ w.frozen? ⟨g, 2, none⟩ = false ∧ w.frozen? ⟨g, 3, none⟩ = false ∧ w.frozen? ⟨g, 4, none⟩ = false :=
  ⟨h.frozen 0, h.frozen 1, h.frozen 2, h.frozen 3, h.frozen 4⟩
theorem near_fiveI {w0 : World} {g : Nat} {t : TypeId} {a b c d e : Value} (h : Blk w0 g t #[a, b, c, d, e]) :
    (∀ n : NearW w0, n.W.cell? ⟨g, 0, none⟩ = some a) ∧ (∀ n : NearW w0, n.W.cell? ⟨g, 1, none⟩ = some b) ∧ (∀ n : NearW w0, n.W.cell? ⟨g, 2, none⟩ = some c) ∧ (∀ n : NearW w0, n.W.cell? ⟨g, 3, none⟩ = some d) ∧ (∀ n : NearW w0, n.W.cell? ⟨g, 4, none⟩ = some e) :=
  ⟨fun n => (h.below n.h h.lt).fiveI.1, fun n => (h.below n.h h.lt).fiveI.2.1, fun n => (h.below n.h h.lt).fiveI.2.2.1, fun n => (h.below n.h h.lt).fiveI.2.2.2.1, fun n => (h.below n.h h.lt).fiveI.2.2.2.2⟩
end Go.Proofs.Ytnlmpemfpkmodaa
