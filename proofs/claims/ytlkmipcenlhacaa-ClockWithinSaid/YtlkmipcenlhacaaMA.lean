/-
  Lists of layer 7 in plain Lean, over no program: which may be, how long their frames last; and how they lie in memory. No condition.
-/
import Derived.Test.YtlkmipcenlhacaaMB
namespace Go.Proofs.Ytlkmipcenlhacaa
open Go.RowKit

/-- A mode. -/
structure Md where
  d : List Int
  x : List Bool
  n : List Bool
/-- A list. -/
structure ML where
  N : Int
  S : Int
  G : Int
  W : Int
  D : Int
  L : Int
  cold : List Bool
  ms : List Md
/-- How many hold. -/
def trues (l : List Bool) : Nat := l.count true
/-- A frame's kind. -/
def kindS (x : Bool) (d : Int) : Int := if x = true then (if 0 < d then 4 else 3) else 2
/-- How long a frame lasts. -/
def airAt (x : Bool) (d : Int) : Int := airS (sizeF (kindS x d) d)
/-- With a node's frame. -/
def nodeAir (o : Md) (a : Int) (k : Nat) : Int := if 0 ≤ o.d[k]?.getD 0 ∧ o.d[k]?.getD 0 ≤ 8 then max a (airAt (o.x[k]?.getD false) (o.d[k]?.getD 0)) else a
/-- With the first n nodes' frames of a mode. -/
def modeAir (o : Md) (n : Nat) (a : Int) : Int := (List.range n).foldl (nodeAir o) a
def wide (N : Int) (o : Md) : Nat := min (min N.toNat o.d.length) o.x.length
/-- The longest one of some modes. -/
def airOver (N : Int) (a : Int) (ms : List Md) : Int := ms.foldl (fun a o => modeAir o (wide N o) a) a
/-- MaxAir, by the document. -/
def maxAirS (N : Int) (ms : List Md) : Int := airOver N 34 ms
/-- Does each hold of which the other one does? -/
def withCold (x cold : List Bool) : Bool := (List.range cold.length).all fun i => !(cold[i]?.getD false) || x[i]?.getD false
/-- Are numbers of Data? -/
def dataOk (d : List Int) : Bool := d.all fun v => decide (0 ≤ v ∧ v ≤ 8)
/-- May a mode be? -/
def okMode (N : Int) (cold : List Bool) (nm : Nat) (o : Md) : Bool :=
  (decide ((o.d.length : Int) = N) && dataOk o.d) && ((decide ((o.x.length : Int) = N) && withCold o.x cold) && decide (o.n.length = nm))
/-- May a list be? -/
def okM (m : ML) : Prop :=
  (4 ≤ m.N ∧ m.N ≤ 8) ∧ (1 ≤ m.ms.length ∧ m.ms.length ≤ 4) ∧ ((m.cold.length : Int) = m.N ∧ 2 ≤ trues m.cold) ∧ m.ms.all (okMode m.N m.cold m.ms.length) = true ∧
  (0 ≤ m.D ∧ m.D ≤ 64) ∧ (0 ≤ m.L ∧ m.L ≤ 64) ∧ (16 * m.N * m.D + 16 ≤ m.W ∧ m.W ≤ 1048576) ∧ (2 * m.W + 2 * m.L + 4 ≤ m.G ∧ m.G ≤ 1048576) ∧ (2 * m.G + maxAirS m.N m.ms ≤ m.S ∧ m.S ≤ 16777216)
instance (m : ML) : Decidable (okM m) := by unfold okM; infer_instance
/-- Check, by the document. -/
def checkM (m : ML) : Int := if okM m then 0 else 70

theorem trues_snoc (l : List Bool) (b : Bool) : trues (l ++ [b]) = trues l + b.toNat := by
  unfold trues; rw [List.count_append]; cases b <;> rfl
theorem trues_le (l : List Bool) : trues l ≤ l.length := List.count_le_length
theorem bool_at (l : List Bool) (k : Nat) (h : k < l.length) : l.take (k + 1) = l.take k ++ [l[k]?.getD false] := by
  rw [List.take_add_one, List.getElem?_eq_getElem h]; rfl
theorem airAt_range (x : Bool) (d : Int) (h0 : 0 ≤ d) (h1 : d ≤ 8) : 29 ≤ airAt x d ∧ airAt x d ≤ 86 := by
  have h : d = 0 ∨ d = 1 ∨ d = 2 ∨ d = 3 ∨ d = 4 ∨ d = 5 ∨ d = 6 ∨ d = 7 ∨ d = 8 := by omega
  rcases h with rfl | rfl | rfl | rfl | rfl | rfl | rfl | rfl | rfl <;> cases x <;> decide
theorem modeAir_succ (o : Md) (n : Nat) (a : Int) : modeAir o (n + 1) a = nodeAir o (modeAir o n a) n := by
  unfold modeAir; rw [List.range_succ, List.foldl_append]; rfl
theorem nodeAir_range (o : Md) (k : Nat) (a : Int) (h0 : 34 ≤ a) (h1 : a ≤ 86) : a ≤ nodeAir o a k ∧ nodeAir o a k ≤ 86 := by
  unfold nodeAir
  split
  · rename_i h
    have := airAt_range (o.x[k]?.getD false) _ h.1 h.2
    omega
  · omega
theorem modeAir_range (o : Md) (n : Nat) (a : Int) (h0 : 34 ≤ a) (h1 : a ≤ 86) : a ≤ modeAir o n a ∧ modeAir o n a ≤ 86 := by
  induction n with
  | zero => exact ⟨Int.le_refl _, h1⟩
  | succ n ih =>
    rw [modeAir_succ]
    have := nodeAir_range o n _ (Int.le_trans h0 ih.1) ih.2
    omega
theorem airOver_range (N : Int) (ms : List Md) : ∀ a : Int, 34 ≤ a → a ≤ 86 → a ≤ airOver N a ms ∧ airOver N a ms ≤ 86 := by
  induction ms with
  | nil => intro a h0 h1; exact ⟨Int.le_refl _, h1⟩
  | cons o ms ih =>
    intro a h0 h1
    have h := modeAir_range o (wide N o) a h0 h1
    have := ih _ (Int.le_trans h0 h.1) h.2
    show a ≤ airOver N (modeAir o (wide N o) a) ms ∧ airOver N (modeAir o (wide N o) a) ms ≤ 86
    omega
theorem maxAir_range (N : Int) (ms : List Md) : 34 ≤ maxAirS N ms ∧ maxAirS N ms ≤ 86 := airOver_range N ms 34 (by decide) (by decide)
theorem airOver_snoc (N : Int) (a : Int) (ms : List Md) (o : Md) : airOver N a (ms ++ [o]) = modeAir o (wide N o) (airOver N a ms) := by
  unfold airOver; rw [List.foldl_append]; rfl
theorem md_at (ms : List Md) (k : Nat) (o : Md) (h : ms[k]? = some o) : ms.take (k + 1) = ms.take k ++ [o] := by
  rw [List.take_add_one, h]; rfl
/-- What a list's frames at most last is at least what any one does. -/
theorem nodeAir_ge (o : Md) (a : Int) (k : Nat) (h : 0 ≤ o.d[k]?.getD 0 ∧ o.d[k]?.getD 0 ≤ 8) : airAt (o.x[k]?.getD false) (o.d[k]?.getD 0) ≤ nodeAir o a k := by
  unfold nodeAir; rw [if_pos h]; omega
theorem modeAir_ge (o : Md) (n k : Nat) (a : Int) (h0 : 34 ≤ a) (h1 : a ≤ 86) (hk : k < n) (h : 0 ≤ o.d[k]?.getD 0 ∧ o.d[k]?.getD 0 ≤ 8) : airAt (o.x[k]?.getD false) (o.d[k]?.getD 0) ≤ modeAir o n a := by
  induction n with
  | zero => omega
  | succ n ih =>
    rw [modeAir_succ]
    have hr := modeAir_range o n a h0 h1
    rcases Nat.lt_or_ge k n with hl | hl
    · have := ih hl
      have := nodeAir_range o n _ (Int.le_trans h0 hr.1) hr.2
      omega
    · obtain rfl : k = n := by omega
      exact nodeAir_ge o _ k h
theorem airOver_ge (N : Int) (o : Md) (k : Nat) (hk : k < wide N o) (h : 0 ≤ o.d[k]?.getD 0 ∧ o.d[k]?.getD 0 ≤ 8) (ms : List Md) : ∀ a : Int, 34 ≤ a → a ≤ 86 → o ∈ ms → airAt (o.x[k]?.getD false) (o.d[k]?.getD 0) ≤ airOver N a ms := by
  induction ms with
  | nil => intro a _ _ h; cases h
  | cons x ms ih =>
    intro a h0 h1 hm
    have hr := modeAir_range x (wide N x) a h0 h1
    show _ ≤ airOver N (modeAir x (wide N x) a) ms
    rcases List.mem_cons.1 hm with rfl | hm
    · have := modeAir_ge o (wide N o) k a h0 h1 hk h
      have := airOver_range N ms _ (Int.le_trans h0 hr.1) hr.2
      omega
    · exact ih _ (Int.le_trans h0 hr.1) hr.2 hm

/-! ### In memory -/
/-- A slice's value. -/
structure Slc where
  A : Option Addr
  n : Nat
  c : Nat
/-- A mode's value. -/
structure MdV where
  d : Slc
  x : Slc
  n : Slc
structure MdOk (n₀ : Nat) (W : World) (o : Md) (v : MdV) : Prop where
  d : Ints n₀ W v.d.A o.d
  dn : v.d.n = o.d.length
  dm : v.d.n ≤ maxLen
  x : Bools n₀ W v.x.A o.x
  xn : v.x.n = o.x.length
  xm : v.x.n ≤ maxLen
  n : Bools n₀ W v.n.A o.n
  nn : v.n.n = o.n.length
  nm : v.n.n ≤ maxLen
theorem MdOk.below {n₀ : Nat} {W W' : World} {o : Md} {v : MdV} (h : MdOk n₀ W o v) (hb : Below n₀ W W') : MdOk n₀ W' o v :=
  ⟨h.d.below hb, h.dn, h.dm, h.x.below hb, h.xn, h.xm, h.n.below hb, h.nn, h.nm⟩
theorem MdOk.mono {n₀ n₁ : Nat} {W : World} {o : Md} {v : MdV} (h : MdOk n₀ W o v) (hn : n₀ ≤ n₁) : MdOk n₁ W o v :=
  ⟨h.d.mono hn, h.dn, h.dm, h.x.mono hn, h.xn, h.xm, h.n.mono hn, h.nn, h.nm⟩
/-- The slice at A holds the modes ms. -/
def Mds (n₀ : Nat) (W : World) (A : Option Addr) (ms : List Md) : Prop :=
  ms ≠ [] → ∃ b off, A = some ⟨b, off, none⟩ ∧ b < n₀ ∧ ∀ (j : Nat) (o : Md), ms[j]? = some o → ∃ v : MdV,
    W.cell? ⟨b, off + j * 3, none⟩ = some (.slice v.d.A v.d.n v.d.c) ∧ W.cell? ⟨b, off + j * 3 + 1, none⟩ = some (.slice v.x.A v.x.n v.x.c) ∧ W.cell? ⟨b, off + j * 3 + 2, none⟩ = some (.slice v.n.A v.n.n v.n.c) ∧ MdOk n₀ W o v
theorem Mds.below {n₀ : Nat} {W W' : World} {A : Option Addr} {ms : List Md} (h : Mds n₀ W A ms) (hb : Below n₀ W W') : Mds n₀ W' A ms := fun hn => by
  obtain ⟨b, off, e, hlt, hc⟩ := h hn
  refine ⟨b, off, e, hlt, fun j o hj => ?_⟩
  obtain ⟨v, h0, h1, h2, h3⟩ := hc j o hj
  exact ⟨v, (hb.cell (p := ⟨b, off + j * 3, none⟩) hlt).trans h0, (hb.cell (p := ⟨b, off + j * 3 + 1, none⟩) hlt).trans h1, (hb.cell (p := ⟨b, off + j * 3 + 2, none⟩) hlt).trans h2, h3.below hb⟩
theorem Mds.mono {n₀ n₁ : Nat} {W : World} {A : Option Addr} {ms : List Md} (h : Mds n₀ W A ms) (hn : n₀ ≤ n₁) : Mds n₁ W A ms := fun hb => by
  obtain ⟨b, off, e, hlt, hc⟩ := h hb
  refine ⟨b, off, e, Nat.lt_of_lt_of_le hlt hn, fun j o hj => ?_⟩
  obtain ⟨v, h0, h1, h2, h3⟩ := hc j o hj
  exact ⟨v, h0, h1, h2, h3.mono hn⟩
theorem Mds.at_ {n₀ : Nat} {W : World} {A : Option Addr} {ms : List Md} (h : Mds n₀ W A ms) {k : Nat} {o : Md} (hk : ms[k]? = some o) :
    ∃ b off, A = some ⟨b, off, none⟩ ∧ b < n₀ ∧ ∃ v : MdV, W.cell? ⟨b, off + k * 3, none⟩ = some (.slice v.d.A v.d.n v.d.c) ∧ W.cell? ⟨b, off + k * 3 + 1, none⟩ = some (.slice v.x.A v.x.n v.x.c) ∧ W.cell? ⟨b, off + k * 3 + 2, none⟩ = some (.slice v.n.A v.n.n v.n.c) ∧ MdOk n₀ W o v := by
  obtain ⟨b, off, e, hlt, hc⟩ := h (by rintro rfl; simp at hk)
  exact ⟨b, off, e, hlt, hc k o hk⟩
/-- A list's slices hold its truths and its modes. -/
structure Med (W : World) (m : ML) (c s : Slc) : Prop where
  cb : Bools W.heap.size W c.A m.cold
  cn : c.n = m.cold.length
  cm : c.n ≤ maxLen
  sb : Mds W.heap.size W s.A m.ms
  sn : s.n = m.ms.length
  sm : s.n ≤ maxLen
theorem Med.on {W W' : World} {m : ML} {c s : Slc} (h : Med W m c s) (hb : Below W.heap.size W W') : Med W' m c s :=
  ⟨(h.cb.below hb).mono hb.size, h.cn, h.cm, (h.sb.below hb).mono hb.size, h.sn, h.sm⟩
theorem MdOk.on {W W' : World} {o : Md} {v : MdV} (h : MdOk W.heap.size W o v) (hb : Below W.heap.size W W') : MdOk W'.heap.size W' o v := (h.below hb).mono hb.size
/-- A list's value. -/
abbrev vM (m : ML) (c s : Slc) : Value := .agg #[.int .i64 m.N, .int .i64 m.S, .int .i64 m.G, .int .i64 m.W, .int .i64 m.D, .int .i64 m.L, .slice c.A c.n c.c, .slice s.A s.n s.c]
/-- A mode's value. -/
abbrev vO (v : MdV) : Value := .agg #[.slice v.d.A v.d.n v.d.c, .slice v.x.A v.x.n v.x.c, .slice v.n.A v.n.n v.n.c]
abbrev cM (m : ML) (c s : Slc) : Array Value := #[.int .i64 m.N, .int .i64 m.S, .int .i64 m.G, .int .i64 m.W, .int .i64 m.D, .int .i64 m.L, .slice c.A c.n c.c, .slice s.A s.n s.c]
abbrev cO (v : MdV) : Array Value := #[.slice v.d.A v.d.n v.d.c, .slice v.x.A v.x.n v.x.c, .slice v.n.A v.n.n v.n.c]
/-- A box of eight cells. -/
theorem Blk.eight {w : World} {g : Nat} {t : TypeId} {a b c d e f k l : Value} (h : Blk w g t #[a, b, c, d, e, f, k, l]) :
    w.cell? ⟨g, 0, none⟩ = some a ∧ w.cell? ⟨g, 1, none⟩ = some b ∧ w.cell? ⟨g, 2, none⟩ = some c ∧ w.cell? ⟨g, 3, none⟩ = some d ∧ w.cell? ⟨g, 4, none⟩ = some e ∧ w.cell? ⟨g, 5, none⟩ = some f ∧ w.cell? ⟨g, 6, none⟩ = some k ∧ w.cell? ⟨g, 7, none⟩ = some l :=
  ⟨by simpa using h.cell 0, by simpa using h.cell 1, by simpa using h.cell 2, by simpa using h.cell 3, by simpa using h.cell 4, by simpa using h.cell 5, by simpa using h.cell 6, by simpa using h.cell 7⟩
theorem Blk.eightF {w : World} {g : Nat} {t : TypeId} {a b c d e f k l : Value} (h : Blk w g t #[a, b, c, d, e, f, k, l]) :
    w.frozen? ⟨g, 0, none⟩ = false ∧ w.frozen? ⟨g, 1, none⟩ = false ∧ w.frozen? ⟨g, 2, none⟩ = false ∧ w.frozen? ⟨g, 3, none⟩ = false ∧ w.frozen? ⟨g, 4, none⟩ = false ∧ w.frozen? ⟨g, 5, none⟩ = false ∧ w.frozen? ⟨g, 6, none⟩ = false ∧ w.frozen? ⟨g, 7, none⟩ = false :=
  ⟨h.frozen 0, h.frozen 1, h.frozen 2, h.frozen 3, h.frozen 4, h.frozen 5, h.frozen 6, h.frozen 7⟩
end Go.Proofs.Ytlkmipcenlhacaa
