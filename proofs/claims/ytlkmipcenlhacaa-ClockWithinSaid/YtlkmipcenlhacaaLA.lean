/-
  Clocks of layer 13 in plain Lean and in memory: which may be, and what each call makes of one. No condition. (Stage 13; laid ahead.)
-/
import Derived.Test.YtlkmipcenlhacaaMR
import Derived.Test.YtlkmipcenlhacaaQG
namespace Go.Proofs.Ytlkmipcenlhacaa
open Go.RowKit

/-- A clock: where its slot begins, which slot it is, and what it saw. -/
structure Ck where
  st : Int
  sl : Int
  dv : List Int
instance : Inhabited Ck := ⟨⟨0, 0, []⟩⟩
def zeroCk : Ck := ⟨0, 0, []⟩
def okCk (W : Int) (k : Ck) : Prop := ((0 ≤ k.st ∧ k.st ≤ 1099494850560) ∧ 0 ≤ k.sl ∧ k.sl ≤ 1048576) ∧ k.dv.length ≤ 8 ∧ ∀ i, i < k.dv.length → -W ≤ nth k.dv i ∧ nth k.dv i ≤ W
instance (W : Int) (k : Ck) : Decidable (okCk W k) := by unfold okCk; infer_instance
/-- Check, by the document. -/
def chkK (m : ML) (k : Ck) : Int := if okM m then (if okCk m.W k then 0 else 130) else 70
/-- The moment at which a frame is expected. -/
def expK (m : ML) (k : Ck) : Int := k.st + m.G + m.L
def slotK (m : ML) (k : Ck) : Int × Int × Int := if chkK m k = 0 then (0, k.st, k.st + m.S) else (chkK m k, 0, 0)
def sendK (m : ML) (k : Ck) : Int × Int := if chkK m k = 0 then (0, k.st + m.G) else (chkK m k, 0)
def winK (m : ML) (k : Ck) : Int × Int × Int := if chkK m k = 0 then (0, max (expK m k - m.W) 0, expK m k + m.W + 1) else (chkK m k, 0, 0)
def seeK (m : ML) (k : Ck) (a : Int) : Int × Ck :=
  if chkK m k = 0 then if k.dv.length < 8 ∧ max (expK m k - m.W) 0 ≤ a ∧ a ≤ expK m k + m.W then (0, ⟨k.st, k.sl, k.dv ++ [a - expK m k]⟩) else (2, zeroCk) else (chkK m k, zeroCk)
def byK (k : Ck) : Int := midOf (0 :: k.dv)
def corK (m : ML) (k : Ck) : Int × Int := if chkK m k = 0 then (0, byK k) else (chkK m k, 0)
/-- The clock in the next slot, whether it may be or not. -/
def goneK (m : ML) (k : Ck) (d : Int) : Ck := if (k.sl + 1) % m.N = 0 then ⟨k.st + m.S + d + byK k, k.sl + 1, []⟩ else ⟨k.st + m.S + d, k.sl + 1, k.dv⟩
def nextK (m : ML) (k : Ck) (d : Int) : Int × Ck :=
  if chkK m k = 0 then if -m.D ≤ d ∧ d ≤ m.D then if okCk m.W (goneK m k d) then (0, goneK m k d) else (130, zeroCk) else (2, zeroCk) else (chkK m k, zeroCk)
def joinK (m : ML) (a pos : Int) : Int × Ck :=
  if okM m then if 0 ≤ pos ∧ pos < m.N then if (0 ≤ a ∧ a ≤ 1099511627776) ∧ okCk m.W ⟨a - m.G - m.L, pos, []⟩ then (0, ⟨a - m.G - m.L, pos, []⟩) else (130, zeroCk) else (2, zeroCk) else (70, zeroCk)
def sameK (a b : Ck) : Bool := decide (a.st = b.st ∧ a.sl = b.sl ∧ a.dv = b.dv)
theorem sameK_self (a : Ck) : sameK a a = true := by simp [sameK]
theorem chkK_zero {m : ML} {k : Ck} : chkK m k = 0 ↔ okM m ∧ okCk m.W k := by
  unfold chkK; split
  · split <;> simp_all
  · simp_all
theorem chkK_list {m : ML} {k : Ck} (h : ¬ okM m) : chkK m k = 70 := if_neg h
theorem chkK_clock {m : ML} {k : Ck} (h : okM m) (h2 : ¬ okCk m.W k) : chkK m k = 130 := by unfold chkK; rw [if_pos h, if_neg h2]
theorem checkM_zero {m : ML} : checkM m = 0 ↔ okM m := by unfold checkM; split <;> simp_all
/-- What follows of a list that may be, in numbers. -/
theorem okM_nums {m : ML} (h : okM m) : (4 ≤ m.N ∧ m.N ≤ 8) ∧ (0 ≤ m.D ∧ m.D ≤ 64) ∧ (0 ≤ m.L ∧ m.L ≤ 64) ∧ (16 ≤ m.W ∧ m.W ≤ 1048576) ∧ (2 * m.W + 2 * m.L + 4 ≤ m.G ∧ m.G ≤ 1048576) ∧ (2 * m.G + 34 ≤ m.S ∧ m.S ≤ 16777216) ∧ 16 * m.N * m.D + 16 ≤ m.W ∧ 2 * m.G + maxAirS m.N m.ms ≤ m.S := by
  obtain ⟨h1, -, -, -, h5, h6, h7, h8, h9⟩ := h
  have hr := maxAir_range m.N m.ms
  have h10 : 0 ≤ m.N * m.D := Int.mul_nonneg (by omega) h5.1
  have h11 : 16 * m.N * m.D = 16 * (m.N * m.D) := by rw [Int.mul_assoc]
  exact ⟨h1, h5, h6, ⟨by omega, h7.2⟩, h8, ⟨by omega, h9.2⟩, h7.1, h9.1⟩
theorem devs_off {W : Int} {k : Ck} (h : okCk W k) (hW : W ≤ 1048576) (h0 : 0 ≤ W) : inOff (0 :: k.dv) := by
  intro y hy
  unfold mOff
  rcases List.mem_cons.1 hy with rfl | hy
  · omega
  · obtain ⟨i, hi, rfl⟩ := List.getElem_of_mem hy
    have := h.2.2 i hi
    rw [nth_at hi] at this
    omega
/-- By how much a clock is wrong lies within what it saw, and 0. -/
theorem byK_in {W : Int} {k : Ck} (h : okCk W k) (h0 : 0 ≤ W) : -W ≤ byK k ∧ byK k ≤ W := by
  have hlen : 0 < (0 :: k.dv).length := by simp
  have hw := midOf_within (0 :: k.dv) hlen
  have hm : ∀ y ∈ (0 :: k.dv), -W ≤ y ∧ y ≤ W := fun y hy => by
    rcases List.mem_cons.1 hy with rfl | hy
    · omega
    · obtain ⟨i, hi, rfl⟩ := List.getElem_of_mem hy
      have := h.2.2 i hi
      rw [nth_at hi] at this
      exact this
  have h1 : -W ≤ keptLo (0 :: k.dv) := by
    unfold keptLo
    have hl := loAt_lt hlen
    have := hm _ ((sortI_perm (0 :: k.dv)).mem_iff.1 (nth_mem (by rw [sortI_length]; exact hl)))
    omega
  have h2 : keptHi (0 :: k.dv) ≤ W := by
    unfold keptHi
    have hl := hiAt_lt hlen
    have := hm _ ((sortI_perm (0 :: k.dv)).mem_iff.1 (nth_mem (by rw [sortI_length]; exact hl)))
    omega
  unfold byK
  omega

/-! ### In memory -/
abbrev cK (k : Ck) (v : Slc) : Array Value := #[.int .i64 k.st, .int .i64 k.sl, .slice v.A v.n v.c]
/-- A clock lies where its slice's value says. -/
structure CkOk (n₀ : Nat) (W : World) (k : Ck) (v : Slc) : Prop where
  d : Ints n₀ W v.A k.dv
  dn : v.n = k.dv.length
  dc : v.n ≤ v.c
  dm : v.n ≤ maxLen
  dz : v.A = none → v.n = 0 ∧ v.c = 0
theorem CkOk.below {n₀ : Nat} {W W' : World} {k : Ck} {v : Slc} (h : CkOk n₀ W k v) (hb : Below n₀ W W') : CkOk n₀ W' k v := ⟨h.d.below hb, h.dn, h.dc, h.dm, h.dz⟩
theorem CkOk.mono {n₀ n₁ : Nat} {W : World} {k : Ck} {v : Slc} (h : CkOk n₀ W k v) (hn : n₀ ≤ n₁) : CkOk n₁ W k v := ⟨h.d.mono hn, h.dn, h.dc, h.dm, h.dz⟩
theorem CkOk.on {W W' : World} {k : Ck} {v : Slc} (h : CkOk W.heap.size W k v) (hb : Below W.heap.size W W') : CkOk W'.heap.size W' k v := (h.below hb).mono hb.size
theorem CkOk.zero (n₀ : Nat) (W : World) (a b : Int) : CkOk n₀ W ⟨a, b, []⟩ ⟨none, 0, 0⟩ := ⟨fun h => absurd rfl h, rfl, Nat.le_refl _, Nat.zero_le _, fun _ => ⟨rfl, rfl⟩⟩
/-- A clock lies in blocks from a base on, and is there in whatever world has those. -/
def CkFr (base : Nat) (W : World) (k : Ck) (v : Slc) : Prop := ∀ W' : World, (∀ b, base ≤ b → b < W.heap.size → W'.heap[b]? = W.heap[b]?) → W.heap.size ≤ W'.heap.size → CkOk W'.heap.size W' k v
theorem CkFr.ok {base : Nat} {W : World} {k : Ck} {v : Slc} (h : CkFr base W k v) : CkOk W.heap.size W k v := h W (fun _ _ _ => rfl) (Nat.le_refl _)
theorem CkFr.on {base : Nat} {W W' : World} {k : Ck} {v : Slc} (h : CkFr base W k v) (hb : Below W.heap.size W W') : CkFr base W' k v := fun W'' hk hs =>
  h W'' (fun b h1 h2 => (hk b h1 (Nat.lt_of_lt_of_le h2 hb.size)).trans (hb.block b h2)) (Nat.le_trans hb.size hs)
theorem CkFr.put {base g : Nat} {W W' : World} {k : Ck} {v : Slc} (h : CkFr base W k v) (hG : W.grownBy W' (some g)) (hg : g < base) : CkFr base W' k v := fun W'' hk hs =>
  h W'' (fun b h1 h2 => (hk b h1 (Nat.lt_of_lt_of_le h2 hG.size)).trans (hG.block b h2 (fun e => by injection e with e; omega))) (Nat.le_trans hG.size hs)
theorem CkFr.mono {base base' : Nat} {W : World} {k : Ck} {v : Slc} (h : CkFr base W k v) (hb : base' ≤ base) : CkFr base' W k v := fun W' hk hs => h W' (fun b h1 h2 => hk b (Nat.le_trans hb h1) h2) hs
theorem CkFr.zero (base : Nat) (W : World) (a b : Int) : CkFr base W ⟨a, b, []⟩ ⟨none, 0, 0⟩ := fun _ _ _ => CkOk.zero _ _ _ _
/-- A clock whose numbers lie in a row of the call's own. -/
theorem CkFr.own {base : Nat} {W : World} {k : Ck} {A : Option Addr} {n c : Nat} (h : W.ownsRow base 2 1 (.slice A n c) n (k.dv.map (Value.int .i64))) (hm : n ≤ maxLen) : CkFr base W k ⟨A, n, c⟩ := fun W' hk hs => by
  have h' : W'.ownsRow base 2 1 (.slice A n c) n (k.dv.map (Value.int .i64)) := by
    refine ⟨h.1, ?_⟩
    rcases h.2 with h2 | ⟨g, cap, cur, h2, h3, h4, h5⟩
    · exact .inl h2
    · exact .inr ⟨g, cap, cur, h2, h3, (hk g h3 (Array.getElem?_eq_some_iff.1 h4).1).trans h4, h5⟩
  obtain ⟨A2, c2, e, h1, h2, h3⟩ := ints_own h'
  injection e with e1 e2 e3
  subst e1 e3
  exact ⟨h3, e2, by dsimp only; omega, hm, fun e => by have := h2 e; dsimp only; omega⟩
/-- What a call answers: an error's number and a clock in memory of its own. -/
def ResCk (w : World) (r : Int × Ck) (e : Ending) (w' : World) : Prop := ∃ v : Slc, e = .returned (.tuple #[.agg (cK r.2 v), .int .i64 r.1]) ∧ CkFr w.heap.size w' r.2 v ∧ Below w.heap.size w w'
/-- What a call answers: an error's number and a span. -/
def ResSp (w : World) (r : Int × Int × Int) (e : Ending) (w' : World) : Prop := e = .returned (.tuple #[.agg #[.int .i64 r.2.1, .int .i64 r.2.2], .int .i64 r.1]) ∧ Below w.heap.size w w'
end Go.Proofs.Ytlkmipcenlhacaa
