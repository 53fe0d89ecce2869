/-
  A range over a sequence whose own text ranges over another one: what the loop's invariant owes, and how a round is begun and left. No condition but those that the theorem names.
-/
import Derived.Test.YtjdhodobfkkoiaaSM
namespace Go.Proofs.Ytjdhodobfkkoiaa
open Go.RowKit Go.Shelf
section
variable {F : Fence} {n : Nat} {P : Program} {α : Type}

/-- A sequence, for invariants that hold whatever is done to blocks that hold no cells, and that imply I: it is told whole, or left. -/
def SeqOwn (F : Fence) (n : Nat) (P : Program) (g : Nat) (lb : Array Value) (encs : α → Array Value) (Kp : World → World → Prop) (Ok : List α → α → Prop) (I : List α → World → Prop) (S Sp : List α → Prop) (w : World) : Prop :=
  ∀ (l : Nat) (J Jx : List α → World → Prop) (W : World), Below w.heap.size w W → OwnFrom W.heap.size J → OwnFrom W.heap.size Jx → (∀ pre W1, J pre W1 → I pre W1) →
    (∀ pre x W1, Ok pre x → J pre W1 → YieldAt F (n - 1) P l (encs x) W1 fun e W' =>
      (e = .returned (.bool true) ∧ J (pre ++ [x]) W' ∧ Kp W1 W' ∧ KeepsFrom W.heap.size W1 W') ∨ (e = .returned (.bool false) ∧ Jx (pre ++ [x]) W' ∧ KeepsFrom W.heap.size W1 W')) →
    J [] W → CallsIn F n P g (#[.func (.yield l) #[] #[]] ++ lb) W fun e W' => (∃ v, e = .returned v) ∧ ((∃ xs, S xs ∧ J xs W') ∨ ∃ pre, Sp pre ∧ Jx pre W')
theorem AtLoop.own {B B' : Nat} {r : Loop} {W W' : World} {row : Option Nat} (h : AtLoop B r W) (hB : B + 2 ≤ B') (hg : W.grownBy W' row) (hr : ∀ k, row = some k → B' ≤ k ∧ ∃ o : Obj, W.heap[k]? = some o ∧ o.isCells = false) : AtLoop B r W' := by
  have hlt := h.lt
  exact ⟨(hg.block _ hlt (fun e => by have := (hr _ e.symm).1; omega)).trans h.1, (hg.block _ (by omega) (fun e => by have := (hr _ e.symm).1; omega)).trans h.2⟩
theorem keepsFrom_put {B : Nat} {W : World} {l : Nat} {o' : Obj} (hl : l < B) : KeepsFrom B W (W.putObj l o') := KeepsFrom.of_grownBy (grownBy_putObj' W l o') fun j e => by cases e; exact hl
theorem keepsFrom_low {B B' : Nat} {W W' : World} (h : KeepsFrom B W W') (hB : B ≤ B') : KeepsFrom B' W W' := ⟨h.size, fun k o hk => h.same k o (Nat.le_trans hB hk)⟩

theorem wpIn_range_own {g : Operand} {ps : Array Tmp} {assign body : Code} {Q : Exit → Act → World → Prop} {a : Act} {w : World}
    (hro : F.round = none) (h1 : 1 ≤ n) {gf : Nat} {lb : Array Value} (hg : a.eval g = .func (.func gf) #[] lb) (hFg : F.fn gf) (eg : ∀ args w, (callFunc gf args).run P w = .ok (.enter gf args) w)
    {encs : α → Array Value} {Kp : World → World → Prop} {Ok : List α → α → Prop} {S Sp : List α → Prop} (I : List α → World → Prop) (Ix : Code → List α → World → Prop) (Ax : α → Act → World → Prop)
    (hseq : SeqOwn F (n - 1) P gf lb encs Kp Ok I S Sp w)
    (hKt : ∀ {A B C : World}, Kp A B → Kp B C → Kp A C) (hKb : ∀ (W : World) (l : Nat) (o o' : Obj), w.heap.size ≤ l → W.heap[l]? = some o → o.isCells = false → o.isWalk = false → Kp W (W.putObj l o')) (hps : ∀ x, (encs x).size = ps.size)
    (hI : OwnFrom w.heap.size I) (hIx : ∀ c, OwnFrom w.heap.size (Ix c)) (hAx : ∀ x, OwnFrom w.heap.size (Ax x)) (h0 : I [] w)
    (hassign : ∀ (l : Nat) (pre : List α) (x : α) (W : World) (K : Act → World → Prop), Ok pre x → I pre W → (∀ a' W', KeepsFrom w.heap.size W W' → Kp W W' → I pre W' → Ax x a' W' → K a' W') →
      assign.wpIn (F.inRound l) (n - 1 - 1) P (Exit.then K (fun _ _ _ => False)) { tmps := (ps.zip (encs x)).foldl (fun t (p, v) => t.setIfInBounds p v) a.tmps, defers := [] } W)
    (hbody : ∀ (l : Nat) (pre : List α) (x : α) (a' : Act) (W : World), Ok pre x → I pre W → Ax x a' W → body.wpIn (F.inRound l) (n - 1 - 1) P (ownPostG w.heap.size Kp I Ix (pre ++ [x]) W) a' W)
    (hdone : ∀ (D : Nat) (xs : List α) (W : World), w.heap.size ≤ D → S xs → I xs W → W.heap[D]? = some (.deferred (some [])) → Q .normal { a with defers := { target := .collected D, args := #[] } :: a.defers } W)
    (hstop : ∀ (D : Nat) (c : Code) (pre : List α) (W : World), w.heap.size ≤ D → Sp pre → Ix c pre W → W.heap[D]? = some (.deferred (some [])) → c.wpIn F n P Q { a with defers := { target := .collected D, args := #[] } :: a.defers } W) :
    (Code.rangeFunc g ps assign body).wpIn F n P Q a w := by
  refine wpIn_rangeFunc fun fn hfn => ?_
  rw [hro]
  let rc : LoopState → Option Code → Loop := fun st pe => { state := st, pending := pe, fn, tmps := a.tmps, params := ps, assign, body, defers := w.heap.size }
  let W1 : World := (w.alloc (.deferred (some []))).alloc (.loop (rc .ready none))
  have hz : (w.alloc (.deferred (some []))).heap.size = w.heap.size + 1 := by simp
  have hz2 : W1.heap.size = w.heap.size + 2 := by simp [W1]
  have hL : AtLoop w.heap.size (rc .ready none) W1 := ⟨by have := World.alloc_heap_new (w.alloc (.deferred (some []))) (.loop (rc .ready none)); rwa [hz] at this, (Below.heap_alloc _ _ _ (by omega)).trans (World.alloc_heap_new w _)⟩
  have hb : Below w.heap.size w W1 := ((Below.refl _ w).alloc (Nat.le_refl _) _).alloc (by omega) _
  have free : ∀ {A : World} {row : Option Nat}, (∀ r, row = some r → W1.heap.size ≤ r ∧ ∃ o : Obj, A.heap[r]? = some o ∧ o.isCells = false) → ∀ r, row = some r → w.heap.size ≤ r ∧ ∃ o : Obj, A.heap[r]? = some o ∧ o.isCells = false :=
    fun hr r e => ⟨Nat.le_trans hb.size (hr r e).1, (hr r e).2⟩
  refine ⟨w.heap.size + 1, [{ target := .collected w.heap.size, args := #[] }], W1, { target := .fn (.func gf) lb, args := #[.func (.yield (w.heap.size + 1)) #[] #[]] }, W1, gf, #[.func (.yield (w.heap.size + 1)) #[] #[]] ++ lb, W1, run_enterLoop_outer _ _ _ _ _, ?_, ?_, ?_, fun _ => h1, ?_⟩
  · simp only [resolve, hg]; simp [go_sem]
  · intro f' hf'; simp [Target.leads] at hf'; subst hf'; exact hFg
  · simp [invoke, go_sem, eg]
  refine (hseq (w.heap.size + 1) (fun pre W => I pre W ∧ AtLoop w.heap.size (rc .ready none) W) (fun pre W => ∃ c, Ix c pre W ∧ AtLoop w.heap.size (rc .done (some c)) W) W1 hb
    (fun s A B row hs hg' hr => ⟨hI s A B row hs.1 hg' (free hr), hs.2.own (B' := W1.heap.size) (by omega) hg' hr⟩)
    (fun s A B row ⟨c, hc, hl⟩ hg' hr => ⟨c, hIx c s A B row hc hg' (free hr), hl.own (B' := W1.heap.size) (by omega) hg' hr⟩)
    (fun _ _ h => h.1) ?round ⟨hI.alloc _ (hI.alloc _ h0), hL⟩).mono ?after
  case after =>
    rintro e W2 ⟨⟨v, rfl⟩, (⟨xs, hS, hi, hl⟩ | ⟨pre, hSp, c, hi, hl⟩)⟩
    · exact ⟨none, _, run_endLoop (P := P) hl.1 (by simp [rc]), hdone _ xs _ (Nat.le_refl _) hS (hI.putObj _ hi (by omega) hl.1 rfl) hl.put.2⟩
    · exact ⟨some c, _, run_endLoop (P := P) hl.1 (by simp [rc]), hstop _ c pre _ (Nat.le_refl _) hSp ((hIx c).putObj _ hi (by omega) hl.1 rfl) hl.put.2⟩
  case round =>
    rintro pre x W hok ⟨hi, hl⟩
    refine ⟨fn, _, assign, body, run_yield (P := P) hl.1 (hps x), roundIn_of_wpIn hfn (hassign _ pre x W _ hok hi fun a' Wa hka hkpa hia hax => ⟨_, run_beginRound (hl.kept hka).1 rfl, ?_⟩)⟩
    have hla := hl.kept hka
    have hl2 : AtLoop w.heap.size { rc .ready none with state := .busy } _ := hla.put
    have hw2 := hKb Wa (w.heap.size + 1) _ (.loop { rc .ready none with state := .busy }) (by omega) hla.1 rfl rfl
    have kf1 : KeepsFrom W1.heap.size W (Wa.putObj (w.heap.size + 1) (.loop { rc .ready none with state := .busy })) := (keepsFrom_low hka (by omega)).trans (keepsFrom_put (by omega))
    refine wpIn_mono (hbody _ pre x a' _ hok (hI.putObj _ hia (by omega) hla.1 rfl) ((hAx x).putObj _ hax (by omega) hla.1 rfl)) ?_
    -- however the body is left, the record is as it was when the round began
    have leave : ∀ (c : Code) (W3 : World), KeepsFrom w.heap.size (Wa.putObj (w.heap.size + 1) (.loop { rc .ready none with state := .busy })) W3 → Ix c (pre ++ [x]) W3 →
        ∃ v W4, (Instr.endRound (w.heap.size + 1) (some c)).run P W3 = .ok v W4 ∧ v = .bool false ∧ (∃ c, Ix c (pre ++ [x]) W4 ∧ AtLoop w.heap.size (rc .done (some c)) W4) ∧ KeepsFrom W1.heap.size W W4 := fun c W3 hk hx => by
      have hl3 := hl2.kept hk
      exact ⟨_, _, run_endRound (P := P) (some c) hl3.1, rfl, ⟨c, (hIx c).putObj _ hx (by omega) hl3.1 rfl, hl3.put⟩, (kf1.trans (keepsFrom_low hk (by omega))).trans (keepsFrom_put (by omega))⟩
    rintro e a3 W3 hp
    cases e with
    | normal =>
      obtain ⟨hk, hkp, hi3⟩ := hp
      have hl3 := hl2.kept hk
      exact ⟨_, _, run_endRound (P := P) none hl3.1, .inl ⟨rfl, ⟨hI.putObj _ hi3 (by omega) hl3.1 rfl, hl3.put⟩, hKt (hKt (hKt hkpa hw2) hkp) (hKb _ _ _ _ (by omega) hl3.1 rfl rfl), (kf1.trans (keepsFrom_low hk (by omega))).trans (keepsFrom_put (by omega))⟩⟩
    | ret => obtain ⟨v, W4, hr, rfl, h⟩ := leave .ret W3 hp.1 hp.2; exact ⟨_, _, hr, .inr ⟨rfl, h⟩⟩
    | exit id => obtain ⟨v, W4, hr, rfl, h⟩ := leave (.exit id) W3 hp.1 hp.2; exact ⟨_, _, hr, .inr ⟨rfl, h⟩⟩
    | goto t => obtain ⟨v, W4, hr, rfl, h⟩ := leave (.goto t) W3 hp.1 hp.2; exact ⟨_, _, hr, .inr ⟨rfl, h⟩⟩
    | panic ch => exact hp.elim
    | outgrown => exact hp.elim
end
end Go.Proofs.Ytjdhodobfkkoiaa
