/-
  How far modes reach, in plain Lean: the ways of at most so many steps from one of n places, that n - 1 steps are enough, and the rounds in which the shortest one is found. No condition.
  away and Reach of package modes: how many changes are needed. Condition: a list that can be read. (Printed by tools/gen10g.py.)
  Reach of the document of layer 10. Condition: a list that can be read. (Printed by tools/gen10h.py.)
-/
import Derived.Test.YtaooonajfdbfhaaQA
import Derived.Test.YtaooonajfdbfhaaMK
namespace Go.Proofs.Ytaooonajfdbfhaa
open Go.RowKit

/-- One step more. -/
def hopG (n : Nat) (L : Nat → Nat → Bool) (S : Nat → Bool) (j : Nat) : Bool := S j || (List.range n).any fun i => S i && L i j
/-- Is j reached from f in k steps at most? -/
def farG (n : Nat) (L : Nat → Nat → Bool) (f : Nat) : Nat → Nat → Bool
  | 0 => fun j => j == f
  | k + 1 => hopG n L (farG n L f k)
section
variable {n : Nat} {L : Nat → Nat → Bool} {f : Nat}
theorem far_mono1 {k j : Nat} (h : farG n L f k j = true) : farG n L f (k + 1) j = true := by
  show hopG n L (farG n L f k) j = true
  unfold hopG; rw [h]; rfl
theorem far_mono {k k' j : Nat} (hk : k ≤ k') (h : farG n L f k j = true) : farG n L f k' j = true := by
  obtain ⟨d, rfl⟩ : ∃ d, k' = k + d := ⟨k' - k, by omega⟩
  induction d with
  | zero => exact h
  | succ d ih => exact far_mono1 (ih (by omega))
theorem far_step {k i j : Nat} (hi : i < n) (h : farG n L f k i = true) (hl : L i j = true) : farG n L f (k + 1) j = true := by
  show hopG n L (farG n L f k) j = true
  unfold hopG
  rw [Bool.or_eq_true]
  exact .inr (List.any_eq_true.2 ⟨i, List.mem_range.2 hi, by rw [h, hl]; rfl⟩)
theorem far_inv {k j : Nat} (h : farG n L f (k + 1) j = true) : farG n L f k j = true ∨ ∃ i, i < n ∧ farG n L f k i = true ∧ L i j = true := by
  replace h : hopG n L (farG n L f k) j = true := h
  unfold hopG at h
  rw [Bool.or_eq_true] at h
  rcases h with h | h
  · exact .inl h
  · obtain ⟨i, hi, hh⟩ := List.any_eq_true.1 h
    rw [Bool.and_eq_true] at hh
    exact .inr ⟨i, List.mem_range.1 hi, hh.1, hh.2⟩
/-- How many of the first n hold. -/
def cntG (S : Nat → Bool) : Nat → Nat
  | 0 => 0
  | n + 1 => cntG S n + (S n).toNat
theorem cnt_le (S : Nat → Bool) (n : Nat) : cntG S n ≤ n := by
  induction n with
  | zero => exact Nat.le_refl _
  | succ n ih => have := Bool.toNat_le (S n); show cntG S n + (S n).toNat ≤ n + 1; omega
theorem cnt_all {S : Nat → Bool} {n : Nat} (h : n ≤ cntG S n) {j : Nat} (hj : j < n) : S j = true := by
  induction n with
  | zero => omega
  | succ n ih =>
    replace h : n + 1 ≤ cntG S n + (S n).toNat := h
    have h1 := Bool.toNat_le (S n)
    have h2 := cnt_le S n
    rcases Nat.lt_or_ge j n with hj' | hj'
    · exact ih (by omega) hj'
    · obtain rfl : j = n := by omega
      cases hS : S j with
      | true => rfl
      | false => rw [hS] at h; simp at h; omega
theorem cnt_mono {S T : Nat → Bool} (h : ∀ j, S j = true → T j = true) (n : Nat) : cntG S n ≤ cntG T n := by
  induction n with
  | zero => exact Nat.le_refl _
  | succ n ih =>
    show cntG S n + (S n).toNat ≤ cntG T n + (T n).toNat
    have : (S n).toNat ≤ (T n).toNat := by
      cases hS : S n with
      | false => simp
      | true => rw [h n hS]; exact Nat.le_refl _
    omega
theorem cnt_lt {S T : Nat → Bool} (h : ∀ j, S j = true → T j = true) {n j : Nat} (hj : j < n) (h0 : S j = false) (h1 : T j = true) : cntG S n < cntG T n := by
  induction n with
  | zero => omega
  | succ n ih =>
    show cntG S n + (S n).toNat < cntG T n + (T n).toNat
    rcases Nat.lt_or_ge j n with hj' | hj'
    · have := ih hj'
      have : (S n).toNat ≤ (T n).toNat := by
        cases hS : S n with
        | false => simp
        | true => rw [h n hS]; exact Nat.le_refl _
      omega
    · obtain rfl : j = n := by omega
      have := cnt_mono h j
      rw [h0, h1]
      simp; omega
theorem cnt_pos {S : Nat → Bool} {n j : Nat} (hj : j < n) (h : S j = true) : 1 ≤ cntG S n := by
  have h0 : cntG (fun _ => false) n = 0 := by
    clear hj
    induction n with
    | zero => rfl
    | succ n ih => show cntG _ n + 0 = 0; rw [ih]
  have := cnt_lt (S := fun _ => false) (T := S) (fun _ hh => by cases hh) hj rfl h
  omega
/-- Behind k steps nothing new is reached. -/
def Still (n : Nat) (L : Nat → Nat → Bool) (f k : Nat) : Prop := ∀ j, j < n → farG n L f (k + 1) j = true → farG n L f k j = true
theorem still_on {k : Nat} (h : Still n L f k) (d : Nat) : ∀ j, j < n → farG n L f (k + d) j = true → farG n L f k j = true := by
  induction d with
  | zero => exact fun j _ hh => hh
  | succ d ih =>
    intro j hj hh
    rcases far_inv (k := k + d) hh with h1 | ⟨i, hi, h1, h2⟩
    · exact ih j hj h1
    · exact h j hj (far_step hi (ih i hi h1) h2)
theorem still_or (hf : f < n) (k : Nat) : (∃ k', k' ≤ k ∧ Still n L f k') ∨ k + 1 ≤ cntG (farG n L f k) n := by
  induction k with
  | zero => exact .inr (cnt_pos hf (by simp [farG]))
  | succ k ih =>
    rcases ih with ⟨k', h1, h2⟩ | h
    · exact .inl ⟨k', by omega, h2⟩
    · by_cases hs : Still n L f k
      · exact .inl ⟨k, by omega, hs⟩
      · refine .inr ?_
        unfold Still at hs
        obtain ⟨j, hj⟩ := Classical.not_forall.1 hs
        obtain ⟨hj1, hj2⟩ := Classical.not_imp.1 hj
        obtain ⟨hj3, hj4⟩ := Classical.not_imp.1 hj2
        have := cnt_lt (S := farG n L f k) (T := farG n L f (k + 1)) (fun j h => far_mono1 h) hj1 (by simpa using hj4) hj3
        omega
/-- n - 1 steps are enough. -/
theorem far_few (hf : f < n) {k j : Nat} (hj : j < n) (h : farG n L f k j = true) : farG n L f (min k (n - 1)) j = true := by
  rcases Nat.le_total k (n - 1) with hk | hk
  · rwa [Nat.min_eq_left hk]
  · rw [Nat.min_eq_right hk]
    rcases still_or (L := L) hf (n - 1) with ⟨k', h1, h2⟩ | h1
    · obtain ⟨d, rfl⟩ : ∃ d, k = k' + d := ⟨k - k', by omega⟩
      exact far_mono h1 (still_on h2 d j hj h)
    · exact cnt_all (by omega) hj

/-- What the search has found: in round r, at place i, with all below j done. -/
structure BF (n : Nat) (L : Nat → Nat → Bool) (f r i j : Nat) (d : Nat → Int) : Prop where
  rg : ∀ x, 0 ≤ d x ∧ d x ≤ 4
  sound : ∀ x, x < n → d x ≤ 3 → farG n L f (d x).toNat x = true
  c0 : ∀ k x, k ≤ r → x < n → farG n L f k x = true → d x ≤ (k : Int)
  c1 : ∀ i' x, i' < n → x < n → (i' < i ∨ (i' = i ∧ x < j)) → farG n L f r i' = true → L i' x = true → d x ≤ (r : Int) + 1
theorem BF.start : BF n L f 0 0 0 (fun x => if x = f then 0 else 4) := by
  refine ⟨fun x => ?_, fun x _ h => ?_, fun k x hk _ h => ?_, fun i' x _ _ h => by omega⟩
  · split <;> omega
  · by_cases hx : x = f
    · rw [if_pos hx]; subst hx; simp [farG]
    · rw [if_neg hx] at h; omega
  · obtain rfl : k = 0 := by omega
    have : x = f := by simpa [farG] using h
    rw [if_pos this]; exact Int.le_refl _
theorem BF.skip {r i j : Nat} {d : Nat → Int} (h : BF n L f r i j d) (hl : L i j = false) : BF n L f r i (j + 1) d := by
  refine ⟨h.rg, h.sound, h.c0, fun i' x hi hx hor h1 h2 => ?_⟩
  rcases hor with hor | ⟨rfl, hor⟩
  · exact h.c1 i' x hi hx (.inl hor) h1 h2
  · rcases Nat.lt_or_ge x j with hxj | hxj
    · exact h.c1 i' x hi hx (.inr ⟨rfl, hxj⟩) h1 h2
    · obtain rfl : x = j := by omega
      rw [hl] at h2; cases h2
theorem BF.relax {r i j : Nat} {d : Nat → Int} (h : BF n L f r i j d) (hi : i < n) (_hj : j < n) (hl : L i j = true) {y : Int} (hy : y = min (d j) (d i + 1)) : BF n L f r i (j + 1) (fun x => if x = j then y else d x) := by
  have hle : ∀ x, (if x = j then y else d x) ≤ d x := by
    intro x
    by_cases hx : x = j
    · rw [if_pos hx, hx]; omega
    · rw [if_neg hx]; exact Int.le_refl _
  have hri := h.rg i
  refine ⟨fun x => ?_, fun x hx h3 => ?_, fun k x hk hx h1 => Int.le_trans (hle x) (h.c0 k x hk hx h1), fun i' x hi' hx hor h1 h2 => ?_⟩
  · have := h.rg x
    have := h.rg j
    split <;> omega
  · by_cases hxj : x = j
    · subst hxj
      rw [if_pos rfl] at h3 ⊢
      rcases Int.le_total (d x) (d i + 1) with hm | hm
      · have e : y = d x := by omega
        rw [e] at h3 ⊢
        exact h.sound x hx h3
      · have e : y = d i + 1 := by omega
        rw [e] at h3 ⊢
        rw [show (d i + 1).toNat = (d i).toNat + 1 by omega]
        exact far_step hi (h.sound i hi (by omega)) hl
    · rw [if_neg hxj] at h3 ⊢
      exact h.sound x hx h3
  · rcases hor with hor | ⟨rfl, hor⟩
    · exact Int.le_trans (hle x) (h.c1 i' x hi' hx (.inl hor) h1 h2)
    · rcases Nat.lt_or_ge x j with hxj | hxj
      · exact Int.le_trans (hle x) (h.c1 i' x hi' hx (.inr ⟨rfl, hxj⟩) h1 h2)
      · obtain rfl : x = j := by omega
        rw [if_pos rfl]
        have := h.c0 r i' (Nat.le_refl _) hi h1
        omega
theorem BF.nextI {r i : Nat} {d : Nat → Int} (h : BF n L f r i n d) : BF n L f r (i + 1) 0 d :=
  ⟨h.rg, h.sound, h.c0, fun i' x hi hx hor h1 h2 => h.c1 i' x hi hx (by omega) h1 h2⟩
theorem BF.nextR {r : Nat} {d : Nat → Int} (h : BF n L f r n 0 d) : BF n L f (r + 1) 0 0 d := by
  refine ⟨h.rg, h.sound, fun k x hk hx h1 => ?_, fun i' x _ _ hor => by omega⟩
  rcases Nat.lt_or_ge r k with hk' | hk'
  · obtain rfl : k = r + 1 := by omega
    rcases far_inv h1 with h2 | ⟨i, hi, h2, h3⟩
    · have := h.c0 r x (Nat.le_refl _) hx h2; omega
    · have := h.c1 i x hi hx (.inl hi) h2 h3; omega
  · exact h.c0 k x hk' hx h1
theorem BF.done {d : Nat → Int} (h : BF n L f (n - 1) 0 0 d) (hf : f < n) (hn : n ≤ 4) {t : Nat} (ht : t < n) {ch : Int} (hc : 0 ≤ ch) {b : Int} (hb : b = min ch 3) : decide (d t ≤ b) = farG n L f (min ch.toNat n) t := by
  have hr := h.rg t
  cases hF : farG n L f (min ch.toNat n) t with
  | true =>
    have h1 := far_few hf ht hF
    have h2 := h.c0 _ t (Nat.min_le_right _ _) ht h1
    rw [decide_eq_true_iff]
    omega
  | false =>
    rw [decide_eq_false_iff_not]
    intro hle
    have h1 := far_few hf ht (h.sound t ht (by omega))
    have h2 := far_mono (k' := min ch.toNat n) (by omega) h1
    rw [hF] at h2
    cases h2
end
/-- Is a mode reached, by the document? -/
def reachM (m : ML) (f t : Int) (k : Nat) : Bool := farG m.ms.length (letS m) f.toNat k t.toNat
def reachS (m : ML) (f t ch : Int) : Int × Bool :=
  if checkM m = 0 then (if (f < 0 ∨ (m.ms.length : Int) ≤ f) ∨ (t < 0 ∨ (m.ms.length : Int) ≤ t) ∨ ch < 0 then (2, false) else (0, reachM m f t (min ch.toNat m.ms.length))) else (checkM m, false)
end Go.Proofs.Ytaooonajfdbfhaa

namespace Go.Proofs.Ytaooonajfdbfhaa
open Go.RowKit

abbrev i4 (d : Nat → Int) : Array Value := #[.int .i64 (d 0), .int .i64 (d 1), .int .i64 (d 2), .int .i64 (d 3)]
theorem i4_at (d : Nat → Int) {k : Nat} (h : k < 4) : (i4 d)[k]? = some (.int .i64 (d k)) := by
  obtain rfl | rfl | rfl | rfl : k = 0 ∨ k = 1 ∨ k = 2 ∨ k = 3 := by omega
  all_goals rfl
def updD (d : Nat → Int) (j : Nat) (y : Int) : Nat → Int := fun x => if x = j then y else d x
theorem i4_set (d : Nat → Int) {j : Nat} (h : j < 4) (y : Int) : (i4 d).setIfInBounds j (.int .i64 y) = i4 (updD d j y) := by
  obtain rfl | rfl | rfl | rfl : j = 0 ∨ j = 1 ∨ j = 2 ∨ j = 3 := by omega
  all_goals simp [i4, updD]
theorem Blk.puti4 {w : World} {g : Nat} {t : TypeId} {d : Nat → Int} (h : Blk w g t (i4 d)) {j : Nat} (hj : j < 4) (y : Int) : Blk (w.setCell ⟨g, j, none⟩ (.int .i64 y)) g t (i4 (updD d j y)) := by
  rw [← i4_set d hj y]; exact h.set_ j _
/-- The array as it is filled. -/
def fillD (k : Nat) : Nat → Int := fun x => if x < k then 4 else 0
theorem fill_more (k : Nat) : updD (fillD k) k 4 = fillD (k + 1) := by
  funext x
  unfold updD fillD
  by_cases h : x = k
  · rw [if_pos h, if_pos (by omega)]
  · rw [if_neg h]
    by_cases h2 : x < k
    · rw [if_pos h2, if_pos (by omega)]
    · rw [if_neg h2, if_neg (by omega)]
theorem fill_start (f : Nat) : i4 (updD (fillD 4) f 0) = i4 (fun x => if x = f then 0 else 4) := by
  unfold i4 updD fillD
  simp
/-- The Nexts of a list's modes, in memory. -/
def NextsAt (w : World) (A : Option Addr) (n : Nat) (L : Nat → Nat → Bool) : Prop :=
  ∃ b off, A = some ⟨b, off, none⟩ ∧ b < w.heap.size ∧ ∀ i, i < n → ∃ (A0 : Option Addr) (n0 c0 : Nat) (A1 : Option Addr) (n1 c1 b' off' cn : Nat),
    w.cell? ⟨b, off + i * 3, none⟩ = some (.slice A0 n0 c0) ∧ w.cell? ⟨b, off + i * 3 + 1, none⟩ = some (.slice A1 n1 c1) ∧ w.cell? ⟨b, off + i * 3 + 2, none⟩ = some (.slice (some ⟨b', off', none⟩) n cn) ∧
    b' < w.heap.size ∧ ∀ j, j < n → w.cell? ⟨b', off' + j, none⟩ = some (.bool (L i j))
theorem nexts_at {m : ML} {c s : Slc} {w : World} (hok : okM m) (hM : Med w m c s) : NextsAt w s.A m.ms.length (letS m) := by
  have h1 := hok.2.1.1
  obtain ⟨b, off, e1, hb, hc⟩ := hM.sb (by intro h; rw [h] at h1; simp at h1)
  refine ⟨b, off, e1, hb, fun i hi => ?_⟩
  obtain ⟨o, ho⟩ : ∃ o, m.ms[i]? = some o := ⟨m.ms[i], List.getElem?_eq_getElem hi⟩
  obtain ⟨v, h0, h1, h2, hv⟩ := hc i o ho
  have hon := (okM_mode hok (List.mem_of_getElem? ho)).2.2.1
  obtain ⟨b', off', e2, hb', hc'⟩ := hv.n (by intro h; rw [h] at hon; simp at hon; omega)
  refine ⟨_, _, _, _, _, _, b', off', v.n.c, h0, h1, ?_, hb', fun j hj => ?_⟩
  · rw [h2, e2, hv.nn, hon]
  · rw [hc' j (by omega)]; unfold letS; rw [ho]; rfl

set_option maxRecDepth 100000 in
set_option maxHeartbeats 4000000 in
theorem away_any (m : ML) (c s : Slc) (f : Nat) (w : World) (hM : Med w m c s) (hok : checkM m = 0) (hf : f < m.ms.length) : Calls Try.prog 25 #[vM m c s, .int .i64 (f : Int)] w fun e w' => ∃ d : Nat → Int, BF m.ms.length (letS m) f (m.ms.length - 1) 0 0 d ∧ e = .returned (.agg (i4 d)) ∧ Below w.heap.size w w' := by
  have hN := nexts_at (checkM_ok hok) hM
  have hsn := hM.sn
  have hl4 := (checkM_ok hok).2.1
  rw [← hsn] at hN hl4 hf ⊢
  clear hM hok hsn
  generalize letS m = lt at *
  obtain ⟨N, S, G, W, D, L, cold, ms⟩ := m
  obtain ⟨Ac, nc, cc⟩ := c
  obtain ⟨As, ns, cs⟩ := s
  dsimp only [vM] at *
  obtain ⟨b, off, e1, hb, hN⟩ := hN
  subst e1
  have HN := Lib.hid hN; clear hN
  obtain ⟨kb, kr, ka, bc⟩ := bx3 w #[.int .i64 N, .int .i64 S, .int .i64 G, .int .i64 W, .int .i64 D, .int .i64 L, .slice Ac nc cc, .slice (some ⟨b, off, none⟩) ns cs] #[.int .i64 0, .int .i64 0, .int .i64 0, .int .i64 0] #[.int .i64 0, .int .i64 0, .int .i64 0, .int .i64 0] 25 50 50
  go_enter Try.func25, Try.ntmps25
  go_wp2_with fail
  generalize ((w.alloc (.cells #[.int .i64 N, .int .i64 S, .int .i64 G, .int .i64 W, .int .i64 D, .int .i64 L, .slice Ac nc cc, .slice (some ⟨b, off, none⟩) ns cs] 25)).alloc (.cells #[.int .i64 0, .int .i64 0, .int .i64 0, .int .i64 0] 50)).alloc (.cells #[.int .i64 0, .int .i64 0, .int .i64 0, .int .i64 0] 50) = u1 at *
  go_loopw [11] (fun i wr => ∃ k : Nat, k ≤ 4 ∧ i = .int .i64 k ∧ Blk wr (w.heap.size + 1 + 1) 50 (i4 (fillD k)) ∧ Blk wr w.heap.size 25 #[.int .i64 N, .int .i64 S, .int .i64 G, .int .i64 W, .int .i64 D, .int .i64 L, .slice Ac nc cc, .slice (some ⟨b, off, none⟩) ns cs] ∧ Blk wr (w.heap.size + 1) 50 #[.int .i64 0, .int .i64 0, .int .i64 0, .int .i64 0] ∧ Below w.heap.size w wr)
    (fun i _ => 4 - (intOf i).toNat)
  case atStart => exact ⟨0, by omega, rfl, ka, kb, kr, bc⟩
  case round =>
    clear kb kr ka bc
    obtain ⟨k, hk, rfl, ka, kb, kr, bc⟩ := hrel
    by_cases hlt : k < 4
    · have q0 := ka.cell k
      rw [i4_at _ hlt] at q0
      have q1 := ka.frozen k
      have q2 := ka.puti4 hlt 4
      rw [fill_more] at q2
      have q3 := kb.far (p := ⟨w.heap.size + 1 + 1, k, none⟩) (by dsimp only; omega) (.int .i64 4)
      have q4 := kr.far (p := ⟨w.heap.size + 1 + 1, k, none⟩) (by dsimp only; omega) (.int .i64 4)
      have q5 := bc.setCell (p := ⟨w.heap.size + 1 + 1, k, none⟩) (by dsimp only; omega) (.int .i64 4)
      have hk0 : (k : Int) < 4 := by omega
      have Q2 := Lib.hid q2; have Q3 := Lib.hid q3; have Q4 := Lib.hid q4; have Q5 := Lib.hid q5; clear q2 q3 q4 q5 ka kb kr bc
      go_wp2
      go_roundw
      case rel => exact ⟨k + 1, by omega, by go_num, Q2.out, Q3.out, Q4.out, Q5.out⟩
      case measure => simp [intOf]; omega
    · obtain rfl : k = 4 := by omega
      have hf4 : f < 4 := by omega
      have q0 := ka.cell f
      rw [i4_at _ hf4] at q0
      have q1 := ka.frozen f
      have ka2 := ka.puti4 hf4 0
      rw [fill_start] at ka2
      have kb2 := kb.far (p := ⟨w.heap.size + 1 + 1, f, none⟩) (by dsimp only; omega) (.int .i64 0)
      have kr2 := kr.far (p := ⟨w.heap.size + 1 + 1, f, none⟩) (by dsimp only; omega) (.int .i64 0)
      have bc2 := bc.setCell (p := ⟨w.heap.size + 1 + 1, f, none⟩) (by dsimp only; omega) (.int .i64 0)
      have hf0 : (f : Int) < 4 := by omega
      have hwn : IntKind.i64.wrap ((ns : Int) - 1) = (ns : Int) - 1 := IntWalk.i64_in _ (by omega)
      obtain ⟨p0, p1, p2, p3, p4, p5, p6, p7⟩ := kb.eight
      have KA := Lib.hid ka2; have KB := Lib.hid kb2; have KR := Lib.hid kr2; have BC := Lib.hid bc2; clear ka2 kb2 kr2 bc2 ka kb kr bc
      go_wp2_with fail
      clear p0 p1 p2 p3 p4 p5 p6 p7 q0 q1
      have ka := KA.out; have kb := KB.out; have kr := KR.out; have bc := BC.out; clear KA KB KR BC
      generalize wr.setCell ⟨w.heap.size + 1 + 1, f, none⟩ (.int .i64 0) = u2 at *
      clear u1 wr
      have hst := BF.start (n := ns) (L := lt) (f := f)
      go_loopw [23] (fun i wr => ∃ r : Nat, r ≤ ns - 1 ∧ i = .int .i64 r ∧ ∃ d : Nat → Int, BF ns lt f r 0 0 d ∧ Blk wr (w.heap.size + 1 + 1) 50 (i4 d) ∧ Blk wr w.heap.size 25 #[.int .i64 N, .int .i64 S, .int .i64 G, .int .i64 W, .int .i64 D, .int .i64 L, .slice Ac nc cc, .slice (some ⟨b, off, none⟩) ns cs] ∧ Blk wr (w.heap.size + 1) 50 #[.int .i64 0, .int .i64 0, .int .i64 0, .int .i64 0] ∧ Below w.heap.size w wr)
        (fun i _ => (ns - 1) - (intOf i).toNat)
      case atStart => exact ⟨0, by omega, rfl, _, hst, ka, kb, kr, bc⟩
      case round =>
        clear ka kb kr bc hst
        obtain ⟨r, hr, rfl, d, hBF, ka, kb, kr, bc⟩ := hrel
        by_cases hlr : r < ns - 1
        · have hlr2 : (r : Int) < (ns : Int) - 1 := by omega
          obtain ⟨p0, p1, p2, p3, p4, p5, p6, p7⟩ := kb.eight
          have HB := Lib.hid hBF; clear hBF
          go_wp2_with fail
          clear p0 p1 p2 p3 p4 p5 p6 p7
          obtain ⟨wo, hwo⟩ : ∃ x, x = wr := ⟨_, rfl⟩
          subst hwo
          go_loopw [28] (fun i wr => ∃ k : Nat, k ≤ ns ∧ i = .int .i64 k ∧ ∃ d : Nat → Int, BF ns lt f r k 0 d ∧ Blk wr (w.heap.size + 1 + 1) 50 (i4 d) ∧ Blk wr w.heap.size 25 #[.int .i64 N, .int .i64 S, .int .i64 G, .int .i64 W, .int .i64 D, .int .i64 L, .slice Ac nc cc, .slice (some ⟨b, off, none⟩) ns cs] ∧ Blk wr (w.heap.size + 1) 50 #[.int .i64 0, .int .i64 0, .int .i64 0, .int .i64 0] ∧ Below w.heap.size w wr)
            (fun i _ => ns - (intOf i).toNat)
          case atStart => exact ⟨0, by omega, rfl, d, HB.out, ka, kb, kr, bc⟩
          case round =>
            clear ka kb kr bc HB d
            obtain ⟨k, hk, rfl, d, hBF, ka, kb, kr, bc⟩ := hrel
            by_cases hlk : k < ns
            · have hlk2 : (k : Int) < (ns : Int) := by omega
              obtain ⟨A0, n0, c0, A1, n1, c1, b', off', cn, k0, k1, k2, hb', hcell⟩ := HN.out k hlk
              have m0 := (bc.cell (p := ⟨b, off + k * 3, none⟩) hb).trans k0
              have m1 := (bc.cell (p := ⟨b, off + k * 3 + 1, none⟩) hb).trans k1
              have m2 := (bc.cell (p := ⟨b, off + k * 3 + 2, none⟩) hb).trans k2
              have hmw := bc.size
              have al := Below.al wr (.cells #[.slice A0 n0 c0, .slice A1 n1 c1, .slice (some ⟨b', off', none⟩) ns cn] 53)
              replace ka := ka.on al; replace kb := kb.on al; replace kr := kr.on al; replace bc := bc.trans (al.mono bc.size); clear al
              have HB := Lib.hid hBF; have HC := Lib.hid hcell; clear hBF k0 k1 k2 hcell
              have KA := Lib.hid ka; have KB := Lib.hid kb; have KR := Lib.hid kr; have BC := Lib.hid bc; clear ka kb kr bc
              go_wp2_with fail
              clear m0 m1 m2
              have ka := KA.out; have kb := KB.out; have kr := KR.out; have bc := BC.out; clear KA KB KR BC
              generalize wr.alloc (.cells #[.slice A0 n0 c0, .slice A1 n1 c1, .slice (some ⟨b', off', none⟩) ns cn] 53) = u3 at *
              generalize wr.heap.size = g8 at *
              clear hmw
              clear wr
              go_loopw [36] (fun i wr => ∃ j : Nat, j ≤ ns ∧ i = .int .i64 j ∧ ∃ d : Nat → Int, BF ns lt f r k j d ∧ Blk wr (w.heap.size + 1 + 1) 50 (i4 d) ∧ Blk wr w.heap.size 25 #[.int .i64 N, .int .i64 S, .int .i64 G, .int .i64 W, .int .i64 D, .int .i64 L, .slice Ac nc cc, .slice (some ⟨b, off, none⟩) ns cs] ∧ Blk wr (w.heap.size + 1) 50 #[.int .i64 0, .int .i64 0, .int .i64 0, .int .i64 0] ∧ Below w.heap.size w wr)
                (fun i _ => ns - (intOf i).toNat)
              case atStart => exact ⟨0, by omega, rfl, d, HB.out, ka, kb, kr, bc⟩
              case round =>
                clear ka kb kr bc HB d
                obtain ⟨j, hj, rfl, d, hBF, ka, kb, kr, bc⟩ := hrel
                by_cases hlj : j < ns
                · have hlj2 : (j : Int) < (ns : Int) := by omega
                  have n3 := (bc.cell (p := ⟨b', off' + j, none⟩) hb').trans (HC.out j hlj)
                  cases hl : lt k j with
                  | false =>
                    rw [hl] at n3
                    have hBF2 := hBF.skip hl
                    have HB := Lib.hid hBF2; have KA := Lib.hid ka; have KB := Lib.hid kb; have KR := Lib.hid kr; have BC := Lib.hid bc; clear hBF hBF2 ka kb kr bc hl
                    go_wp2
                    go_roundw
                    case rel => exact ⟨j + 1, by omega, by go_num, d, HB.out, KA.out, KB.out, KR.out, BC.out⟩
                    case measure => simp [intOf]; omega
                  | true =>
                    rw [hl] at n3
                    have hj4 : j < 4 := by omega
                    have hk4 : k < 4 := by omega
                    have hj5 : (j : Int) < 4 := by omega
                    have hk5 : (k : Int) < 4 := by omega
                    have q0 := ka.cell j
                    rw [i4_at _ hj4] at q0
                    have q2 := ka.cell k
                    rw [i4_at _ hk4] at q2
                    have q1 := ka.frozen j
                    have rgj := hBF.rg j
                    have rgk := hBF.rg k
                    have hdr : Below wr.heap.size wr wr.drew := (Below.refl _ _).drew
                    obtain ⟨x, hx⟩ : ∃ x, x = d j := ⟨_, rfl⟩
                    obtain ⟨y, hy⟩ : ∃ y, y = d k := ⟨_, rfl⟩
                    rw [← hx] at q0 rgj
                    rw [← hy] at q2 rgk
                    have hwy : IntKind.i64.wrap (y + 1) = y + 1 := IntWalk.i64_in _ (by omega)
                    have hBF2 := hBF.relax hlk hlj hl (y := (if y + 1 < x then y + 1 else x)) (by rw [← hx, ← hy]; split <;> omega)
                    have hdr : Below (wr.setCell ⟨w.heap.size + 1 + 1, j, none⟩ (.int .i64 (if y + 1 < x then y + 1 else x))).heap.size (wr.setCell ⟨w.heap.size + 1 + 1, j, none⟩ (.int .i64 (if y + 1 < x then y + 1 else x))) (wr.setCell ⟨w.heap.size + 1 + 1, j, none⟩ (.int .i64 (if y + 1 < x then y + 1 else x))).drew := (Below.refl _ _).drew
                    have u0 := (ka.puti4 hj4 (if y + 1 < x then y + 1 else x)).on hdr
                    have u1 := (kb.far (p := ⟨w.heap.size + 1 + 1, j, none⟩) (by dsimp only; omega) (.int .i64 (if y + 1 < x then y + 1 else x))).on hdr
                    have u2 := (kr.far (p := ⟨w.heap.size + 1 + 1, j, none⟩) (by dsimp only; omega) (.int .i64 (if y + 1 < x then y + 1 else x))).on hdr
                    have u3 := (bc.setCell (p := ⟨w.heap.size + 1 + 1, j, none⟩) (by dsimp only; omega) (.int .i64 (if y + 1 < x then y + 1 else x))).drew
                    have HB := Lib.hid hBF2; have KA := Lib.hid u0; have KB := Lib.hid u1; have KR := Lib.hid u2; have BC := Lib.hid u3; clear hBF hBF2 u0 u1 u2 u3 ka kb kr bc hdr hx hy hl rgj rgk
                    go_wp2_with fail
                    go_region
                    go_wp2
                    go_roundw
                    case rel => exact ⟨j + 1, by omega, by go_num, _, HB.out, KA.out, KB.out, KR.out, BC.out⟩
                    case measure => simp [intOf]; omega
                · obtain rfl : j = ns := by omega
                  have hBF2 := hBF.nextI
                  have HB := Lib.hid hBF2; clear hBF hBF2
                  have KA := Lib.hid ka; have KB := Lib.hid kb; have KR := Lib.hid kr; have BC := Lib.hid bc; clear ka kb kr bc
                  go_wp2
                  go_roundw
                  case rel => exact ⟨k + 1, by omega, by go_num, d, HB.out, KA.out, KB.out, KR.out, BC.out⟩
                  case measure => simp [intOf]; omega
            · obtain rfl : k = ns := by omega
              have hBF2 := hBF.nextR
              have HB := Lib.hid hBF2; clear hBF hBF2
              have KA := Lib.hid ka; have KB := Lib.hid kb; have KR := Lib.hid kr; have BC := Lib.hid bc; clear ka kb kr bc
              go_wp2
              go_roundw
              case rel => exact ⟨r + 1, by omega, by go_num, d, HB.out, KA.out, KB.out, KR.out, BC.out⟩
              case measure => simp [intOf]; omega
        · obtain rfl : r = ns - 1 := by omega
          have hlr2 : ¬ (((ns - 1 : Nat) : Int) < (ns : Int) - 1) := by omega
          obtain ⟨a0, a1, a2, a3⟩ := ka.four
          obtain ⟨r0, r1, r2, r3⟩ := kr.four
          obtain ⟨g0, g1, g2, g3⟩ := kr.fourF
          have HB := Lib.hid hBF; clear hBF
          have BC := Lib.hid bc; clear bc kb
          go_wp2
          exact bodyPost_ret (v := .agg (i4 d)) (by simp [results, Try.results25, go_sem, r0, r1, r2, r3]) rfl ⟨d, HB.out, rfl, by have bc := BC.out; repeat (first | refine Below.setCell ?_ (by dsimp only; omega) _ | exact bc)⟩
/-- What Reach answers. -/
def ResT (w : World) (r : Int × Bool) (e : Ending) (w' : World) : Prop := e = .returned (.tuple #[.bool r.2, .int .i64 r.1]) ∧ Below w.heap.size w w'
theorem run_index_i4 (d : Nat → Int) {k : Nat} (h : k < 4) (w : World) : (Instr.index 50 (.agg (i4 d)) (.int .i64 (k : Int))).run Try.prog w = .ok (.int .i64 (d k)) w := by
  obtain rfl | rfl | rfl | rfl : k = 0 ∨ k = 1 ∨ k = 2 ∨ k = 3 := by omega
  all_goals (simp only [Int.cast_ofNat_Int]; kernel_rfl)
theorem reach_out {m : ML} {f t ch : Int} (h : ¬ checkM m = 0) : reachS m f t ch = (checkM m, false) := if_neg h
theorem reach_bad {m : ML} {f t ch : Int} (h : checkM m = 0) (h1 : (f < 0 ∨ (m.ms.length : Int) ≤ f) ∨ (t < 0 ∨ (m.ms.length : Int) ≤ t) ∨ ch < 0) : reachS m f t ch = (2, false) := by unfold reachS; rw [if_pos h, if_pos h1]
theorem reach_in {m : ML} {f t ch : Int} (h : checkM m = 0) (h1 : ¬ ((f < 0 ∨ (m.ms.length : Int) ≤ f) ∨ (t < 0 ∨ (m.ms.length : Int) ≤ t) ∨ ch < 0)) : reachS m f t ch = (0, reachM m f t (min ch.toNat m.ms.length)) := by unfold reachS; rw [if_pos h, if_neg h1]

set_option maxRecDepth 100000 in
set_option maxHeartbeats 4000000 in
theorem reach_any (m : ML) (c s : Slc) (f t ch : Int) (w : World) (hM : Med w m c s) : Calls Try.prog 11 #[vM m c s, .int .i64 f, .int .i64 t, .int .i64 ch] w (ResT w (reachS m f t ch)) := by
  have h1 := fun U (h : Below w.heap.size w U) => mcheck_any m c s U (hM.on h)
  have h2 := fun U (h : Below w.heap.size w U) => isMode_any m c s f U (hM.on h)
  have h3 := fun U (h : Below w.heap.size w U) => isMode_any m c s t U (hM.on h)
  by_cases c1 : checkM m = 0
  rotate_left
  · rw [reach_out c1]
    have d1 := neqz c1
    generalize checkM m = er at *
    clear c1 h2 h3 hM
    have H1 := Lib.hid h1; clear h1
    obtain ⟨N, S, G, W, D, L, cold, ms⟩ := m
    obtain ⟨Ac, nc, cc⟩ := c
    obtain ⟨As, ns, cs⟩ := s
    dsimp only [vM] at *
    obtain ⟨kb, bc⟩ := bx1 w #[.int .i64 N, .int .i64 S, .int .i64 G, .int .i64 W, .int .i64 D, .int .i64 L, .slice Ac nc cc, .slice As ns cs] 25
    go_enter Try.func11, Try.ntmps11
    go_wp2_with (first
      | (go_at_call 24; with_reducible refine (H1.out _ bc).mono ?_; rintro e w1 ⟨rfl, hC⟩; dsimp only; replace kb := kb.on hC; replace bc := bc.trans (hC.mono bc.size); clear hC; (try clear pkb0 pkb1 pkb2 pkb3 pkb4 pkb5 pkb6 pkb7); obtain ⟨pkb0, pkb1, pkb2, pkb3, pkb4, pkb5, pkb6, pkb7⟩ := kb.eight))
    go_ret2
    exact ⟨rfl, bc⟩
  by_cases c2 : f < 0 ∨ (m.ms.length : Int) ≤ f
  · rw [reach_bad c1 (.inl c2)]
    rw [c1] at h1
    rw [decide_eq_false (show ¬ (0 ≤ f ∧ f < (m.ms.length : Int)) by omega)] at h2
    clear c1 c2 h3 hM
    have H1 := Lib.hid h1; have H2 := Lib.hid h2; clear h1 h2
    obtain ⟨N, S, G, W, D, L, cold, ms⟩ := m
    obtain ⟨Ac, nc, cc⟩ := c
    obtain ⟨As, ns, cs⟩ := s
    dsimp only [vM] at *
    obtain ⟨kb, bc⟩ := bx1 w #[.int .i64 N, .int .i64 S, .int .i64 G, .int .i64 W, .int .i64 D, .int .i64 L, .slice Ac nc cc, .slice As ns cs] 25
    go_enter Try.func11, Try.ntmps11
    go_wp2_with (first
      | (go_at_call 24; with_reducible refine (H1.out _ bc).mono ?_; rintro e w1 ⟨rfl, hC⟩; dsimp only; replace kb := kb.on hC; replace bc := bc.trans (hC.mono bc.size); clear hC; (try clear pkb0 pkb1 pkb2 pkb3 pkb4 pkb5 pkb6 pkb7); obtain ⟨pkb0, pkb1, pkb2, pkb3, pkb4, pkb5, pkb6, pkb7⟩ := kb.eight)
      | (go_at_call 22; with_reducible refine (H2.out _ bc).mono ?_; rintro e w1 ⟨rfl, hC⟩; dsimp only; replace kb := kb.on hC; replace bc := bc.trans (hC.mono bc.size); clear hC; (try clear pkb0 pkb1 pkb2 pkb3 pkb4 pkb5 pkb6 pkb7); obtain ⟨pkb0, pkb1, pkb2, pkb3, pkb4, pkb5, pkb6, pkb7⟩ := kb.eight))
    go_ret2
    exact ⟨rfl, bc⟩
  rw [decide_eq_true (show 0 ≤ f ∧ f < (m.ms.length : Int) by omega)] at h2
  by_cases c3 : t < 0 ∨ (m.ms.length : Int) ≤ t
  · rw [reach_bad c1 (.inr (.inl c3))]
    rw [c1] at h1
    rw [decide_eq_false (show ¬ (0 ≤ t ∧ t < (m.ms.length : Int)) by omega)] at h3
    have hne : f ≠ t := by omega
    clear c1 c2 c3 hM
    have H1 := Lib.hid h1; have H2 := Lib.hid h2; have H3 := Lib.hid h3; clear h1 h2 h3
    obtain ⟨N, S, G, W, D, L, cold, ms⟩ := m
    obtain ⟨Ac, nc, cc⟩ := c
    obtain ⟨As, ns, cs⟩ := s
    dsimp only [vM] at *
    obtain ⟨kb, bc⟩ := bx1 w #[.int .i64 N, .int .i64 S, .int .i64 G, .int .i64 W, .int .i64 D, .int .i64 L, .slice Ac nc cc, .slice As ns cs] 25
    go_enter Try.func11, Try.ntmps11
    go_wp2_with (first
      | (go_at_call 24; with_reducible refine (H1.out _ bc).mono ?_; rintro e w1 ⟨rfl, hC⟩; dsimp only; replace kb := kb.on hC; replace bc := bc.trans (hC.mono bc.size); clear hC; (try clear pkb0 pkb1 pkb2 pkb3 pkb4 pkb5 pkb6 pkb7); obtain ⟨pkb0, pkb1, pkb2, pkb3, pkb4, pkb5, pkb6, pkb7⟩ := kb.eight)
      | (go_at_call 22; with_reducible refine (H2.out _ bc).mono ?_; rintro e w1 ⟨rfl, hC⟩; dsimp only; replace kb := kb.on hC; replace bc := bc.trans (hC.mono bc.size); clear hC; (try clear pkb0 pkb1 pkb2 pkb3 pkb4 pkb5 pkb6 pkb7); obtain ⟨pkb0, pkb1, pkb2, pkb3, pkb4, pkb5, pkb6, pkb7⟩ := kb.eight)
      | (go_at_call 22; with_reducible refine (H3.out _ bc).mono ?_; rintro e w1 ⟨rfl, hC⟩; dsimp only; replace kb := kb.on hC; replace bc := bc.trans (hC.mono bc.size); clear hC; (try clear pkb0 pkb1 pkb2 pkb3 pkb4 pkb5 pkb6 pkb7); obtain ⟨pkb0, pkb1, pkb2, pkb3, pkb4, pkb5, pkb6, pkb7⟩ := kb.eight))
    go_ret2
    exact ⟨rfl, bc⟩
  rw [decide_eq_true (show 0 ≤ t ∧ t < (m.ms.length : Int) by omega)] at h3
  by_cases c4 : ch < 0
  · rw [reach_bad c1 (.inr (.inr c4))]
    rw [c1] at h1
    have d4 := decide_eq_true c4
    clear c1 c2 c3 c4 hM
    have H1 := Lib.hid h1; have H2 := Lib.hid h2; have H3 := Lib.hid h3; clear h1 h2 h3
    obtain ⟨N, S, G, W, D, L, cold, ms⟩ := m
    obtain ⟨Ac, nc, cc⟩ := c
    obtain ⟨As, ns, cs⟩ := s
    dsimp only [vM] at *
    obtain ⟨kb, bc⟩ := bx1 w #[.int .i64 N, .int .i64 S, .int .i64 G, .int .i64 W, .int .i64 D, .int .i64 L, .slice Ac nc cc, .slice As ns cs] 25
    go_enter Try.func11, Try.ntmps11
    go_wp2_with (first
      | (go_at_call 24; with_reducible refine (H1.out _ bc).mono ?_; rintro e w1 ⟨rfl, hC⟩; dsimp only; replace kb := kb.on hC; replace bc := bc.trans (hC.mono bc.size); clear hC; (try clear pkb0 pkb1 pkb2 pkb3 pkb4 pkb5 pkb6 pkb7); obtain ⟨pkb0, pkb1, pkb2, pkb3, pkb4, pkb5, pkb6, pkb7⟩ := kb.eight)
      | (go_at_call 22; with_reducible refine (H2.out _ bc).mono ?_; rintro e w1 ⟨rfl, hC⟩; dsimp only; replace kb := kb.on hC; replace bc := bc.trans (hC.mono bc.size); clear hC; (try clear pkb0 pkb1 pkb2 pkb3 pkb4 pkb5 pkb6 pkb7); obtain ⟨pkb0, pkb1, pkb2, pkb3, pkb4, pkb5, pkb6, pkb7⟩ := kb.eight)
      | (go_at_call 22; with_reducible refine (H3.out _ bc).mono ?_; rintro e w1 ⟨rfl, hC⟩; dsimp only; replace kb := kb.on hC; replace bc := bc.trans (hC.mono bc.size); clear hC; (try clear pkb0 pkb1 pkb2 pkb3 pkb4 pkb5 pkb6 pkb7); obtain ⟨pkb0, pkb1, pkb2, pkb3, pkb4, pkb5, pkb6, pkb7⟩ := kb.eight))
    go_ret2
    exact ⟨rfl, bc⟩
  have d4 := decide_eq_false c4
  rw [reach_in c1 (by omega)]
  obtain ⟨f, rfl⟩ := Int.eq_ofNat_of_zero_le (show 0 ≤ f by omega)
  obtain ⟨t, rfl⟩ := Int.eq_ofNat_of_zero_le (show 0 ≤ t by omega)
  have hl4 := (checkM_ok c1).2.1
  have h4 := fun U (h : Below w.heap.size w U) => away_any m c s f U (hM.on h) c1 (by omega)
  have hdone := fun d (h : BF m.ms.length (letS m) f (m.ms.length - 1) 0 0 d) => h.done (by omega) hl4.2 (t := t) (by omega) (ch := ch) (by omega) (b := if 3 < ch then 3 else ch) (by split <;> omega)
  have e1 : reachM m (f : Int) (t : Int) (min ch.toNat m.ms.length) = farG m.ms.length (letS m) f (min ch.toNat m.ms.length) t := rfl
  rw [e1]
  have ht4 : t < 4 := by omega
  have ht5 : (t : Int) < 4 := by omega
  rw [c1] at h1
  generalize farG m.ms.length (letS m) f (min ch.toNat m.ms.length) t = R at *
  clear c1 c2 c3 c4 hM e1 hl4
  have H1 := Lib.hid h1; have H2 := Lib.hid h2; have H3 := Lib.hid h3; have H4 := Lib.hid h4; have HD := Lib.hid hdone; clear h1 h2 h3 h4 hdone
  by_cases c5 : 3 < ch
  · have HE : ∀ d : Nat → Int, decide (d t ≤ if 3 < ch then 3 else ch) = decide (d t ≤ 3) := fun d => by rw [if_pos c5]
    simp only [HE] at HD
    clear HE
    have d5 := decide_eq_true c5
    obtain ⟨N, S, G, W, D, L, cold, ms⟩ := m
    obtain ⟨Ac, nc, cc⟩ := c
    obtain ⟨As, ns, cs⟩ := s
    dsimp only [vM] at *
    obtain ⟨kb, bc⟩ := bx1 w #[.int .i64 N, .int .i64 S, .int .i64 G, .int .i64 W, .int .i64 D, .int .i64 L, .slice Ac nc cc, .slice As ns cs] 25
    go_enter Try.func11, Try.ntmps11
    go_wp2_with (first
      | (go_at_call 24; with_reducible refine (H1.out _ bc).mono ?_; rintro e w1 ⟨rfl, hC⟩; dsimp only; replace kb := kb.on hC; replace bc := bc.trans (hC.mono bc.size); clear hC; (try clear pkb0 pkb1 pkb2 pkb3 pkb4 pkb5 pkb6 pkb7); obtain ⟨pkb0, pkb1, pkb2, pkb3, pkb4, pkb5, pkb6, pkb7⟩ := kb.eight)
      | (go_at_call 22; with_reducible refine (H2.out _ bc).mono ?_; rintro e w1 ⟨rfl, hC⟩; dsimp only; replace kb := kb.on hC; replace bc := bc.trans (hC.mono bc.size); clear hC; (try clear pkb0 pkb1 pkb2 pkb3 pkb4 pkb5 pkb6 pkb7); obtain ⟨pkb0, pkb1, pkb2, pkb3, pkb4, pkb5, pkb6, pkb7⟩ := kb.eight)
      | (go_at_call 22; with_reducible refine (H3.out _ bc).mono ?_; rintro e w1 ⟨rfl, hC⟩; dsimp only; replace kb := kb.on hC; replace bc := bc.trans (hC.mono bc.size); clear hC; (try clear pkb0 pkb1 pkb2 pkb3 pkb4 pkb5 pkb6 pkb7); obtain ⟨pkb0, pkb1, pkb2, pkb3, pkb4, pkb5, pkb6, pkb7⟩ := kb.eight)
      | (go_at_call 25; with_reducible refine (H4.out _ bc).mono ?_; rintro e w1 ⟨d, hBF, rfl, hC⟩; dsimp only; replace kb := kb.on hC; replace bc := bc.trans (hC.mono bc.size); clear hC; have hix := fun U => run_index_i4 d (k := t) ht4 U; have HB := Lib.hid hBF; clear hBF))
    go_ret2
    exact ⟨by rw [← HD.out d HB.out]; rfl, bc⟩
  · have HE : ∀ d : Nat → Int, decide (d t ≤ if 3 < ch then 3 else ch) = decide (d t ≤ ch) := fun d => by rw [if_neg c5]
    simp only [HE] at HD
    clear HE
    have d5 := decide_eq_false c5
    obtain ⟨N, S, G, W, D, L, cold, ms⟩ := m
    obtain ⟨Ac, nc, cc⟩ := c
    obtain ⟨As, ns, cs⟩ := s
    dsimp only [vM] at *
    obtain ⟨kb, bc⟩ := bx1 w #[.int .i64 N, .int .i64 S, .int .i64 G, .int .i64 W, .int .i64 D, .int .i64 L, .slice Ac nc cc, .slice As ns cs] 25
    go_enter Try.func11, Try.ntmps11
    go_wp2_with (first
      | (go_at_call 24; with_reducible refine (H1.out _ bc).mono ?_; rintro e w1 ⟨rfl, hC⟩; dsimp only; replace kb := kb.on hC; replace bc := bc.trans (hC.mono bc.size); clear hC; (try clear pkb0 pkb1 pkb2 pkb3 pkb4 pkb5 pkb6 pkb7); obtain ⟨pkb0, pkb1, pkb2, pkb3, pkb4, pkb5, pkb6, pkb7⟩ := kb.eight)
      | (go_at_call 22; with_reducible refine (H2.out _ bc).mono ?_; rintro e w1 ⟨rfl, hC⟩; dsimp only; replace kb := kb.on hC; replace bc := bc.trans (hC.mono bc.size); clear hC; (try clear pkb0 pkb1 pkb2 pkb3 pkb4 pkb5 pkb6 pkb7); obtain ⟨pkb0, pkb1, pkb2, pkb3, pkb4, pkb5, pkb6, pkb7⟩ := kb.eight)
      | (go_at_call 22; with_reducible refine (H3.out _ bc).mono ?_; rintro e w1 ⟨rfl, hC⟩; dsimp only; replace kb := kb.on hC; replace bc := bc.trans (hC.mono bc.size); clear hC; (try clear pkb0 pkb1 pkb2 pkb3 pkb4 pkb5 pkb6 pkb7); obtain ⟨pkb0, pkb1, pkb2, pkb3, pkb4, pkb5, pkb6, pkb7⟩ := kb.eight)
      | (go_at_call 25; with_reducible refine (H4.out _ bc).mono ?_; rintro e w1 ⟨d, hBF, rfl, hC⟩; dsimp only; replace kb := kb.on hC; replace bc := bc.trans (hC.mono bc.size); clear hC; have hix := fun U => run_index_i4 d (k := t) ht4 U; have HB := Lib.hid hBF; clear hBF))
    go_ret2
    exact ⟨by rw [← HD.out d HB.out]; rfl, bc⟩
end Go.Proofs.Ytaooonajfdbfhaa

namespace Go.Proofs.Ytaooonajfdbfhaa
open Go.RowKit

/-- A row of truths in a block of its own. -/
def RowB (W : World) (g c n : Nat) (S : Nat → Bool) : Prop := ∃ cur, Blk W g 4 cur ∧ (∀ j, j < n → cur[j]? = some (.bool (S j))) ∧ n ≤ c ∧ c ≤ maxLen
theorem RowB.at {W : World} {g c n : Nat} {S : Nat → Bool} (h : RowB W g c n S) {j : Nat} (hj : j < n) : W.cell? ⟨g, j, none⟩ = some (.bool (S j)) := by
  obtain ⟨cur, h1, h2, -⟩ := h
  rw [h1.cell]; exact h2 j hj
theorem RowB.fr {W : World} {g c n : Nat} {S : Nat → Bool} (h : RowB W g c n S) (j : Nat) : W.frozen? ⟨g, j, none⟩ = false := by
  obtain ⟨cur, h1, -⟩ := h
  exact h1.frozen j
theorem RowB.lt {W : World} {g c n : Nat} {S : Nat → Bool} (h : RowB W g c n S) : g < W.heap.size := by
  obtain ⟨cur, h1, -⟩ := h
  exact h1.lt
theorem RowB.on {W W' : World} {g c n : Nat} {S : Nat → Bool} (h : RowB W g c n S) (hb : Below W.heap.size W W') : RowB W' g c n S := by
  obtain ⟨cur, h1, h2, h3⟩ := h
  exact ⟨cur, h1.on hb, h2, h3⟩
theorem RowB.far {W : World} {g c n : Nat} {S : Nat → Bool} (h : RowB W g c n S) {p : Addr} (hp : g ≠ p.block) (v : Value) : RowB (W.setCell p v) g c n S := by
  obtain ⟨cur, h1, h2, h3⟩ := h
  exact ⟨cur, h1.far hp v, h2, h3⟩
theorem RowB.congr {W : World} {g c n : Nat} {S S' : Nat → Bool} (h : RowB W g c n S) (he : ∀ j, j < n → S j = S' j) : RowB W g c n S' := by
  obtain ⟨cur, h1, h2, h3⟩ := h
  exact ⟨cur, h1, fun j hj => by rw [h2 j hj, he j hj], h3⟩
theorem RowB.put {W : World} {g c n : Nat} {S : Nat → Bool} (h : RowB W g c n S) {j : Nat} (hj : j < n) (y : Bool) : RowB (W.setCell ⟨g, j, none⟩ (.bool y)) g c n (fun x => if x = j then y else S x) := by
  obtain ⟨cur, h1, h2, h3⟩ := h
  refine ⟨_, h1.set_ j _, fun x hx => ?_, h3⟩
  have hjs : j < cur.size := by
    have := h2 j hj
    exact (Array.getElem?_eq_some_iff.1 this).1
  rw [Array.getElem?_setIfInBounds]
  by_cases hxj : j = x
  · subst hxj
    rw [if_pos rfl, if_pos hjs]
    show some (Value.bool y) = some (Value.bool (if j = j then y else S j))
    rw [if_pos rfl]
  · rw [if_neg hxj, h2 x hx]
    show some (Value.bool (S x)) = some (Value.bool (if x = j then y else S x))
    rw [if_neg (fun h => hxj (Eq.symm h))]
def valB (n : Nat) (S : Nat → Bool) : List Value := (List.range n).map fun j => .bool (S j)
theorem valB_at {n : Nat} {S : Nat → Bool} {j : Nat} (hj : j < n) : (valB n S)[j]? = some (.bool (S j)) := by simp [valB, hj]
theorem row_of_own {W : World} {base n : Nat} {v : Value} {S : Nat → Bool} (h : W.ownsRow base 4 1 v n (valB n S)) (hn : 1 ≤ n) : ∃ g c, v = .slice (some ⟨g, 0, none⟩) n c ∧ base ≤ g ∧ RowB W g c n S := by
  rcases h.2 with ⟨-, h0⟩ | ⟨g, cap, cur, rfl, hg, hh, hcap, hm, hs, ht⟩
  · omega
  · refine ⟨g, cap, rfl, hg, cur, hh, fun j hj => ?_, hcap, hm⟩
    have := valB_at (S := S) hj
    rw [← ht, Nat.mul_one, List.getElem?_take_of_lt hj] at this
    simpa using this
/-- What lies in the next row while it is made. -/
def partG (n : Nat) (L : Nat → Nat → Bool) (f k i j x : Nat) : Bool := farG n L f k x || ((List.range i).any (fun a => farG n L f k a && L a x) || (decide (x < j) && (farG n L f k i && L i x)))
section
variable {n : Nat} {L : Nat → Nat → Bool} {f k : Nat}
theorem part_start (x : Nat) : farG n L f k x = partG n L f k 0 0 x := by simp [partG]
theorem part_step (i j x : Nat) : (if x = j then (if (farG n L f k i && L i j) = true then true else partG n L f k i j x) else partG n L f k i j x) = partG n L f k i (j + 1) x := by
  by_cases hx : x = j
  · subst hx
    rw [if_pos rfl]
    unfold partG
    rw [decide_eq_false (Nat.lt_irrefl x), decide_eq_true (Nat.lt_succ_self x)]
    cases farG n L f k i && L i x <;> simp
  · rw [if_neg hx]
    unfold partG
    rw [show decide (x < j + 1) = decide (x < j) by rw [decide_eq_decide]; omega]
theorem part_next {i x : Nat} (hx : x < n) : partG n L f k i n x = partG n L f k (i + 1) 0 x := by
  unfold partG
  rw [decide_eq_true hx, List.range_succ, List.any_append]
  simp
theorem part_done (x : Nat) : partG n L f k n 0 x = farG n L f (k + 1) x := by
  unfold partG
  show _ = hopG n L (farG n L f k) x
  unfold hopG
  simp
end

set_option maxRecDepth 100000 in
set_option maxHeartbeats 4000000 in
theorem rreach_any (m : ML) (c s : Slc) (f t ch : Int) (w : World) (hM : Med w m c s) : Calls Try.prog 12 #[vM m c s, .int .i64 f, .int .i64 t, .int .i64 ch] w (ResT w (reachS m f t ch)) := by
  have h1 := fun U (h : Below w.heap.size w U) => rmcheck_any m c s U (hM.on h)
  by_cases c1 : checkM m = 0
  rotate_left
  · rw [reach_out c1]
    have d1 := neqz c1
    generalize checkM m = er at *
    clear c1 hM
    have H1 := Lib.hid h1; clear h1
    obtain ⟨N, S, G, W, D, L, cold, ms⟩ := m
    obtain ⟨Ac, nc, cc⟩ := c
    obtain ⟨As, ns, cs⟩ := s
    dsimp only [vM] at *
    obtain ⟨kb, bc⟩ := bx1 w #[.int .i64 N, .int .i64 S, .int .i64 G, .int .i64 W, .int .i64 D, .int .i64 L, .slice Ac nc cc, .slice As ns cs] 25
    go_enter Try.func12, Try.ntmps12
    go_wp2_with (first
      | (go_at_call 26; with_reducible refine (H1.out _ bc).mono ?_; rintro e w1 ⟨rfl, hC⟩; dsimp only; replace kb := kb.on hC; replace bc := bc.trans (hC.mono bc.size); clear hC; (try clear pkb0 pkb1 pkb2 pkb3 pkb4 pkb5 pkb6 pkb7); obtain ⟨pkb0, pkb1, pkb2, pkb3, pkb4, pkb5, pkb6, pkb7⟩ := kb.eight))
    go_ret2
    exact ⟨rfl, bc⟩
  have hsn := hM.sn
  have hN := nexts_at (checkM_ok c1) hM
  have hl4 := (checkM_ok c1).2.1
  have hrb := @reach_bad m f t ch c1
  have hri := @reach_in m f t ch c1
  rw [c1] at h1
  unfold reachM at hri
  rw [← hsn] at hN hl4 hrb hri
  generalize reachS m f t ch = R at *
  generalize letS m = lt at *
  clear hM hsn c1
  have H1 := Lib.hid h1; clear h1
  obtain ⟨N, S, G, W, D, L, cold, ms⟩ := m
  obtain ⟨Ac, nc, cc⟩ := c
  obtain ⟨As, ns, cs⟩ := s
  dsimp only [vM] at *
  by_cases c2 : f < 0
  · obtain rfl := hrb (.inl (.inl c2))
    have d2 := decide_eq_true c2
    clear hrb hri hN
    obtain ⟨kb, bc⟩ := bx1 w #[.int .i64 N, .int .i64 S, .int .i64 G, .int .i64 W, .int .i64 D, .int .i64 L, .slice Ac nc cc, .slice As ns cs] 25
    go_enter Try.func12, Try.ntmps12
    go_wp2_with (first
      | (go_at_call 26; with_reducible refine (H1.out _ bc).mono ?_; rintro e w1 ⟨rfl, hC⟩; dsimp only; replace kb := kb.on hC; replace bc := bc.trans (hC.mono bc.size); clear hC; (try clear pkb0 pkb1 pkb2 pkb3 pkb4 pkb5 pkb6 pkb7); obtain ⟨pkb0, pkb1, pkb2, pkb3, pkb4, pkb5, pkb6, pkb7⟩ := kb.eight))
    go_ret2
    exact ⟨rfl, bc⟩
  have d2 := decide_eq_false c2
  by_cases c3 : (ns : Int) ≤ f
  · obtain rfl := hrb (.inl (.inr c3))
    have d3 := decide_eq_true c3
    clear hrb hri hN
    obtain ⟨kb, bc⟩ := bx1 w #[.int .i64 N, .int .i64 S, .int .i64 G, .int .i64 W, .int .i64 D, .int .i64 L, .slice Ac nc cc, .slice As ns cs] 25
    go_enter Try.func12, Try.ntmps12
    go_wp2_with (first
      | (go_at_call 26; with_reducible refine (H1.out _ bc).mono ?_; rintro e w1 ⟨rfl, hC⟩; dsimp only; replace kb := kb.on hC; replace bc := bc.trans (hC.mono bc.size); clear hC; (try clear pkb0 pkb1 pkb2 pkb3 pkb4 pkb5 pkb6 pkb7); obtain ⟨pkb0, pkb1, pkb2, pkb3, pkb4, pkb5, pkb6, pkb7⟩ := kb.eight))
    go_ret2
    exact ⟨rfl, bc⟩
  have d3 := decide_eq_false c3
  by_cases c4 : t < 0
  · obtain rfl := hrb (.inr (.inl (.inl c4)))
    have d4 := decide_eq_true c4
    clear hrb hri hN
    obtain ⟨kb, bc⟩ := bx1 w #[.int .i64 N, .int .i64 S, .int .i64 G, .int .i64 W, .int .i64 D, .int .i64 L, .slice Ac nc cc, .slice As ns cs] 25
    go_enter Try.func12, Try.ntmps12
    go_wp2_with (first
      | (go_at_call 26; with_reducible refine (H1.out _ bc).mono ?_; rintro e w1 ⟨rfl, hC⟩; dsimp only; replace kb := kb.on hC; replace bc := bc.trans (hC.mono bc.size); clear hC; (try clear pkb0 pkb1 pkb2 pkb3 pkb4 pkb5 pkb6 pkb7); obtain ⟨pkb0, pkb1, pkb2, pkb3, pkb4, pkb5, pkb6, pkb7⟩ := kb.eight))
    go_ret2
    exact ⟨rfl, bc⟩
  have d4 := decide_eq_false c4
  by_cases c5 : (ns : Int) ≤ t
  · obtain rfl := hrb (.inr (.inl (.inr c5)))
    have d5 := decide_eq_true c5
    clear hrb hri hN
    obtain ⟨kb, bc⟩ := bx1 w #[.int .i64 N, .int .i64 S, .int .i64 G, .int .i64 W, .int .i64 D, .int .i64 L, .slice Ac nc cc, .slice As ns cs] 25
    go_enter Try.func12, Try.ntmps12
    go_wp2_with (first
      | (go_at_call 26; with_reducible refine (H1.out _ bc).mono ?_; rintro e w1 ⟨rfl, hC⟩; dsimp only; replace kb := kb.on hC; replace bc := bc.trans (hC.mono bc.size); clear hC; (try clear pkb0 pkb1 pkb2 pkb3 pkb4 pkb5 pkb6 pkb7); obtain ⟨pkb0, pkb1, pkb2, pkb3, pkb4, pkb5, pkb6, pkb7⟩ := kb.eight))
    go_ret2
    exact ⟨rfl, bc⟩
  have d5 := decide_eq_false c5
  by_cases c6 : ch < 0
  · obtain rfl := hrb (.inr (.inr c6))
    have d6 := decide_eq_true c6
    clear hrb hri hN
    obtain ⟨kb, bc⟩ := bx1 w #[.int .i64 N, .int .i64 S, .int .i64 G, .int .i64 W, .int .i64 D, .int .i64 L, .slice Ac nc cc, .slice As ns cs] 25
    go_enter Try.func12, Try.ntmps12
    go_wp2_with (first
      | (go_at_call 26; with_reducible refine (H1.out _ bc).mono ?_; rintro e w1 ⟨rfl, hC⟩; dsimp only; replace kb := kb.on hC; replace bc := bc.trans (hC.mono bc.size); clear hC; (try clear pkb0 pkb1 pkb2 pkb3 pkb4 pkb5 pkb6 pkb7); obtain ⟨pkb0, pkb1, pkb2, pkb3, pkb4, pkb5, pkb6, pkb7⟩ := kb.eight))
    go_ret2
    exact ⟨rfl, bc⟩
  have d6 := decide_eq_false c6
  obtain rfl := hri (by omega)
  clear hri hrb
  obtain ⟨f, rfl⟩ := Int.eq_ofNat_of_zero_le (show 0 ≤ f by omega)
  obtain ⟨t, rfl⟩ := Int.eq_ofNat_of_zero_le (show 0 ≤ t by omega)
  obtain ⟨ch, rfl⟩ := Int.eq_ofNat_of_zero_le (show 0 ≤ ch by omega)
  simp only [Int.toNat_natCast]
  have hf : f < ns := by omega
  have d3n : decide (ns ≤ f) = false := by simp; omega
  have d5n : decide (ns ≤ t) = false := by simp; omega
  have ht : t < ns := by omega
  obtain ⟨b, off, e1, hb, hN⟩ := hN
  subst e1
  obtain ⟨i0, hi, hz0, hz1, hz2⟩ := info_parts Try.infoRB
  have HN := Lib.hid hN; clear hN c2 c3 c4 c5 c6
  obtain ⟨kb, bc⟩ := bx1 w #[.int .i64 N, .int .i64 S, .int .i64 G, .int .i64 W, .int .i64 D, .int .i64 L, .slice Ac nc cc, .slice (some ⟨b, off, none⟩) ns cs] 25
  go_enter Try.func12, Try.ntmps12
  go_wp2_with fail
  refine (H1.out _ bc).mono ?_
  rintro e w1 ⟨rfl, hC⟩
  dsimp only
  replace kb := kb.on hC; replace bc := bc.trans (hC.mono bc.size); clear hC
  obtain ⟨p0, p1, p2, p3, p4, p5, p6, p7⟩ := kb.eight
  have hw1 := kb.lt
  have kb0 := kb; have bc0 := bc
  have hmk := run_make_B ns (by omega) w1
  have kz := Blk.new w1 4 (List.replicate ns (Value.bool false : Value)).toArray
  have al := Below.al w1 (.cells (List.replicate ns (Value.bool false : Value)).toArray 4)
  replace kb := kb.on al; replace bc := bc.trans (al.mono bc.size); clear al
  have hrow : RowB (w1.alloc (.cells (List.replicate ns (Value.bool false : Value)).toArray 4)) w1.heap.size ns ns (fun _ => false) := ⟨_, kz, fun j hj => by simp [hj], Nat.le_refl _, by unfold maxLen; omega⟩
  clear kz
  have hf2 : (f : Int) < (ns : Int) := by omega
  have ht2 : (t : Int) < (ns : Int) := by omega
  have hcb := hrow.at hf
  have hfr := hrow.fr f
  have kz := Blk.new w1 4 ((Array.replicate ns (Value.bool false)).setIfInBounds f (Value.bool true))
  have al := Below.al w1 (.cells ((Array.replicate ns (Value.bool false)).setIfInBounds f (Value.bool true)) 4)
  have kb2 := kb0.on al; have bc2 := bc0.trans (al.mono bc0.size)
  have hr2 : RowB (w1.alloc (.cells ((Array.replicate ns (Value.bool false)).setIfInBounds f (Value.bool true)) 4)) w1.heap.size ns ns (farG ns lt f 0) := by
    refine ⟨_, kz, fun j hj => ?_, Nat.le_refl _, by unfold maxLen; omega⟩
    rw [Array.getElem?_setIfInBounds]
    by_cases h : f = j
    · subst h; simp [hf, farG]
    · rw [if_neg h]; simp [hj, farG]; exact fun e => h e.symm
  have HR := Lib.hid hr2; have KB := Lib.hid kb2; have BC := Lib.hid bc2; clear hr2 kb2 bc2 kb bc hrow kz al kb0 bc0
  go_wp2_with fail
  clear p0 p1 p2 p3 p4 p5 p6 p7 hcb hfr hmk
  have hr := HR.out; have kb := KB.out; have bc := BC.out; clear HR KB BC
  generalize w1.alloc (.cells ((Array.replicate ns (Value.bool false)).setIfInBounds f (Value.bool true)) 4) = u2 at *
  generalize w1.heap.size = g1 at *
  clear w1
  go_loopw [11, 12] (fun tv i wr => ∃ (k g c : Nat), k ≤ ch ∧ k ≤ ns ∧ i = .int .i64 k ∧ tv = .slice (some ⟨g, 0, none⟩) ns c ∧ w.heap.size < g ∧ RowB wr g c ns (farG ns lt f k) ∧ Blk wr w.heap.size 25 #[.int .i64 N, .int .i64 S, .int .i64 G, .int .i64 W, .int .i64 D, .int .i64 L, .slice Ac nc cc, .slice (some ⟨b, off, none⟩) ns cs] ∧ Below w.heap.size w wr)
    (fun _ i _ => ns - (intOf i).toNat)
  case atStart => exact ⟨0, g1, ns, by omega, by omega, rfl, rfl, hw1, hr, kb, bc⟩
  case round =>
    clear hr kb bc hw1
    obtain ⟨k, g, c, hkc, hkn, rfl, rfl, hg, hr, kb, bc⟩ := hrel
    obtain ⟨p0, p1, p2, p3, p4, p5, p6, p7⟩ := kb.eight
    by_cases hl1 : k < ch
    · have hl1' : (k : Int) < (ch : Int) := by omega
      by_cases hl2 : k < ns
      · have hl2' : (k : Int) < (ns : Int) := by omega
        have hcs : (valB ns (farG ns lt f k)).length = ns * 1 := by simp [valB]
        have hsrc : ∀ (j : Nat) (u : Value), (valB ns (farG ns lt f k))[j]? = some u → wr.cell? ((⟨g, 0, none⟩ : Addr).add j) = some u := fun j u hj => by
          have hjl : j < ns := by
            have := (List.getElem?_eq_some_iff.1 hj).1
            simpa [valB] using this
          rw [valB_at hjl] at hj
          rw [← hj, addr_add, Nat.zero_add, hr.at hjl]
        have hone : ∀ u ∈ valB ns (farG ns lt f k), u.oneCell' = true := fun u hu => by
          obtain ⟨x, -, rfl⟩ := List.mem_map.1 hu
          rfl
        have hcap : ns ≤ c ∧ c ≤ maxLen := by obtain ⟨cur, -, -, h3⟩ := hr; exact h3
        have HCS := Lib.hid hcs; have HSRC := Lib.hid hsrc; have HONE := Lib.hid hone; clear hcs hsrc hone
        have hsz := bc.size
        have hr0 := hr.lt
        obtain ⟨xs, hxs⟩ : ∃ xs, xs = valB ns (farG ns lt f k) := ⟨_, rfl⟩
        rw [← hxs] at HCS HSRC HONE
        have HXS := Lib.hid hxs; clear hxs
        go_wp2_with (at_builtin; refine wpList_append_own _ rfl _ _ 22 rfl wr.heap.size 4 i0 (.bool false) 1 1 Try.underlying22 hi hz0 hz1 hz2 rfl (by decide) _ 0 [] rfl (World.ownsRow_nil _ _ _ _) ⟨g, 0, none⟩ ns c xs rfl HCS.out HSRC.out HONE.out (by unfold maxLen; omega) (by omega) (Nat.le_refl _) ?_; intro v' w2 hown hgrow _; have hgr : wr.grownBy w2 none := hgrow; clear hgrow; rw [HXS.out, List.nil_append, Nat.zero_add] at hown; obtain ⟨g2, c2, rfl, hg2, hr2⟩ := row_of_own hown (by omega); clear hown; have hB2 := (Below.refl wr.heap.size wr).grown hgr (Nat.le_refl _) (fun k e => by cases e); replace hr := hr.on hB2; replace kb := kb.on hB2; replace bc := bc.trans (hB2.mono bc.size); clear hB2 hgr; (try clear p0 p1 p2 p3 p4 p5 p6 p7))
        have hne : g ≠ g2 := by have := hr0; omega
        have hg2w : w.heap.size < g2 := by omega
        clear HCS HSRC HONE HXS hcap hr0 xs
        clear hg2
        have hst := hr2.congr (fun x _ => part_start (n := ns) (L := lt) (f := f) (k := k) x)
        clear hr2 hsz
        clear wr
        go_loopw [14] (fun i wr => ∃ a : Nat, a ≤ ns ∧ i = .int .i64 a ∧ RowB wr g2 c2 ns (partG ns lt f k a 0) ∧ RowB wr g c ns (farG ns lt f k) ∧ Blk wr w.heap.size 25 #[.int .i64 N, .int .i64 S, .int .i64 G, .int .i64 W, .int .i64 D, .int .i64 L, .slice Ac nc cc, .slice (some ⟨b, off, none⟩) ns cs] ∧ Below w.heap.size w wr)
          (fun i _ => ns - (intOf i).toNat)
        case atStart => exact ⟨0, by omega, rfl, hst, hr, kb, bc⟩
        case round =>
          clear hst hr kb bc
          obtain ⟨a, ha, rfl, hr2, hr, kb, bc⟩ := hrel
          obtain ⟨p0, p1, p2, p3, p4, p5, p6, p7⟩ := kb.eight
          by_cases hla : a < ns
          · have hla' : (a : Int) < (ns : Int) := by omega
            obtain ⟨A0, n0, c0, A1, n1, c1, b', off', cn, k0, k1, k2, hb', hcell⟩ := HN.out a hla
            have K0 := Lib.hid k0; have K1 := Lib.hid k1; have K2 := Lib.hid k2; have HC := Lib.hid hcell; clear k0 k1 k2 hcell
            go_wp2_with fail
            clear p0 p1 p2 p3 p4 p5 p6 p7
            obtain ⟨wo, hwo⟩ : ∃ x, x = wr := ⟨_, rfl⟩
            subst hwo
            go_loopw [15] (fun i wr => ∃ j : Nat, j ≤ ns ∧ i = .int .i64 j ∧ RowB wr g2 c2 ns (partG ns lt f k a j) ∧ RowB wr g c ns (farG ns lt f k) ∧ Blk wr w.heap.size 25 #[.int .i64 N, .int .i64 S, .int .i64 G, .int .i64 W, .int .i64 D, .int .i64 L, .slice Ac nc cc, .slice (some ⟨b, off, none⟩) ns cs] ∧ Below w.heap.size w wr)
              (fun i _ => ns - (intOf i).toNat)
            case atStart => exact ⟨0, by omega, rfl, hr2, hr, kb, bc⟩
            case round =>
              clear hr2 hr kb bc
              obtain ⟨j, hj, rfl, hr2, hr, kb, bc⟩ := hrel
              obtain ⟨p0, p1, p2, p3, p4, p5, p6, p7⟩ := kb.eight
              have m0 := (bc.cell (p := ⟨b, off + a * 3, none⟩) hb).trans K0.out
              have m1 := (bc.cell (p := ⟨b, off + a * 3 + 1, none⟩) hb).trans K1.out
              have m2 := (bc.cell (p := ⟨b, off + a * 3 + 2, none⟩) hb).trans K2.out
              by_cases hlj : j < ns
              · have hlj' : (j : Int) < (ns : Int) := by omega
                have m3 := (bc.cell (p := ⟨b', off' + j, none⟩) hb').trans (HC.out j hlj)
                have q0 := hr.at hla
                have q1 := hr2.at hlj
                have q2 := hr2.fr j
                have hstep := fun x => part_step (n := ns) (L := lt) (f := f) (k := k) a j x
                obtain ⟨x, hx⟩ : ∃ x, x = farG ns lt f k a := ⟨_, rfl⟩
                obtain ⟨y, hy⟩ : ∃ y, y = lt a j := ⟨_, rfl⟩
                rw [← hx] at q0
                rw [← hy] at m3
                rw [← hx, ← hy] at hstep
                have HX := Lib.hid hx; have HY := Lib.hid hy; clear hx hy
                by_cases hxy : (x && y) = true
                · obtain ⟨rfl, rfl⟩ : x = true ∧ y = true := by simpa using hxy
                  have u0 := (hr2.put hlj true).congr (S' := partG ns lt f k a (j + 1)) (fun z _ => by have h := hstep z; rw [if_pos hxy] at h; exact h)
                  have u1 := hr.far (p := ⟨g2, j, none⟩) hne (.bool true)
                  have hgw := hg2w
                  have u2 := kb.far (p := ⟨g2, j, none⟩) (by dsimp only; omega) (.bool true)
                  have u3 := bc.setCell (p := ⟨g2, j, none⟩) (by dsimp only; omega) (.bool true)
                  have U0 := Lib.hid u0; have U1 := Lib.hid u1; have U2 := Lib.hid u2; have U3 := Lib.hid u3; clear u0 u1 u2 u3 hr2 hr kb bc hstep hxy
                  go_wp2
                  go_roundw
                  case rel => exact ⟨j + 1, by omega, by go_num, U0.out, U1.out, U2.out, U3.out⟩
                  case measure => simp [intOf]; omega
                · have u0 := hr2.congr (S' := partG ns lt f k a (j + 1)) (fun z _ => by have := hstep z; rw [if_neg hxy] at this; rw [← this]; split <;> rfl)
                  have U0 := Lib.hid u0; have U1 := Lib.hid hr; have U2 := Lib.hid kb; have U3 := Lib.hid bc; clear u0 hr2 hr kb bc hstep
                  cases x with
                  | false =>
                    go_wp2
                    go_roundw
                    case rel => exact ⟨j + 1, by omega, by go_num, U0.out, U1.out, U2.out, U3.out⟩
                    case measure => simp [intOf]; omega
                  | true =>
                    obtain rfl : y = false := by simpa using hxy
                    clear hxy
                    go_wp2
                    go_roundw
                    case rel => exact ⟨j + 1, by omega, by go_num, U0.out, U1.out, U2.out, U3.out⟩
                    case measure => simp [intOf]; omega
              · obtain rfl : j = ns := by omega
                have u0 := hr2.congr (fun x hx => part_next hx)
                have U0 := Lib.hid u0; have U1 := Lib.hid hr; have U2 := Lib.hid kb; have U3 := Lib.hid bc; clear u0 hr2 hr kb bc
                go_wp2
                go_roundw
                case rel => exact ⟨a + 1, by omega, by go_num, U0.out, U1.out, U2.out, U3.out⟩
                case measure => simp [intOf]; omega
          · obtain rfl : a = ns := by omega
            have u0 := hr2.congr (fun x _ => part_done (n := a) (L := lt) (f := f) (k := k) x)
            have U0 := Lib.hid u0; have U2 := Lib.hid kb; have U3 := Lib.hid bc; clear u0 hr2 hr kb bc
            go_wp2
            go_roundw
            case rel => exact ⟨k + 1, g2, c2, by omega, by omega, by go_num, rfl, hg2w, U0.out, U2.out, U3.out⟩
            case measure => simp [intOf]; omega
      · obtain rfl : k = ns := by omega
        have hmin : min ch k = k := by omega
        have q0 := hr.at ht
        obtain ⟨R, hR⟩ : ∃ R, R = farG k lt f k t := ⟨_, rfl⟩
        rw [← hR] at q0
        have HRR := Lib.hid hR; have HMN := Lib.hid hmin
        clear hR hmin hr kb
        go_wp2
        go_ret2
        exact ⟨by first | (rw [HMN.out, ← HRR.out]; rfl) | (rw [← HRR.out]; rfl), bc⟩
    · obtain rfl : k = ch := by omega
      have hl1' : ¬ ((k : Int) < (k : Int)) := by omega
      have hmin : min k ns = k := by omega
      have q0 := hr.at ht
      obtain ⟨R, hR⟩ : ∃ R, R = farG ns lt f k t := ⟨_, rfl⟩
      rw [← hR] at q0
      have HRR := Lib.hid hR; have HMN := Lib.hid hmin
      clear hR hmin hr kb
      go_wp2
      go_ret2
      exact ⟨by first | (rw [HMN.out, ← HRR.out]; rfl) | (rw [← HRR.out]; rfl), bc⟩
end Go.Proofs.Ytaooonajfdbfhaa
