/-
  Clocks behind a round, and behind some, in plain Lean; they come together. No condition but those that each theorem names.
-/
import Derived.Test.YtfncccjiiipfoaaFE
namespace Go.Proofs.Ytfncccjiiipfoaa
/-- Is a number too great for a round? -/
def overS (y : Int) : Bool := decide (y < -274877906944) || decide (274877906944 < y)
def offS (l : List Int) : Bool := l.any overS
/-- What the i-th clock sees. -/
def agS (cs ws : List Int) (i : Nat) : List Int := (List.range cs.length).map fun k => nth cs k - nth cs i + nth ws k
/-- The i-th clock behind a round. -/
def clS (cs ws : List Int) (i : Nat) : Int := nth cs i + (midS (agS cs ws i)).1
def nthR (rows : List (List Int)) (i : Nat) : List Int := rows[i]?.getD []
def roundL (cs : List Int) (rows : List (List Int)) : List Int := (List.range cs.length).map fun i => clS cs (nthR rows i) i
def wrongS (n : Nat) (r : List Int) : Bool := decide (r.length ≠ n)
def sizedS (n : Nat) (rows : List (List Int)) : Bool := decide (rows.length = n) && !rows.any (wrongS n)
def roundS (cs : List Int) (rows : List (List Int)) : List Int × Int :=
  if ¬ (4 ≤ cs.length ∧ cs.length ≤ 8 ∧ sizedS cs.length rows = true) then ([], 2) else if (offS cs || rows.any offS) = true then ([], 80) else (roundL cs rows, 0)
def zeroR (n : Nat) : List (List Int) := List.replicate n (List.replicate n 0)
def stepsS (rows : List (List Int)) : Nat → List Int → List Int
  | 0, cs => cs
  | r + 1, cs => (roundS (stepsS rows r cs) rows).1
def settleS (cs : List Int) (r : Int) : List Int × Int :=
  if ¬ (0 ≤ r ∧ r ≤ 64 ∧ 4 ≤ cs.length ∧ cs.length ≤ 8) then ([], 2) else if offS cs = true then ([], 80) else (stepsS (zeroR cs.length) r.toNat cs, 0)

theorem overS_false {y : Int} (h : overS y = false) : -274877906944 ≤ y ∧ y ≤ 274877906944 := by unfold overS at h; simp at h; omega
theorem offS_in {l : List Int} (h : offS l = false) : ∀ y ∈ l, -274877906944 ≤ y ∧ y ≤ 274877906944 := fun y hy => by
  unfold offS at h
  rw [List.any_eq_false] at h
  exact overS_false (by have := h y hy; simpa using this)
theorem nth_in {l : List Int} {B : Int} (hB : 0 ≤ B) (h : ∀ y ∈ l, -B ≤ y ∧ y ≤ B) (j : Nat) : -B ≤ nth l j ∧ nth l j ≤ B := by
  by_cases hj : j < l.length
  · exact h _ (nth_mem hj)
  · unfold nth; rw [List.getElem?_eq_none (by omega)]; show -B ≤ (0 : Int) ∧ (0 : Int) ≤ B; omega
theorem agS_length (cs ws : List Int) (i : Nat) : (agS cs ws i).length = cs.length := by unfold agS; simp
theorem agS_nth (cs ws : List Int) (i k : Nat) (h : k < cs.length) : nth (agS cs ws i) k = nth cs k - nth cs i + nth ws k := by
  rw [nth_at (by rw [agS_length]; exact h)]; unfold agS; simp
theorem agS_in {cs ws : List Int} (hc : offS cs = false) (hw : offS ws = false) (i : Nat) : inOff (agS cs ws i) := fun y hy => by
  obtain ⟨k, hk, rfl⟩ := List.getElem_of_mem hy
  have hk2 : k < cs.length := by rw [agS_length] at hk; exact hk
  have e := agS_nth cs ws i k hk2
  rw [nth_at hk] at e
  have h1 := nth_in (B := 274877906944) (by decide) (offS_in hc) k
  have h2 := nth_in (B := 274877906944) (by decide) (offS_in hc) i
  have h3 := nth_in (B := 274877906944) (by decide) (offS_in hw) k
  unfold mOff; omega
theorem nthR_off {rows : List (List Int)} (h : rows.any offS = false) (i : Nat) : offS (nthR rows i) = false := by
  rw [List.any_eq_false] at h
  unfold nthR
  rcases hr : rows[i]? with _ | r
  · rfl
  · have := h r (List.mem_of_getElem? hr); simpa using this
theorem midS_bound (l : List Int) : -mOff ≤ (midS l).1 ∧ (midS l).1 ≤ mOff := by
  have h := keptS_bound l
  unfold midS; dsimp only; unfold mOff at *; omega
theorem roundL_length (cs : List Int) (rows : List (List Int)) : (roundL cs rows).length = cs.length := by unfold roundL; simp
theorem roundL_nth (cs : List Int) (rows : List (List Int)) (i : Nat) (h : i < cs.length) : nth (roundL cs rows) i = clS cs (nthR rows i) i := by
  rw [nth_at (by rw [roundL_length]; exact h)]; unfold roundL; simp
theorem roundS_ok {cs : List Int} {rows : List (List Int)} (h : (roundS cs rows).2 = 0) : 4 ≤ cs.length ∧ cs.length ≤ 8 ∧ offS cs = false ∧ rows.any offS = false ∧ (roundS cs rows).1 = roundL cs rows := by
  unfold roundS at *
  by_cases h1 : 4 ≤ cs.length ∧ cs.length ≤ 8 ∧ sizedS cs.length rows = true
  · rw [if_neg (fun e => e h1)] at *
    by_cases h2 : (offS cs || rows.any offS) = true
    · rw [if_pos h2] at h; cases h
    · rw [if_neg h2]
      simp at h2
      refine ⟨h1.1, h1.2.1, h2.1, ?_, rfl⟩
      rw [List.any_eq_false]; intro r hr; rw [h2.2 r hr]; decide
  · rw [if_pos h1] at h; cases h
/-- Where all clocks would come to that see nothing wrong. -/
def meet (cs : List Int) : Int := midOf cs
theorem clS_near {cs ws : List Int} {e : Int} {i : Nat} (h0 : 0 < cs.length) (hc : offS cs = false) (hw : offS ws = false) (he : ∀ k, -e ≤ nth ws k ∧ nth ws k ≤ e) : meet cs - e ≤ clS cs ws i ∧ clS cs ws i ≤ meet cs + e := by
  have hl : 0 < (agS cs ws i).length := by rw [agS_length]; exact h0
  have hm : midS (agS cs ws i) = (midOf (agS cs ws i), 0) := midS_in hl (agS_in hc hw i)
  have hml : (cs.map (· + -(nth cs i))).length = (agS cs ws i).length := by rw [List.length_map, agS_length]
  have hmid := midOf_map cs (-(nth cs i)) h0
  have u1 := midOf_under (cs.map (· + -(nth cs i))) (agS cs ws i) e hml (fun k hk => by
    rw [List.length_map] at hk
    rw [nth_map _ _ _ hk, agS_nth _ _ _ _ hk]
    have := he k; omega) (by rw [List.length_map]; exact h0)
  have u2 := midOf_under (agS cs ws i) (cs.map (· + -(nth cs i))) e hml.symm (fun k hk => by
    rw [agS_length] at hk
    rw [nth_map _ _ _ hk, agS_nth _ _ _ _ hk]
    have := he k; omega) hl
  unfold clS meet
  rw [hm]
  show midOf cs - e ≤ nth cs i + midOf (agS cs ws i) ∧ nth cs i + midOf (agS cs ws i) ≤ midOf cs + e
  omega
theorem spread_near {l : List Int} {m e : Int} (he : 0 ≤ e) (h : ∀ i, i < l.length → m - e ≤ nth l i ∧ nth l i ≤ m + e) : 0 ≤ spreadS l ∧ spreadS l ≤ 2 * e := by
  unfold spreadS
  by_cases h0 : l.length = 0
  · rw [if_pos h0]; omega
  · rw [if_neg h0]
    have hp : 0 < l.length := by omega
    have all : ∀ y ∈ l, m - e ≤ y ∧ y ≤ m + e := fun y hy => by
      obtain ⟨i, hi, rfl⟩ := List.getElem_of_mem hy
      have := h i hi; rw [nth_at hi] at this; exact this
    have h1 := (sort_first l hp (m - e)).2 fun y hy => (all y hy).1
    have h2 := (sort_last l hp (m + e)).2 fun y hy => (all y hy).2
    have h3 := sort_rises l (Nat.zero_le (l.length - 1)) (by omega)
    omega
theorem nth_zeros (n k : Nat) : nth (List.replicate n 0) k = 0 := by
  unfold nth
  rcases h : (List.replicate n (0 : Int))[k]? with _ | y
  · rfl
  · have := List.mem_of_getElem? h
    rw [List.mem_replicate] at this
    exact this.2
theorem nthR_zeros (n i k : Nat) : nth (nthR (zeroR n) i) k = 0 := by
  unfold nthR zeroR
  rcases h : (List.replicate n (List.replicate n (0 : Int)))[i]? with _ | y
  · rfl
  · have := List.mem_of_getElem? h
    rw [List.mem_replicate] at this
    show nth y k = 0
    rw [this.2]; exact nth_zeros n k
theorem settle_one {cs : List Int} (h : (settleS cs 1).2 = 0) : (settleS cs 1).1.length = cs.length ∧ 0 ≤ spreadS (settleS cs 1).1 ∧ spreadS (settleS cs 1).1 ≤ 0 := by
  unfold settleS at *
  by_cases h1 : (0 : Int) ≤ 1 ∧ (1 : Int) ≤ 64 ∧ 4 ≤ cs.length ∧ cs.length ≤ 8
  · rw [if_neg (fun e => e h1)] at *
    by_cases h2 : offS cs = true
    · rw [if_pos h2] at h; cases h
    · rw [if_neg h2]
      have h3 : offS cs = false := by simpa using h2
      have hz : (zeroR cs.length).any offS = false := by
        rw [List.any_eq_false]; intro r hr
        unfold zeroR at hr; rw [List.mem_replicate] at hr
        rw [hr.2]; unfold offS; rw [List.any_eq_true]; rintro ⟨y, hy, ho⟩
        rw [List.mem_replicate] at hy; rw [hy.2] at ho; exact absurd ho (by decide)
      have hs : sizedS cs.length (zeroR cs.length) = true := by
        unfold sizedS wrongS zeroR; simp
      show (roundS cs (zeroR cs.length)).1.length = _ ∧ 0 ≤ spreadS (roundS cs (zeroR cs.length)).1 ∧ spreadS (roundS cs (zeroR cs.length)).1 ≤ 0
      have e : (roundS cs (zeroR cs.length)).1 = roundL cs (zeroR cs.length) := by
        unfold roundS; rw [if_neg (fun e => e ⟨h1.2.2.1, h1.2.2.2, hs⟩), if_neg (by rw [h3, hz]; decide)]
      rw [e]
      refine ⟨roundL_length _ _, ?_⟩
      have := spread_near (l := roundL cs (zeroR cs.length)) (m := meet cs) (e := 0) (Int.le_refl _) (fun i hi => by
        rw [roundL_length] at hi
        rw [roundL_nth _ _ _ hi]
        exact clS_near (by omega) h3 (nthR_off hz i) (fun k => by rw [nthR_zeros]; omega))
      omega
  · rw [if_pos h1] at h; cases h
theorem round_near {cs : List Int} {rows : List (List Int)} {e : Int} (he : 0 ≤ e) (h : (roundS cs rows).2 = 0) (hw : ∀ r ∈ rows, ∀ y ∈ r, -e ≤ y ∧ y ≤ e) : 0 ≤ spreadS (roundS cs rows).1 ∧ spreadS (roundS cs rows).1 ≤ 2 * e := by
  obtain ⟨h1, h2, h3, h4, h5⟩ := roundS_ok h
  rw [h5]
  refine spread_near (m := meet cs) he fun i hi => ?_
  rw [roundL_length] at hi
  rw [roundL_nth _ _ _ hi]
  refine clS_near (by omega) h3 (nthR_off h4 i) (nth_in he ?_)
  unfold nthR
  rcases hr : rows[i]? with _ | r
  · intro y hy; cases hy
  · exact hw r (List.mem_of_getElem? hr)
end Go.Proofs.Ytfncccjiiipfoaa
