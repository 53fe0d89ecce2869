/-
  What comes of a view that may be may be, in plain Lean; who heard no more right than wrong does not send. No condition but those that each theorem names.
-/
import Derived.Test.YtffbhdllepjdeaaVA
namespace Go.Proofs.Ytffbhdllepjdeaa
open Go.RowKit

theorem ok_nat {m : MV} (h : okV m) : ∃ i n a r : Nat, m.I = (i : Int) ∧ m.N = (n : Int) ∧ m.S = (a : Int) ∧ m.R = (r : Int) ∧ 4 ≤ n ∧ n ≤ 8 ∧ i < n ∧ r < n ∧ a < 2 ^ n := by
  obtain ⟨⟨n0, n1⟩, ⟨i0, i1⟩, ⟨r0, r1⟩, ⟨s0, s1⟩, _⟩ := h
  obtain ⟨i, hi⟩ := Int.eq_ofNat_of_zero_le i0
  obtain ⟨n, hn⟩ := Int.eq_ofNat_of_zero_le (show 0 ≤ m.N by omega)
  obtain ⟨a, ha⟩ := Int.eq_ofNat_of_zero_le s0
  obtain ⟨r, hr⟩ := Int.eq_ofNat_of_zero_le r0
  rw [hn, ha, pw_nat] at s1
  exact ⟨i, n, a, r, hi, hn, ha, hr, by omega, by omega, by omega, by omega, by exact_mod_cast s1⟩
theorem ok_mk {i n a r : Nat} {A F G : Int} (n0 : 4 ≤ n) (n1 : n ≤ 8) (hi : i < n) (hr : r < n) (ha : a < 2 ^ n) (hA : 0 ≤ A ∧ A ≤ 1048576) (hF : 0 ≤ F ∧ F ≤ 1048576) (hG : 0 ≤ G ∧ G ≤ 2) (hh : G = 0 ∨ a.testBit i = true) (hd : G = 2 → r ≠ i) :
    okV ⟨i, n, a, A, F, G, r⟩ := by
  have h256 : a < 256 := Nat.lt_of_lt_of_le ha (pow_256 n1)
  refine ⟨⟨by dsimp only; omega, by dsimp only; omega⟩, ⟨by dsimp only; omega, by dsimp only; omega⟩, ⟨by dsimp only; omega, by dsimp only; omega⟩, ⟨by dsimp only; omega, ?_⟩, hA, hF, hG, ?_, ?_⟩
  · dsimp only; rw [pw_nat]; exact_mod_cast ha
  · rcases hh with h | h
    · exact .inl h
    · right; dsimp only; rw [has_nat h256 (by omega)]; exact h
  · rintro ⟨h1, h2⟩
    dsimp only at h1 h2
    exact hd h1 (by omega)
theorem more_may {n : Int} (h0 : 0 ≤ n) : 0 ≤ moreV n ∧ moreV n ≤ 1048576 := by unfold moreV; omega
theorem ok_more {m : MV} (h : okV m) : (0 ≤ m.A ∧ m.A ≤ 1048576) ∧ (0 ≤ m.F ∧ m.F ≤ 1048576) ∧ (0 ≤ m.G ∧ m.G ≤ 2) := ⟨h.2.2.2.2.1, h.2.2.2.2.2.1, h.2.2.2.2.2.2.1⟩
theorem ok_own {m : MV} (h : okV m) {i a : Nat} (hi : m.I = (i : Int)) (ha : m.S = (a : Int)) (h256 : a < 256) (h8 : i < 8) : m.G = 0 ∨ a.testBit i = true := by
  rcases h.2.2.2.2.2.2.2.1 with h1 | h1
  · exact .inl h1
  · rw [ha, hi, has_nat h256 h8] at h1; exact .inr h1

/-- Each set with which a frame is tried has the sender, and no node that there is not. -/
theorem sets_nat {i n a r s : Nat} {A F G : Int} (n1 : n ≤ 8) (hi : i < n) (hr : r < n) (ha : a < 2 ^ n) (hs : s < n) (hsi : s ≠ i) (y : Int) (hy : y ∈ setsV ⟨i, n, a, A, F, G, r⟩ (s : Int)) :
    ∃ b : Nat, y = (b : Int) ∧ b < 2 ^ n ∧ b.testBit s = true := by
  have p256 := pow_256 n1
  have h1 : addN a s < 2 ^ n := add_lt ha hs
  have h2 : addN (addN a s) i < 2 ^ n := add_lt h1 hi
  have h3 : addN (addN a s) r < 2 ^ n := add_lt h1 hr
  have e1 : orI (a : Int) (pw (s : Int)) = ((addN a s : Nat) : Int) := or_nat (by omega) (by omega)
  have e2 : orI ((addN a s : Nat) : Int) (pw (i : Int)) = ((addN (addN a s) i : Nat) : Int) := or_nat (by omega) (by omega)
  have e3 : orI ((addN a s : Nat) : Int) (pw (r : Int)) = ((addN (addN a s) r : Nat) : Int) := or_nat (by omega) (by omega)
  have e4 : outI ((addN a s : Nat) : Int) (pw (i : Int)) = ((delN (addN a s) i : Nat) : Int) := out_nat (by omega) (by omega)
  have e5 : outI ((addN (addN a s) i : Nat) : Int) (pw (r : Int)) = ((delN (addN (addN a s) i) r : Nat) : Int) := out_nat (by omega) (by omega)
  have e6 : outI ((addN (addN a s) r : Nat) : Int) (pw (i : Int)) = ((delN (addN (addN a s) r) i : Nat) : Int) := out_nat (by omega) (by omega)
  unfold setsV at hy
  dsimp only at hy
  rw [e1, e2, e3, e4, e5, e6] at hy
  split at hy
  · obtain rfl := List.mem_singleton.1 hy
    exact ⟨_, rfl, h1, by rw [add_test]; simp⟩
  · split at hy
    · rcases List.mem_cons.1 hy with rfl | hy
      · exact ⟨_, rfl, h2, by rw [add_test, add_test]; simp⟩
      · obtain rfl := List.mem_singleton.1 hy
        exact ⟨_, rfl, del_lt h1, by rw [del_test (by omega) (by omega), add_test]; simp; omega⟩
    · split at hy
      · obtain rfl := List.mem_singleton.1 hy
        exact ⟨_, rfl, h2, by rw [add_test, add_test]; simp⟩
      · rename_i hsr
        rcases List.mem_cons.1 hy with rfl | hy
        · exact ⟨_, rfl, del_lt h2, by rw [del_test (by omega) (by omega), add_test, add_test]; simp; omega⟩
        · obtain rfl := List.mem_singleton.1 hy
          exact ⟨_, rfl, del_lt h3, by rw [del_test (by omega) (by omega), add_test, add_test]; simp; omega⟩

theorem good_may {m x : MV} {s k : Int} (h : goodV m s k = (0, x)) : okV x ∧ hasI x.S s = true := by
  unfold goodV at h
  split at h
  · rename_i hask
    have hok : okV m := by
      rcases Classical.em (okV m) with h1 | h1
      · exact h1
      · unfold askV at hask; rw [if_neg h1] at hask; cases hask
    have hoth : othV m s := by
      rcases Classical.em (othV m s) with h1 | h1
      · exact h1
      · unfold askV at hask; rw [if_pos hok, if_neg h1] at hask; cases hask
    obtain ⟨hA, hF, hG⟩ := ok_more hok
    obtain ⟨i, n, a, r, ei, en, ea, er, n0, n1, hi, hr, ha⟩ := ok_nat hok
    have p256 := pow_256 n1
    have hsx := hoth.1.1
    obtain ⟨s', rfl⟩ := Int.eq_ofNat_of_zero_le hsx
    have hs : s' < n := by have := hoth.1.2; omega
    have hsi : s' ≠ i := by have := hoth.2; omega
    have hv : ∀ y, viewOfV m s' k = some y → ∃ b : Nat, y = (b : Int) ∧ b < 2 ^ n ∧ b.testBit s' = true := by
      intro y hy
      unfold viewOfV viewsV at hy
      split at hy
      · cases hy
      · refine sets_nat (A := m.A) (F := m.F) (G := m.G) n1 hi hr ha hs hsi y ?_
        rw [← ei, ← en, ← ea, ← er]
        exact List.mem_of_getElem? hy
    clear hok hoth hask
    obtain ⟨I, N, S, A, F, G, R⟩ := m
    dsimp only at *
    subst ei en ea er
    split at h
    · rename_i set hset
      obtain ⟨b, rfl, hb, hbs⟩ := hv set hset
      clear hv hset
      have ex : x = rightV ⟨i, n, a, A, F, G, r⟩ s' k b := (congrArg Prod.snd h).symm
      subst ex
      clear h
      unfold rightV
      dsimp only
      have hma := more_may hA.1
      have hmf := more_may hF.1
      split
      · have e : orI (b : Int) (pw (i : Int)) = ((addN b i : Nat) : Int) := or_nat (by omega) (by omega)
        rw [e]
        have hlt : addN b i < 2 ^ n := add_lt hb hi
        refine ⟨ok_mk n0 n1 hi hs hlt hA hF (by omega) (.inr (by rw [add_test]; simp)) (fun _ => hsi), ?_⟩
        dsimp only
        rw [has_nat (by omega) (by omega), add_test, hbs]; rfl
      · split
        · refine ⟨ok_mk (r := 0) n0 n1 hi (by omega) hb hma hmf (by omega) (.inl rfl) (fun h => by cases h), ?_⟩
          dsimp only
          rw [has_nat (by omega) (by omega)]; exact hbs
        · split
          · refine ⟨ok_mk (r := 0) n0 n1 hi (by omega) hb hma hF (by omega) (.inl rfl) (fun h => by cases h), ?_⟩
            dsimp only
            rw [has_nat (by omega) (by omega)]; exact hbs
          · rename_i hg
            have hg0 : G = 0 := by omega
            subst hg0
            refine ⟨ok_mk n0 n1 hi hr hb hma hF (by omega) (.inl rfl) (fun h => by cases h), ?_⟩
            dsimp only
            rw [has_nat (by omega) (by omega)]; exact hbs
    · have := congrArg Prod.fst h
      cases this
  · rename_i hask
    have := congrArg Prod.fst h
    exact absurd this hask

theorem gone_may {m : MV} {s : Int} (hask : askV m s = 0) : okV (goneV m s) ∧ (goneV m s).F = m.F := by
  have hok : okV m := by
    rcases Classical.em (okV m) with h1 | h1
    · exact h1
    · unfold askV at hask; rw [if_neg h1] at hask; cases hask
  have hoth : othV m s := by
    rcases Classical.em (othV m s) with h1 | h1
    · exact h1
    · unfold askV at hask; rw [if_pos hok, if_neg h1] at hask; cases hask
  obtain ⟨hA, hF, hG⟩ := ok_more hok
  obtain ⟨i, n, a, r, ei, en, ea, er, n0, n1, hi, hr, ha⟩ := ok_nat hok
  have p256 := pow_256 n1
  have hown := ok_own hok ei ea (by omega) (by omega)
  obtain ⟨s', rfl⟩ := Int.eq_ofNat_of_zero_le hoth.1.1
  have hs : s' < n := by have := hoth.1.2; omega
  have hsi : s' ≠ i := by have := hoth.2; omega
  have hd := hok.2.2.2.2.2.2.2.2
  clear hok hoth hask
  obtain ⟨I, N, S, A, F, G, R⟩ := m
  dsimp only at *
  subst ei en ea er
  have e : outI (a : Int) (pw (s' : Int)) = ((delN a s' : Nat) : Int) := out_nat (by omega) (by omega)
  have hlt : delN a s' < 2 ^ n := del_lt ha
  have hbit : G = 0 ∨ (delN a s').testBit i = true := hown.imp id (fun h => by rw [del_test (by omega) (by omega), h]; simp; omega)
  unfold goneV
  dsimp only
  rw [e]
  split
  · rename_i hc
    exact ⟨ok_mk (r := 0) n0 n1 hi (by omega) hlt hA hF (by omega) (.inr (hbit.resolve_left (by omega))) (fun h => by cases h), rfl⟩
  · exact ⟨ok_mk n0 n1 hi hr hlt hA hF hG hbit (fun h e => hd ⟨h, by omega⟩), rfl⟩
theorem null_may {m x : MV} {s : Int} (h : nullV m s = (0, x)) : okV x := by
  unfold nullV at h
  split at h
  · rename_i hask
    have ex : x = goneV m s := (congrArg Prod.snd h).symm
    rw [ex]
    exact (gone_may hask).1
  · rename_i hask
    exact absurd (congrArg Prod.fst h) hask
theorem fail_may {m : MV} (h : okV m) : okV (failV m) := by
  obtain ⟨h1, h2, h3, h4, h5, h6, h7, h8, h9⟩ := h
  exact ⟨h1, h2, h3, h4, h5, more_may h6.1, h7, h8, h9⟩
theorem bad_may {m x : MV} {s : Int} (h : badV m s = (0, x)) : okV x := by
  unfold badV at h
  split at h
  · rename_i hask
    have ex : x = failV (goneV m s) := (congrArg Prod.snd h).symm
    rw [ex]
    exact fail_may (gone_may hask).1
  · rename_i hask
    exact absurd (congrArg Prod.fst h) hask
theorem sent_may {m : MV} (hok : okV m) : okV (sentV m) ∧ inV (sentV m) = true := by
  obtain ⟨i, n, a, r, ei, en, ea, er, n0, n1, hi, hr, ha⟩ := ok_nat hok
  have p256 := pow_256 n1
  clear hok
  obtain ⟨I, N, S, A, F, G, R⟩ := m
  dsimp only at *
  subst ei en ea er
  have e : orI (a : Int) (pw (i : Int)) = ((addN a i : Nat) : Int) := or_nat (by omega) (by omega)
  have hlt : addN a i < 2 ^ n := add_lt ha hi
  have hk : okV ⟨i, n, (addN a i : Nat), 1, 0, 1, (0 : Nat)⟩ := ok_mk n0 n1 hi (by omega) hlt (by omega) (by omega) (by omega) (.inr (by rw [add_test]; simp)) (fun h => by cases h)
  unfold sentV inV
  dsimp only
  rw [e]
  refine ⟨hk, ?_⟩
  rw [show decide (okV ⟨i, n, (addN a i : Nat), 1, 0, 1, 0⟩) = true from decide_eq_true hk, Bool.true_and]
  rw [has_nat (by omega) (by omega), add_test]; simp
/-- Own and Join of a view that may be. -/
theorem own_may {m : MV} (hok : okV m) : ∃ v x, ownV m = (0, v, x) ∧ okV x ∧ (v == 1) = decide (m.F < m.A) ∧ ((v != 1) = true ∨ inV x = true) := by
  unfold ownV
  rw [if_pos hok]
  by_cases h : m.A ≤ m.F
  · rw [if_pos h]
    exact ⟨2, m, rfl, hok, by rw [decide_eq_false (by omega)]; rfl, .inl rfl⟩
  · rw [if_neg h]
    exact ⟨1, sentV m, rfl, (sent_may hok).1, by rw [decide_eq_true (by omega)]; rfl, .inr (sent_may hok).2⟩
theorem join_may {m : MV} (hok : okV m) : ∃ v x, joinV m = (0, v, x) ∧ okV x ∧ (v == 1) = decide (m.F < m.A) := by
  unfold joinV
  by_cases h : m.A = 0 ∧ m.F = 0
  · rw [if_pos ⟨hok, h⟩]
    exact ⟨3, m, rfl, hok, by rw [decide_eq_false (by omega)]; rfl⟩
  · rw [if_neg (fun e => h e.2)]
    obtain ⟨v, x, h1, h2, h3, _⟩ := own_may hok
    exact ⟨v, x, h1, h2, h3⟩
end Go.Proofs.Ytffbhdllepjdeaa
