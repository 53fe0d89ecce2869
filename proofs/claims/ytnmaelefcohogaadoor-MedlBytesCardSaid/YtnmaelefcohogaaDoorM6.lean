/-
  Bytes of package medl. Condition: a list that can be read. (Printed by tools/gen07m6.py.)
-/
import Derived.Test.YtnmaelefcohogaaDoorM5
namespace Go.Proofs.YtnmaelefcohogaaDoor
open Go.RowKit

/-- A list's bytes. -/
def bytesM (m : ML) : List UInt8 := bodyB m ++ beB (sumN (bodyB m)) 3
def bytesS (m : ML) : List UInt8 := if okM m then bytesM m else []
theorem flat_len (N : Nat) (ms : List Md) (h : ∀ o ∈ ms, (o.d.length : Int) = N) : (ms.flatMap modeB).length = ms.length * (N + 2) := by
  induction ms with
  | nil => simp
  | cons o ms ih =>
    have h1 := h o (List.mem_cons_self ..)
    have h2 := ih fun x hx => h x (List.mem_cons_of_mem _ hx)
    rw [List.flatMap_cons, List.length_append, modeB_length, h2, List.length_cons, Nat.add_mul]
    omega
theorem bodyB_length {m : ML} (h : okM m) : (bodyB m).length = 18 + m.ms.length * (m.N.toNat + 2) := by
  unfold bodyB
  rw [List.length_append, headB_length, flat_len m.N.toNat m.ms (fun o ho => by have := (okM_mode h ho).1; have := h.1; omega)]
theorem bodyB_le {m : ML} (h : okM m) : (bodyB m).length ≤ 58 := by
  rw [bodyB_length h]
  have h1 := h.1; have h2 := h.2.1
  have : m.ms.length * (m.N.toNat + 2) ≤ 4 * 10 := Nat.mul_le_mul h2.2 (by omega)
  omega
theorem own_caps {W : World} {b : Nat} {e : TypeId} {A : Option Addr} {n c k : Nat} {xs : List Value} (h : W.ownsRow b e 1 (.slice A n c) k xs) : n ≤ c ∧ c ≤ maxLen := by
  rcases h.2 with ⟨he, _⟩ | ⟨g, cap, cur, he, _, _, h1, h2, _⟩
  · injection he with _ h1 h2
    subst h1; subst h2
    exact ⟨Nat.le_refl _, Nat.zero_le _⟩
  · injection he with _ h3 h4
    subst h3; subst h4
    exact ⟨h1, h2⟩
/-- What Bytes answers. -/
def BytR (w : World) (m : ML) (e : Ending) (w' : World) : Prop := ∃ A c, e = .returned (.tuple #[.slice A (bytesS m).length c, .int .i64 (checkM m)]) ∧ Byt w'.heap.size w' A (bytesS m) ∧ (bytesS m).length ≤ c ∧ c ≤ maxLen ∧ Below w.heap.size w w'
set_option maxRecDepth 100000 in
set_option maxHeartbeats 4000000 in
theorem bytes_any (m : ML) (c s : Slc) (w : World) (hM : Med w m c s) (hT : Tab w) : Calls Tryd.prog 5 #[vM m c s] w (BytR w m) := by
  have hck := fun W (h : Below w.heap.size w W) => mcheck_any m c s W (hM.on h)
  unfold BytR bytesS
  by_cases hok : okM m
  rotate_left
  · rw [if_neg hok]
    have hc0 : ¬ checkM m = 0 := fun h => hok (checkM_ok h)
    have hne := neq_of hc0
    generalize checkM m = er at *
    have HCK := Lib.hid hck; clear hck hM hT hok hc0
    obtain ⟨N, S, G, W, D, L, cold, ms⟩ := m
    obtain ⟨Ac, nc, cc⟩ := c
    obtain ⟨As, ns, cs⟩ := s
    dsimp only [vM] at *
    obtain ⟨kb, bc⟩ := bx1 w #[.int .i64 N, .int .i64 S, .int .i64 G, .int .i64 W, .int .i64 D, .int .i64 L, .slice Ac nc cc, .slice As ns cs] 25
    go_enter Tryd.func5, Tryd.ntmps5
    go_wp2_with (go_at_call 12; refine (HCK.out _ bc).mono ?_; rintro e w1 ⟨rfl, hC⟩; replace bc := bc.trans (hC.mono bc.size); clear hC)
    go_ret2
    exact ⟨none, 0, rfl, fun h => absurd rfl h, Nat.le_refl _, Nat.zero_le _, bc⟩
  rw [if_pos hok]
  rw [checkM_yes hok] at hck ⊢
  have hle := bodyB_le hok
  have htell := fun B g W (hM : MedB g W m c s) h1 h2 h3 => tell_any B g m c s W hok hM h1 h2 h3
  obtain ⟨b, hb⟩ : ∃ b, b = bodyB m := ⟨_, rfl⟩
  have hbm : bytesM m = b ++ beB (sumN b) 3 := by rw [hb]; rfl
  rw [hbm]
  rw [← hb] at htell hle
  obtain ⟨bb, hbb⟩ : ∃ x, x = b ++ beB (sumN b) 3 := ⟨_, rfl⟩
  rw [← hbb]
  have HBB := Lib.hid hbb; clear hbb
  have HCK := Lib.hid hck; have HTL := Lib.hid htell; have HM := Lib.hid hM; have HT := Lib.hid hT; clear hck hM hT hok htell hb hbm
  obtain ⟨N, S, G, W, D, L, cold, ms⟩ := m
  obtain ⟨Ac, nc, cc⟩ := c
  obtain ⟨As, ns, cs⟩ := s
  dsimp only [vM] at *
  obtain ⟨kb, bc⟩ := bx1 w #[.int .i64 N, .int .i64 S, .int .i64 G, .int .i64 W, .int .i64 D, .int .i64 L, .slice Ac nc cc, .slice As ns cs] 25
  go_enter Tryd.func5, Tryd.ntmps5
  go_wp2_with (go_at_call 12; refine (HCK.out _ bc).mono ?_; rintro e w1 ⟨rfl, hC⟩; replace kb := kb.on hC; replace bc := bc.trans (hC.mono bc.size); clear hC HCK; obtain ⟨p0, p1, p2, p3, p4, p5, p6, p7⟩ := kb.eight; have lb := kb.lt)
  have al := Below.al w1 (.cells #[.slice none 0 0] 38)
  have hM1 := HM.out.on bc
  have hMB : MedB w1.heap.size (w1.alloc (.cells #[.slice none 0 0] 38)) ⟨N, S, G, W, D, L, cold, ms⟩ ⟨Ac, nc, cc⟩ ⟨As, ns, cs⟩ := ⟨hM1.cb.below al, hM1.cn, hM1.cm, hM1.sb.below al, hM1.sn, hM1.sm⟩
  have hW0 : Wr (w1.heap.size + 1) w1.heap.size [] (w1.alloc (.cells #[.slice none 0 0] 38)) := ⟨none, 0, Blk.new _ _ _, World.ownsRow_nil _ _ _ _⟩
  refine (HTL.out (w1.heap.size + 1) w1.heap.size _ hMB (by omega) (by simp) hW0).mono ?_
  rintro e w2 ⟨rfl, hW1, hK1, hB1⟩
  dsimp only
  replace bc := (bc.trans (al.mono bc.size)).trans (hK1.1.mono bc.size)
  have hg := bc.size
  have hTw := HT.out.below bc (.inl (Nat.le_refl _))
  generalize hgg : w1.heap.size = g at *
  have hwg : w.heap.size ≤ g := by omega
  clear hMB hW0 hK1 al hM1 HTL HM p0 p1 p2 p3 p4 p5 p6 p7 kb lb hg hgg
  obtain ⟨A, c2, hb, ho⟩ := hW1
  obtain ⟨A', c', hv, hby⟩ := byt_of_own ho
  injection hv with h1 _ h3
  subst h1; subst h3
  have q0 := hb.one.1
  have lb := hb.lt
  go_wp2_with (first
    | (go_at_call 14; have _t := hW3; refine (wputI (g + 1) g _ _ (sumN b) 3 b _ rfl rfl (by omega) hB3 (by decide) (by omega) hW3).mono ?_; rintro e w4 ⟨rfl, hW4, hK4, hB4⟩; rw [← HBB.out] at hW4; obtain ⟨A4, c4, hb4, ho4⟩ := hW4; have q4 := hb4.one.1; have lb4 := hb4.lt)
    | (go_at_call 15; refine (sumOf_any A c2 b _ (by omega) hby hTw).mono ?_; rintro e w3 ⟨rfl, hC⟩; have hW3 : Wr (g + 1) g b w3 := ⟨A, c2, hb.on hC, own_on ho hC⟩; have hB3 : g + 1 ≤ w3.heap.size := Nat.le_trans hB1 hC.size; replace bc := bc.trans (hC.mono bc.size)))
  obtain ⟨A5, c5, hv, hby4⟩ := byt_of_own ho4
  injection hv with h1 _ h3
  subst h1; subst h3
  go_ret2
  exact ⟨A4, c4, rfl, hby4, (own_caps ho4).1, (own_caps ho4).2, bc.trans (hK4.1.mono hwg)⟩
end Go.Proofs.YtnmaelefcohogaaDoor
