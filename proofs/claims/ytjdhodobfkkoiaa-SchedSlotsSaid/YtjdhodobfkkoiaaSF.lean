/-
  The document's put: a span put into spans that rise. Conditions: a row that can be read, of up to 60 spans that rise and do not touch; a span that is not empty.
-/
import Derived.Test.YtjdhodobfkkoiaaSE
namespace Go.Proofs.Ytjdhodobfkkoiaa
open Go.RowKit

/-- What is so behind k rounds of put: what came out, and what is still to come, are the answer. -/
def InsRel (R l : List Sp) (k : Nat) (dn : Bool) (s : Sp) (out : List Sp) : Prop :=
  s.1 < s.2 ∧ out.length ≤ k + dn.toNat ∧ (dn = false → R = out ++ insS (l.drop k) s) ∧ (dn = true → R = out ++ l.drop k ∧ ∀ x ∈ l.drop k, s.2 < x.1)
theorem ins_start {l : List Sp} {s : Sp} (hs : s.1 < s.2) : InsRel (insS l s) l 0 false s [] := ⟨hs, by simp, fun _ => by simp, fun h => by cases h⟩
theorem drop_at {l : List Sp} {k : Nat} (hk : k < l.length) : l.drop k = (l[k]?.getD (0, 0)) :: l.drop (k + 1) := by
  rw [List.drop_eq_getElem_cons hk, List.getElem?_eq_getElem hk]; rfl
theorem normal_at {l : List Sp} {k : Nat} (hl : Normal l) (hk : k < l.length) : (l[k]?.getD (0, 0)).1 < (l[k]?.getD (0, 0)).2 ∧ ∀ y ∈ l.drop (k + 1), (l[k]?.getD (0, 0)).2 < y.1 := by
  have h1 : Normal (l.drop k) := ⟨hl.1.sublist (List.drop_sublist k l), fun x hx => hl.2 x (List.mem_of_mem_drop hx)⟩
  rw [drop_at hk] at h1
  obtain ⟨a, b, _⟩ := normal_cons.1 h1
  exact ⟨b, a⟩
theorem ins_low {R l : List Sp} {k : Nat} {s x : Sp} {out : List Sp} (h : InsRel R l k false s out) (hk : k < l.length) (hx : l[k]?.getD (0, 0) = x) (c : x.2 < s.1) : InsRel R l (k + 1) false s (out ++ [x]) := by
  obtain ⟨h1, h2, h3, _⟩ := h
  refine ⟨h1, by simp at h2 ⊢; omega, fun _ => ?_, fun h => by cases h⟩
  rw [h3 rfl, drop_at hk, hx]
  simp [insS, c]
theorem ins_here {R l : List Sp} {k : Nat} {s x : Sp} {out : List Sp} (hl : Normal l) (h : InsRel R l k false s out) (hk : k < l.length) (hx : l[k]?.getD (0, 0) = x) (c : ¬ x.2 < s.1) (c2 : s.2 < x.1) : InsRel R l (k + 1) true s (out ++ [s] ++ [x]) := by
  obtain ⟨h1, h2, h3, _⟩ := h
  refine ⟨h1, by simp at h2 ⊢; omega, fun h => (by cases h), fun _ => ⟨?_, fun y hy => ?_⟩⟩
  · rw [h3 rfl, drop_at hk, hx]
    simp [insS, c, c2]
  · have hn := normal_at hl hk
    rw [hx] at hn
    have := hn.2 y hy
    omega
theorem ins_join {R l : List Sp} {k : Nat} {s x : Sp} {out : List Sp} (h : InsRel R l k false s out) (hk : k < l.length) (hx : l[k]?.getD (0, 0) = x) (c : ¬ x.2 < s.1) (c2 : ¬ s.2 < x.1) : InsRel R l (k + 1) false (min s.1 x.1, max s.2 x.2) out := by
  obtain ⟨h1, h2, h3, _⟩ := h
  refine ⟨by dsimp only; omega, by simp at h2 ⊢; omega, fun _ => ?_, fun h => by cases h⟩
  rw [h3 rfl, drop_at hk, hx]
  simp [insS, c, c2]
theorem ins_more {R l : List Sp} {k : Nat} {s x : Sp} {out : List Sp} (hl : Normal l) (h : InsRel R l k true s out) (hk : k < l.length) (hx : l[k]?.getD (0, 0) = x) : (¬ x.2 < s.1 ∧ s.2 < x.1) ∧ InsRel R l (k + 1) true s (out ++ [x]) := by
  obtain ⟨h1, h2, _, h3⟩ := h
  obtain ⟨h4, h5⟩ := h3 rfl
  have hn := normal_at hl hk
  rw [drop_at hk, hx] at h4 h5
  rw [hx] at hn
  have hc := h5 x List.mem_cons_self
  refine ⟨⟨by omega, hc⟩, h1, by simp at h2 ⊢; omega, fun h => (by cases h), fun _ => ⟨by rw [h4]; simp, fun y hy => h5 y (List.mem_cons_of_mem _ hy)⟩⟩
theorem ins_end_no {R l : List Sp} {s : Sp} {out : List Sp} (h : InsRel R l l.length false s out) : R = out ++ [s] := by
  rw [h.2.2.1 rfl]; simp [insS]
theorem ins_end_yes {R l : List Sp} {s : Sp} {out : List Sp} (h : InsRel R l l.length true s out) : R = out := by
  rw [(h.2.2.2 rfl).1]; simp

theorem blk_append {w w' : World} {b q : Nat} {t : TypeId} {cs : Array Value} {e : TypeId} {size : Nat} {v : Value} {n : Nat} {xs : List Value} {o : Obj} (h : Blk w q t cs) (hrow : w.ownsRow b e size v n xs) (hg : (w.alloc o).grownBy w' v.ownBlock) (hq : q < b) : Blk w' q t cs :=
  (own_grown_low hrow hg q hq h.lt).trans h
/-- A block that was new when the row was older than it. -/
theorem blk_top {w0 w w' : World} {b q : Nat} {t : TypeId} {cs : Array Value} {e : TypeId} {size : Nat} {v : Value} {n : Nat} {xs : List Value} {o : Obj} (h : Blk w q t cs) (_ : w.ownsRow b e size v n xs) (hrow0 : w0.ownsRow b e size v n xs) (hg : (w.alloc o).grownBy w' v.ownBlock) (hq : w0.heap.size ≤ q) : Blk w' q t cs :=
  (hg.block q (by have := h.lt; simp; omega) (fun e => by have := (hrow0.lt q e.symm).2; omega)).trans (h.alloc o)
theorem cellsS_snoc (l : List Sp) (x y : Int) : cellsS (l ++ [(x, y)]) = cellsS l ++ [.int .i64 x, .int .i64 y] := by rw [cellsS_append]; rfl

set_option maxRecDepth 8000 in
set_option maxHeartbeats 4000000 in
theorem rins_any (A : Option Addr) (n c : Nat) (l : List Sp) (p q : Int) (w : World) (hn : n = l.length) (hm : n ≤ 60) (hA : Smps w.heap.size w A l) (hl : Normal l) (hs : p < q) :
    Calls Try.prog 43 #[.slice A n c, vS p q] w fun e w' => ∃ v, e = .returned v ∧ w'.ownsRow w.heap.size 23 2 v (insS l (p, q)).length (cellsS (insS l (p, q))) ∧ Below w.heap.size w w' := by
  obtain ⟨R, hR⟩ : ∃ R, R = insS l (p, q) := ⟨_, rfl⟩
  rw [← hR]
  have h0 : InsRel R l 0 false (p, q) [] := by rw [hR]; exact ins_start hs
  have HN := Lib.hid hn; have HA := Lib.hid hA; have HL := Lib.hid hl; have H0 := Lib.hid h0
  clear hn hA hl h0 hR hs
  obtain ⟨i0, hi, hz0, hz1, hz2⟩ := info_parts Try.infoSp
  have kb := Blk.new w 23 #[.int .i64 p, .int .i64 q]
  have bb := Below.al w (.cells #[.int .i64 p, .int .i64 q] 23)
  have hz : (w.alloc (.cells #[.int .i64 p, .int .i64 q] 23)).heap.size = w.heap.size + 1 := by simp
  have KB := Lib.hid kb; have BB := Lib.hid bb; have HZ := Lib.hid hz; clear kb bb hz
  go_enter Try.func43, Try.ntmps43
  go_wp2
  go_loopw [5, 6, 7] (fun ov dv i wr => ∃ (k : Nat) (p q : Int) (dn : Bool) (out : List Sp), k ≤ n ∧ i = .int .i64 k ∧ dv = .bool dn ∧ InsRel R l k dn (p, q) out ∧ wr.ownsRow (w.heap.size + 1) 23 2 ov out.length (cellsS out) ∧ Blk wr w.heap.size 23 #[.int .i64 p, .int .i64 q] ∧ Below w.heap.size w wr)
    (fun _ _ i _ => n - (intOf i).toNat)
  case atStart => exact ⟨0, p, q, false, [], by omega, rfl, rfl, H0.out, World.ownsRow_nil _ _ _ _, KB.out, BB.out⟩
  case round =>
    clear KB BB HZ H0
    obtain ⟨k, p, q, dn, out, hk, rfl, rfl, hrel, hrow, kb, bc⟩ := hrel
    have hlen := hrel.2.1
    have hdn : dn.toNat ≤ 1 := by cases dn <;> simp
    have hsr := kb.lt
    obtain ⟨b0, b1, f0, f1⟩ := kb.two
    by_cases hlt : k < n
    · have hkl : k < l.length := by have := HN.out; omega
      obtain ⟨b, off, rfl, hbl, hc0, hc1⟩ := (HA.out.below bc).at_ hkl
      have hbs : b < wr.heap.size := Nat.lt_of_lt_of_le hbl bc.size
      obtain ⟨x, hx⟩ : ∃ x, l[k]?.getD (0, 0) = x := ⟨_, rfl⟩
      rw [hx] at hc0 hc1
      obtain ⟨u, v⟩ := x
      dsimp only at hc0 hc1
      have hrx := hrow.alloc (.cells #[.int .i64 u, .int .i64 v] 23)
      have kx := kb.alloc (.cells #[.int .i64 u, .int .i64 v] 23)
      have bx := bc.alloc bc.size (.cells #[.int .i64 u, .int .i64 v] 23)
      have zx : (wr.alloc (.cells #[.int .i64 u, .int .i64 v] 23)).heap.size = wr.heap.size + 1 := by simp
      cases dn with
      | false =>
        by_cases c1 : v < p
        · have hnx := ins_low hrel hkl hx c1
          have d1 : decide (v < p) = true := by simpa using c1
          have HNX := Lib.hid hnx; have KX := Lib.hid kx; have BX := Lib.hid bx; have ZX := Lib.hid zx
          clear hnx kx bx zx hrel hkl hx
          go_wp2_with (at_builtin; refine wpList_append_own _ rfl _ _ 31 rfl (w.heap.size + 1) 23 i0 (.agg #[.int .i64 0, .int .i64 0]) 2 16 Try.underlying31 hi hz0 hz1 hz2 rfl (by decide) u5 _ _ rfl (hrx.alloc _) ⟨wr.heap.size + 1, 0, none⟩ 1 1 [.int .i64 u, .int .i64 v] rfl rfl (by have := cell_two_new (wr.alloc (.cells #[.int .i64 u, .int .i64 v] 23)) (.int .i64 u) (.int .i64 v) 23; rw [ZX.out] at this; exact this) (by simp [Value.oneCell']) (by unfold maxLen; omega) (by omega) (by simp; omega) ?_; intro v3 w3 hown3 hgrow3 _)
          go_roundw
          case rel => exact ⟨k + 1, p, q, false, out ++ [(u, v)], by omega, by go_num, rfl, HNX.out, by rw [cellsS_snoc, List.length_append]; exact hown3, blk_append KX.out hrx hgrow3 (by omega), own_below hrx hgrow3 BX.out (Nat.le_succ _) BX.out.size⟩
          case measure => simp [intOf]; omega
        · have d1 : decide (v < p) = false := by simpa using c1
          by_cases c2 : q < u
          · have hnx := ins_here HL.out hrel hkl hx c1 c2
            have d2 : decide (q < u) = true := by simpa using c2
            have xx := Blk.new wr 23 #[.int .i64 u, .int .i64 v]
            have HNX := Lib.hid hnx; have KX := Lib.hid kx; have BX := Lib.hid bx; have ZX := Lib.hid zx
            clear hnx kx bx zx hrel hkl hx
            have XX := Lib.hid xx; clear xx
            go_wp2_with (first | (at_builtin; refine wpList_append_own _ rfl _ _ 31 rfl (w.heap.size + 1) 23 i0 (.agg #[.int .i64 0, .int .i64 0]) 2 16 Try.underlying31 hi hz0 hz1 hz2 rfl (by decide) u5 _ _ rfl (hrx.alloc _) ⟨wr.heap.size + 1, 0, none⟩ 1 1 [.int .i64 p, .int .i64 q] rfl rfl (by have := cell_two_new (wr.alloc (.cells #[.int .i64 u, .int .i64 v] 23)) (.int .i64 p) (.int .i64 q) 23; rw [ZX.out] at this; exact this) (by simp [Value.oneCell']) (by unfold maxLen; omega) (by omega) (by simp; omega) ?_; intro v3 w3 hown3 hgrow3 _; have xx3 := blk_top XX.out hrx hrow hgrow3 (Nat.le_refl _); obtain ⟨x0, x1, -, -⟩ := xx3.two; have kk3 := blk_append KX.out hrx hgrow3 (by omega); have bb3 := own_below hrx hgrow3 BX.out (Nat.le_succ _) BX.out.size; have zz3 := xx3.lt) | (at_builtin; refine wpList_append_own _ rfl _ _ 31 rfl (w.heap.size + 1) 23 i0 (.agg #[.int .i64 0, .int .i64 0]) 2 16 Try.underlying31 hi hz0 hz1 hz2 rfl (by decide) v3 _ _ rfl (hown3.alloc _) ⟨w3.heap.size, 0, none⟩ 1 1 [.int .i64 u, .int .i64 v] rfl rfl (cell_two_new _ _ _ _) (by simp [Value.oneCell']) (by unfold maxLen; omega) (by omega) (by simp; omega) ?_; intro v4 w4 hown4 hgrow4 _))
            go_roundw
            case rel => exact ⟨k + 1, p, q, true, out ++ [(p, q)] ++ [(u, v)], by omega, by go_num, rfl, HNX.out, by rw [cellsS_snoc, cellsS_snoc, List.length_append, List.length_append]; exact hown4, blk_append kk3 hown3 hgrow4 (by omega), own_below hown3 hgrow4 bb3 (Nat.le_succ _) bb3.size⟩
            case measure => simp [intOf]; omega
          · have hnx := ins_join hrel hkl hx c1 c2
            have d2 : decide (q < u) = false := by simpa using c2
            have KB := Lib.hid kb; have BC := Lib.hid bc; clear kb bc
            have HNX := Lib.hid hnx; have KX := Lib.hid kx; have BX := Lib.hid bx; have ZX := Lib.hid zx
            clear hnx kx bx zx hrel hkl hx
            dsimp only at HNX
            by_cases m1 : u < p
            · by_cases m2 : q < v
              ·
                rw [show min p u = u by omega, show max q v = v by omega] at HNX
                go_wp2
                go_roundw
                case rel => exact ⟨k + 1, u, v, false, out, by omega, by go_num, rfl, HNX.out, (ownsRow_setCell_below (ownsRow_setCell_below hrow (Nat.lt_succ_self _) _) (Nat.lt_succ_self _) _).alloc _, (KB.out.put2 _ _).alloc _, ((BC.out.setCell (Nat.le_refl _) _).setCell (Nat.le_refl _) _).alloc (by simpa [World.setCell] using BC.out.size) _⟩
                case measure => simp [intOf]; omega
              ·
                rw [show min p u = u by omega, show max q v = q by omega] at HNX
                go_wp2
                go_roundw
                case rel => exact ⟨k + 1, u, q, false, out, by omega, by go_num, rfl, HNX.out, (ownsRow_setCell_below (ownsRow_setCell_below hrow (Nat.lt_succ_self _) _) (Nat.lt_succ_self _) _).alloc _, (KB.out.put2 _ _).alloc _, ((BC.out.setCell (Nat.le_refl _) _).setCell (Nat.le_refl _) _).alloc (by simpa [World.setCell] using BC.out.size) _⟩
                case measure => simp [intOf]; omega
            · by_cases m2 : q < v
              ·
                rw [show min p u = p by omega, show max q v = v by omega] at HNX
                go_wp2
                go_roundw
                case rel => exact ⟨k + 1, p, v, false, out, by omega, by go_num, rfl, HNX.out, (ownsRow_setCell_below (ownsRow_setCell_below hrow (Nat.lt_succ_self _) _) (Nat.lt_succ_self _) _).alloc _, (KB.out.put2 _ _).alloc _, ((BC.out.setCell (Nat.le_refl _) _).setCell (Nat.le_refl _) _).alloc (by simpa [World.setCell] using BC.out.size) _⟩
                case measure => simp [intOf]; omega
              ·
                rw [show min p u = p by omega, show max q v = q by omega] at HNX
                go_wp2
                go_roundw
                case rel => exact ⟨k + 1, p, q, false, out, by omega, by go_num, rfl, HNX.out, (ownsRow_setCell_below (ownsRow_setCell_below hrow (Nat.lt_succ_self _) _) (Nat.lt_succ_self _) _).alloc _, (KB.out.put2 _ _).alloc _, ((BC.out.setCell (Nat.le_refl _) _).setCell (Nat.le_refl _) _).alloc (by simpa [World.setCell] using BC.out.size) _⟩
                case measure => simp [intOf]; omega
      | true =>
        obtain ⟨⟨c1, c2⟩, hnx⟩ := ins_more HL.out hrel hkl hx
        dsimp only at c1 c2
        have d1 : decide (v < p) = false := by simpa using c1
        have d2 : decide (q < u) = true := by simpa using c2
        have HNX := Lib.hid hnx; have KX := Lib.hid kx; have BX := Lib.hid bx; have ZX := Lib.hid zx
        clear hnx kx bx zx hrel hkl hx
        go_wp2_with (at_builtin; refine wpList_append_own _ rfl _ _ 31 rfl (w.heap.size + 1) 23 i0 (.agg #[.int .i64 0, .int .i64 0]) 2 16 Try.underlying31 hi hz0 hz1 hz2 rfl (by decide) u5 _ _ rfl (hrx.alloc _) ⟨wr.heap.size + 1, 0, none⟩ 1 1 [.int .i64 u, .int .i64 v] rfl rfl (by have := cell_two_new (wr.alloc (.cells #[.int .i64 u, .int .i64 v] 23)) (.int .i64 u) (.int .i64 v) 23; rw [ZX.out] at this; exact this) (by simp [Value.oneCell']) (by unfold maxLen; omega) (by omega) (by simp; omega) ?_; intro v3 w3 hown3 hgrow3 _)
        go_roundw
        case rel => exact ⟨k + 1, p, q, true, out ++ [(u, v)], by omega, by go_num, rfl, HNX.out, by rw [cellsS_snoc, List.length_append]; exact hown3, blk_append KX.out hrx hgrow3 (by omega), own_below hrx hgrow3 BX.out (Nat.le_succ _) BX.out.size⟩
        case measure => simp [intOf]; omega
    · obtain rfl : k = n := by omega
      have hkl : k = l.length := HN.out
      cases dn with
      | false =>
        have hnx : R = out ++ [(p, q)] := ins_end_no (by rw [← hkl]; exact hrel)
        have HNX := Lib.hid hnx; have KB := Lib.hid kb; have BX := Lib.hid bc
        clear hnx kb bc hrel hkl
        go_wp2_with (at_builtin; refine wpList_append_own _ rfl _ _ 31 rfl (w.heap.size + 1) 23 i0 (.agg #[.int .i64 0, .int .i64 0]) 2 16 Try.underlying31 hi hz0 hz1 hz2 rfl (by decide) u5 _ _ rfl (hrow.alloc _) ⟨wr.heap.size, 0, none⟩ 1 1 [.int .i64 p, .int .i64 q] rfl rfl (cell_two_new _ _ _ _) (by simp [Value.oneCell']) (by unfold maxLen; omega) (by omega) (by simp; omega) ?_; intro v3 w3 hown3 hgrow3 _)
        go_ret
        rw [HNX.out]
        exact ⟨v3, rfl, by rw [cellsS_snoc, List.length_append]; exact own_mono hown3 (Nat.le_succ _), own_below hrow hgrow3 BX.out (Nat.le_succ _) BX.out.size⟩
      | true =>
        have hnx : R = out := ins_end_yes (by rw [← hkl]; exact hrel)
        have HNX := Lib.hid hnx
        clear hnx hrel hkl
        go_wp2
        go_ret
        rw [HNX.out]
        exact ⟨u5, rfl, own_mono hrow (Nat.le_succ _), bc⟩
end Go.Proofs.Ytjdhodobfkkoiaa
