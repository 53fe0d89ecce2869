/-
  The law of the raised number: a number that is raised does not lower the mean. Conditions: those that each theorem names.
-/
import Derived.Test.YtfncccjiiipfoaaFI
namespace Go.Proofs.Ytfncccjiiipfoaa
open Go.RowKit

/-- The block g holds the numbers, from its first cell on; it may be stored to. -/
structure OwnJ (W : World) (g : Nat) (l : List Int) (T : TypeId) (cur : Array Value) : Prop where
  blk : Blk W g T cur
  at_ : ∀ j, j < l.length → cur[j]? = some (.int .i64 (nth l j))
theorem OwnJ.lt {W : World} {g : Nat} {l : List Int} {T : TypeId} {cur : Array Value} (h : OwnJ W g l T cur) : g < W.heap.size := h.blk.lt
theorem OwnJ.cell {W : World} {g : Nat} {l : List Int} {T : TypeId} {cur : Array Value} (h : OwnJ W g l T cur) {j : Nat} (hj : j < l.length) : W.cell? ⟨g, j, none⟩ = some (.int .i64 (nth l j)) := (h.blk.cell j).trans (h.at_ j hj)
theorem OwnJ.on {W W' : World} {g : Nat} {l : List Int} {T : TypeId} {cur : Array Value} (h : OwnJ W g l T cur) (hb : Below W.heap.size W W') : OwnJ W' g l T cur := ⟨h.blk.on hb, h.at_⟩
theorem OwnJ.below {B : Nat} {W W' : World} {g : Nat} {l : List Int} {T : TypeId} {cur : Array Value} (h : OwnJ W g l T cur) (hb : Below B W W') (hg : g < B) : OwnJ W' g l T cur := ⟨h.blk.below hb hg, h.at_⟩
theorem OwnJ.ints {W : World} {g : Nat} {l : List Int} {T : TypeId} {cur : Array Value} (h : OwnJ W g l T cur) : Ints W.heap.size W (some ⟨g, 0, none⟩) l := fun _ => ⟨g, 0, rfl, h.lt, fun j hj => by rw [Nat.zero_add]; exact h.cell hj⟩
theorem nth_set (l : List Int) (k : Nat) (v : Int) (hk : k < l.length) (j : Nat) : nth (l.set k v) j = if j = k then v else nth l j := by
  unfold nth
  rw [List.getElem?_set]
  by_cases h : k = j
  · subst h; rw [if_pos rfl, if_pos hk, if_pos rfl]; rfl
  · rw [if_neg h, if_neg (fun e => h e.symm)]
theorem OwnJ.set_ {W : World} {g : Nat} {l : List Int} {T : TypeId} {cur : Array Value} (h : OwnJ W g l T cur) {k : Nat} (hk : k < l.length) (v : Int) : OwnJ (W.setCell ⟨g, k, none⟩ (.int .i64 v)) g (l.set k v) T (cur.setIfInBounds k (.int .i64 v)) := by
  refine ⟨h.blk.set_ k _, fun j hj => ?_⟩
  rw [List.length_set] at hj
  have hc := h.at_ j hj
  rw [nth_set l k v hk, Array.getElem?_setIfInBounds]
  by_cases e : j = k
  · subst e
    have hlt : j < cur.size := by
      rcases Nat.lt_or_ge j cur.size with h | h
      · exact h
      · rw [Array.getElem?_eq_none h] at hc; cases hc
    rw [if_pos rfl, if_pos hlt, if_pos rfl]
  · rw [if_neg (fun h => e h.symm), if_neg e]; exact hc
/-- A row of the call's own, as a block. -/
theorem own_block {w : World} {base : Nat} {A : Option Addr} {n c : Nat} {l : List Int} (h : w.ownsRow base 2 1 (.slice A n c) n (l.map (Value.int .i64))) (h0 : 0 < l.length) : ∃ g cur, A = some ⟨g, 0, none⟩ ∧ base ≤ g ∧ OwnJ w g l 2 cur := by
  have hk : l.length = n := by have := h.1; rw [List.length_map] at this; omega
  rcases h.2 with ⟨h1, h2⟩ | ⟨g, cap, cur, h1, hb, hh, hc, _⟩
  · omega
  · injection h1 with h1 h2 h3
    refine ⟨g, cur, h1, hb, hh, fun j hj => ?_⟩
    subst h1
    have e1 := h.cells (g := g) rfl j (.int .i64 (l[j]?.getD 0)) (by rw [List.getElem?_map, List.getElem?_eq_getElem hj]; rfl)
    rw [addr_add, Nat.zero_add] at e1
    have hb2 : Blk w g 2 cur := hh
    rw [hb2.cell] at e1
    exact e1
theorem take_pos {t : List Int} (h : (midS t).2 = 0) : 0 < t.length ∧ inOff t := keptS_ok h
theorem midS_le {t u : List Int} (hl : t.length = u.length) (ht : (midS t).2 = 0) (hu : (midS u).2 = 0) (h : ∀ i, i < t.length → nth t i ≤ nth u i) : (midS t).1 ≤ (midS u).1 := by
  obtain ⟨h1, h2⟩ := keptS_ok ht
  obtain ⟨h3, h4⟩ := keptS_ok hu
  rw [midS_in h1 h2, midS_in h3 h4]
  have := midOf_under t u 0 hl (fun i hi => by have := h i hi; omega) h1
  show midOf t ≤ midOf u
  omega
theorem rem_nat (a m : Nat) : (a : Int).tmod (m : Int) = ((a % m : Nat) : Int) := rfl
set_option maxRecDepth 8000 in
set_option maxHeartbeats 4000000 in
theorem rises_law (A : Option Addr) (n c : Nat) (l : List Int) (at_ by_ : Nat) (w : World) (hn : n = l.length) (hm : n ≤ maxLen) (hcap : n ≤ c) (hcn : A = none → n = 0 ∧ c = 0) (hA : Ints w.heap.size w A l) (hat : at_ < 256) (hby : by_ < 65536) :
    Calls Try.prog 8 #[.slice A n c, .int .u8 (at_ : Int), .int .u16 (by_ : Int)] w fun e w' => e = .returned (.bool true) ∧ Below w.heap.size w w' := by
  obtain ⟨m, hmin⟩ : ∃ m, m = min n 60 := ⟨_, rfl⟩
  have hfew := fewJ_any A n c m w hcap hm hmin hcn
  have hml : m = (l.take m).length := by rw [List.length_take]; omega
  have hI := hA.take m
  have hnil : A = none → m = 0 ∧ c = 0 := fun h => ⟨by have := hcn h; omega, (hcn h).2⟩
  have hm6 : m ≤ 65536 := by omega
  have hmx : m ≤ maxLen := by unfold maxLen; omega
  clear hmin hA hn hcn hcap hm
  generalize l.take m = t at *
  have hin := fun w1 (h : Below w.heap.size w w1) => (hI.below h).mono h.size
  have hcl := fun w1 (h : Below w.heap.size w w1) => jcopy_any A m c t w1 hml hm6 (hin w1 h) hnil
  have hmi := fun w1 (h : Below w.heap.size w w1) => mid_any A m c t w1 hml hm6 (hin w1 h)
  unfold midV at hmi
  have hle := fun (u : List Int) (h1 : t.length = u.length) => midS_le (t := t) (u := u) h1
  have hpos := fun h => take_pos (t := t) h
  generalize midS t = p at *
  obtain ⟨p1, p2⟩ := p
  dsimp only at *
  have HF := Lib.hid hfew; have HCL := Lib.hid hcl; have HMI := Lib.hid hmi
  clear hfew hcl hmi hin hI hnil hmx
  have hB := Below.refl w.heap.size w
  by_cases h0 : p2 = 0
  · subst h0
    obtain ⟨ht0, hin⟩ := hpos rfl
    obtain ⟨k, hk⟩ : ∃ k, k = at_ % m := ⟨_, rfl⟩
    have hkm : k < m := by rw [hk]; exact Nat.mod_lt _ (by omega)
    have hrem := rem_nat at_ m
    rw [← hk] at hrem
    have hrem2 : (at_ : Int) % (m : Int) = (k : Int) := by rw [hk]; rfl
    have hy := hin _ (nth_mem (l := t) (i := k) (by omega))
    obtain ⟨y, hyd⟩ : ∃ y, y = nth t k := ⟨_, rfl⟩
    rw [← hyd] at hy
    unfold mOff at hy
    have hu : t.length = (t.set k (y + by_)).length := by simp
    have hmi2 := fun g d w3 (h : Ints w3.heap.size w3 (some ⟨g, 0, none⟩) (t.set k (y + by_))) => mid_any (some ⟨g, 0, none⟩) m d _ w3 (hml.trans hu) hm6 h
    have hup := hle _ hu rfl
    have hge : ∀ i, i < t.length → nth t i ≤ nth (t.set k (y + by_)) i := fun i _ => by
      rw [nth_set t k _ (by omega)]
      split
      · rename_i e; rw [e, ← hyd]; omega
      · exact Int.le_refl _
    replace hup := fun h => hup h hge
    have ew : IntKind.i64.wrap (y + (by_ : Int)) = y + (by_ : Int) := IntWalk.i64_in _ (by omega)
    have eb : IntKind.i64.wrap (by_ : Int) = (by_ : Int) := IntWalk.i64_in _ (by omega)
    have ea : IntKind.i64.wrap (at_ : Int) = (at_ : Int) := IntWalk.i64_in _ (by omega)
    have dm : ((m : Int) == 0) = false := by simp; omega
    have dm2 : (m == 0) = false := by simp; omega
    unfold midV at hmi2
    generalize midS (t.set k (y + by_)) = q at *
    obtain ⟨q1, q2⟩ := q
    dsimp only at *
    have htm : t.length = m := hml.symm
    have HO := Lib.hid htm; clear htm
    have HM2 := Lib.hid hmi2; have HUP := Lib.hid hup; have HY := Lib.hid hyd
    clear hmi2 hup hyd hge hu hml hle hpos hin ht0 hk
    go_enter Try.func8, Try.ntmps8
    go_wp2_with (first
      | (go_at_call 9; refine HF.out.mono ?_; rintro e w1 ⟨rfl, rfl⟩)
      | (have _ := hO; go_at_call 13; refine (HM2.out _ _ _ ((hO.set_ (by rw [HO.out]; exact hkm) _).ints)).mono ?_; rintro e w1 ⟨rfl, hC⟩)
      | (go_at_call 13; refine (HMI.out _ hB).mono ?_; rintro e w1 ⟨rfl, hC⟩; replace hB := hB.trans (hC.mono hB.size); clear hC)
      | (go_at_call 15; refine (begun_any _).mono ?_; rintro e w1 ⟨rfl, hC⟩; replace hB := hB.trans (hC.mono hB.size); clear hC)
      | (go_at_call 10; refine (HCL.out _ hB).mono ?_; rintro e w1 ⟨B, d, rfl, hcd, -, ho, -, hC⟩; obtain ⟨g, cur, rfl, hg, hO⟩ := own_block ho (by rw [HO.out]; omega); have hwg := Nat.le_trans hB.size hg; replace hB := hB.trans (hC.mono hB.size); clear hC ho; have hgl := hO.lt; have hc := hO.cell (j := k) (by rw [HO.out]; exact hkm); have hf := hO.blk.frozen k; rw [← HY.out] at hc))
    all_goals
      rename_i hq2
      have hBW := (hB.setCell (p := ⟨g, k, none⟩) hwg (.int .i64 (y + (by_ : Int)))).trans (hC.mono (by have := hB.size; simp; omega))
      first
        | (rw [decide_eq_true (HUP.out hq2)]; go_ret; exact ⟨rfl, hBW⟩)
        | (go_ret; exact ⟨rfl, hBW⟩)
  · have d0 : decide (p2 = 0) = false := by simpa using h0
    have d1 : (p2 == 0) = false := by simpa using h0
    have d2 : (p2 != 0) = true := by simpa using h0
    clear hle hpos hml hm6 hat hby
    go_enter Try.func8, Try.ntmps8
    go_wp2_with (first
      | (go_at_call 9; refine HF.out.mono ?_; rintro e w1 ⟨rfl, rfl⟩)
      | (go_at_call 13; refine (HMI.out _ hB).mono ?_; rintro e w1 ⟨rfl, hC⟩; replace hB := hB.trans (hC.mono hB.size); clear hC)
      | (go_at_call 15; refine (begun_any _).mono ?_; rintro e w1 ⟨rfl, hC⟩; replace hB := hB.trans (hC.mono hB.size); clear hC))
    go_ret
    exact ⟨rfl, hB⟩
end Go.Proofs.Ytfncccjiiipfoaa
