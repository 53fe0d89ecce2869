/-
  Precision, Bound, Listen, Retry, Kind and Air of package medl answer as the document says, of all lists. Condition: a list that can be read, and numbers that an int holds.
-/
import Derived.Test.YtnmaelefcohogaaDoorMH
namespace Go.Proofs.YtnmaelefcohogaaDoor
open Go.RowKit

/-- A number and an error's number. -/
def Pr (w : World) (r : Int × Int) (e : Ending) (w' : World) : Prop := e = .returned (.tuple #[.int .i64 r.2, .int .i64 r.1]) ∧ Below w.heap.size w w'
def precM (m : ML) : Int × Int := if checkM m = 0 then (0, 14 * m.N * m.D + 8) else (70, 0)
def boundM (m : ML) : Int × Int := if checkM m = 0 then (0, 40 * m.N) else (70, 0)
/-- Is there a list, and a node? -/
def nodeM (m : ML) (n : Int) : Int := if checkM m = 0 then (if 0 ≤ n ∧ n < m.N then 0 else 2) else 70
/-- Is there a mode, too? -/
def placeM (m : ML) (mo n : Int) : Int := if nodeM m n = 0 then (if 0 ≤ mo ∧ mo < (m.ms.length : Int) then 0 else 2) else nodeM m n
def listenM (m : ML) (n : Int) : Int × Int := if nodeM m n = 0 then (0, 4 * m.N + 2 * (n + 1)) else (nodeM m n, 0)
def retryM (m : ML) (n : Int) : Int × Int := if nodeM m n = 0 then (0, 2 * (n + 1)) else (nodeM m n, 0)
def modeAt (m : ML) (mo : Int) : Md := m.ms[mo.toNat]?.getD ⟨[], [], []⟩
def kindM (m : ML) (mo n : Int) : Int × Int := if placeM m mo n = 0 then (0, kindS ((modeAt m mo).x[n.toNat]?.getD false) ((modeAt m mo).d[n.toNat]?.getD 0)) else (placeM m mo n, 0)
def airM (m : ML) (mo n : Int) : Int × Int := if placeM m mo n = 0 then (0, airAt ((modeAt m mo).x[n.toNat]?.getD false) ((modeAt m mo).d[n.toNat]?.getD 0)) else (placeM m mo n, 0)

theorem checkM_ok {m : ML} (h : checkM m = 0) : okM m := by
  by_cases k : okM m
  · exact k
  · rw [checkM_no k] at h; cases h
theorem checkM_two (m : ML) : checkM m = 0 ∨ checkM m = 70 := by
  by_cases k : okM m
  · exact .inl (checkM_yes k)
  · exact .inr (checkM_no k)
theorem nodeM_ok {m : ML} {n : Int} (h : nodeM m n = 0) : okM m ∧ 0 ≤ n ∧ n < m.N := by
  unfold nodeM at h
  by_cases k : checkM m = 0
  · rw [if_pos k] at h
    by_cases j : 0 ≤ n ∧ n < m.N
    · exact ⟨checkM_ok k, j⟩
    · rw [if_neg j] at h; cases h
  · rw [if_neg k] at h; cases h
theorem placeM_ok {m : ML} {mo n : Int} (h : placeM m mo n = 0) : okM m ∧ (0 ≤ n ∧ n < m.N) ∧ 0 ≤ mo ∧ mo < (m.ms.length : Int) := by
  unfold placeM at h
  by_cases k : nodeM m n = 0
  · rw [if_pos k] at h
    by_cases j : 0 ≤ mo ∧ mo < (m.ms.length : Int)
    · exact ⟨(nodeM_ok k).1, (nodeM_ok k).2, j⟩
    · rw [if_neg j] at h; cases h
  · rw [if_neg k] at h; exact absurd h k
theorem data_at {d : List Int} (h : dataOk d = true) (k : Nat) (hk : k < d.length) : 0 ≤ d[k]?.getD 0 ∧ d[k]?.getD 0 ≤ 8 := by
  unfold dataOk at h
  rw [List.all_eq_true] at h
  have := h d[k] (List.getElem_mem hk)
  rw [List.getElem?_eq_getElem hk]
  simpa using this
theorem okM_mode {m : ML} (h : okM m) {o : Md} (ho : o ∈ m.ms) : (o.d.length : Int) = m.N ∧ (o.x.length : Int) = m.N ∧ o.n.length = m.ms.length ∧ dataOk o.d = true ∧ withCold o.x m.cold = true := by
  have h4 := h.2.2.2.1
  rw [List.all_eq_true] at h4
  have := h4 o ho
  unfold okMode at this
  simp only [Bool.and_eq_true, decide_eq_true_eq] at this
  exact ⟨this.1.1, this.2.1.1, this.2.2, this.1.2, this.2.1.2⟩

set_option maxRecDepth 8000 in
set_option maxHeartbeats 1000000 in
theorem bound_any (m : ML) (c s : Slc) (w : World) (hM : Med w m c s) : Calls Tryd.prog 25 #[vM m c s] w (Pr w (boundM m)) := by
  have hck := fun W (h : Below w.heap.size w W) => mcheck_any m c s W (hM.on h)
  unfold boundM
  rcases checkM_two m with h | h
  · have hok := checkM_ok h
    obtain ⟨c1, -⟩ := hok
    rw [if_pos h]
    rw [h] at hck
    have HCK := Lib.hid hck; clear hck hM h
    obtain ⟨N, S, G, W, D, L, cold, ms⟩ := m
    obtain ⟨Ac, nc, cc⟩ := c
    obtain ⟨As, ns, cs⟩ := s
    dsimp only [vM] at *
    have w1 : IntKind.i64.wrap (40 * N) = 40 * N := IntWalk.i64_in _ (by omega)
    obtain ⟨kb, bc⟩ := bx1 w #[.int .i64 N, .int .i64 S, .int .i64 G, .int .i64 W, .int .i64 D, .int .i64 L, .slice Ac nc cc, .slice As ns cs] 25
    have hc := HCK.out _ bc
    have HC := Lib.hid hc; clear hc
    go_enter Tryd.func25, Tryd.ntmps25
    go_wp2_with (first | (go_at_call 12; refine HC.out.mono ?_; rintro e w1 ⟨rfl, hC⟩; dsimp only; replace kb := kb.on hC; replace bc := bc.trans (hC.mono bc.size); clear hC; obtain ⟨p0, p1, p2, p3, p4, p5, p6, p7⟩ := kb.eight))
    go_ret2
    exact ⟨rfl, bc⟩
  · rw [if_neg (by rw [h]; decide)]
    rw [h] at hck
    have HCK := Lib.hid hck; clear hck hM h
    obtain ⟨N, S, G, W, D, L, cold, ms⟩ := m
    obtain ⟨Ac, nc, cc⟩ := c
    obtain ⟨As, ns, cs⟩ := s
    dsimp only [vM] at *
    obtain ⟨kb, bc⟩ := bx1 w #[.int .i64 N, .int .i64 S, .int .i64 G, .int .i64 W, .int .i64 D, .int .i64 L, .slice Ac nc cc, .slice As ns cs] 25
    have hc := HCK.out _ bc
    have HC := Lib.hid hc; clear hc
    go_enter Tryd.func25, Tryd.ntmps25
    go_wp2_with (first | (go_at_call 12; refine HC.out.mono ?_; rintro e w1 ⟨rfl, hC⟩; dsimp only; replace bc := bc.trans (hC.mono bc.size); clear hC))
    go_ret2
    exact ⟨rfl, bc⟩
end Go.Proofs.YtnmaelefcohogaaDoor
