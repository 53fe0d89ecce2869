/-
  Precision, Bound, Listen, Retry, Kind and Air of package medl answer as the document says, of all lists. Condition: a list that can be read, and numbers that an int holds.
-/
import Derived.Test.YtlkmipcenlhacaaMH
namespace Go.Proofs.Ytlkmipcenlhacaa
open Go.RowKit

/-- A number and an error's number. -/
def Pr (w : World) (r : Int × Int) (e : Ending) (w' : World) : Prop := e = .returned (.tuple #[.int .i64 r.2, .int .i64 r.1]) ∧ Below w.heap.size w w'
def precM (m : ML) : Int × Int := if checkM m = 0 then (0, 14 * m.N * m.D + 8) else (70, 0)
def boundM (m : ML) : Int × Int := if checkM m = 0 then (0, 40 * m.N) else (70, 0)
/-- Is there a list, and a node? -/
def nodeM (m : ML) (n : Int) : Int := if checkM m = 0 then (if 0 ≤ n ∧ n < m.N then 0 else 2) else 70
/-- Is there a mode, too? -/
def placeM (m : ML) (mo n : Int) : Int := if nodeM m n = 0 then (if 0 ≤ mo ∧ mo < (m.ms.length : Int) then 0 else 2) else nodeM m n
def listenM (m : ML) (n : Int) : Int × Int := if nodeM m n = 0 then (0, 4 * m.N + 2 * (n + 1)) else (nodeM m n, 0)
def retryM (m : ML) (n : Int) : Int × Int := if nodeM m n = 0 then (0, 2 * (n + 1)) else (nodeM m n, 0)
def modeAt (m : ML) (mo : Int) : Md := m.ms[mo.toNat]?.getD ⟨[], [], []⟩
def kindM (m : ML) (mo n : Int) : Int × Int := if placeM m mo n = 0 then (0, kindS ((modeAt m mo).x[n.toNat]?.getD false) ((modeAt m mo).d[n.toNat]?.getD 0)) else (placeM m mo n, 0)
def airM (m : ML) (mo n : Int) : Int × Int := if placeM m mo n = 0 then (0, airAt ((modeAt m mo).x[n.toNat]?.getD false) ((modeAt m mo).d[n.toNat]?.getD 0)) else (placeM m mo n, 0)

theorem checkM_ok {m : ML} (h : checkM m = 0) : okM m := by
  by_cases k : okM m
  · exact k
  · rw [checkM_no k] at h; cases h
theorem checkM_two (m : ML) : checkM m = 0 ∨ checkM m = 70 := by
  by_cases k : okM m
  · exact .inl (checkM_yes k)
  · exact .inr (checkM_no k)
theorem nodeM_ok {m : ML} {n : Int} (h : nodeM m n = 0) : okM m ∧ 0 ≤ n ∧ n < m.N := by
  unfold nodeM at h
  by_cases k : checkM m = 0
  · rw [if_pos k] at h
    by_cases j : 0 ≤ n ∧ n < m.N
    · exact ⟨checkM_ok k, j⟩
    · rw [if_neg j] at h; cases h
  · rw [if_neg k] at h; cases h
theorem placeM_ok {m : ML} {mo n : Int} (h : placeM m mo n = 0) : okM m ∧ (0 ≤ n ∧ n < m.N) ∧ 0 ≤ mo ∧ mo < (m.ms.length : Int) := by
  unfold placeM at h
  by_cases k : nodeM m n = 0
  · rw [if_pos k] at h
    by_cases j : 0 ≤ mo ∧ mo < (m.ms.length : Int)
    · exact ⟨(nodeM_ok k).1, (nodeM_ok k).2, j⟩
    · rw [if_neg j] at h; cases h
  · rw [if_neg k] at h; exact absurd h k
theorem data_at {d : List Int} (h : dataOk d = true) (k : Nat) (hk : k < d.length) : 0 ≤ d[k]?.getD 0 ∧ d[k]?.getD 0 ≤ 8 := by
  unfold dataOk at h
  rw [List.all_eq_true] at h
  have := h d[k] (List.getElem_mem hk)
  rw [List.getElem?_eq_getElem hk]
  simpa using this
theorem okM_mode {m : ML} (h : okM m) {o : Md} (ho : o ∈ m.ms) : (o.d.length : Int) = m.N ∧ (o.x.length : Int) = m.N ∧ o.n.length = m.ms.length ∧ dataOk o.d = true ∧ withCold o.x m.cold = true := by
  have h4 := h.2.2.2.1
  rw [List.all_eq_true] at h4
  have := h4 o ho
  unfold okMode at this
  simp only [Bool.and_eq_true, decide_eq_true_eq] at this
  exact ⟨this.1.1, this.2.1.1, this.2.2, this.1.2, this.2.1.2⟩

end Go.Proofs.Ytlkmipcenlhacaa
