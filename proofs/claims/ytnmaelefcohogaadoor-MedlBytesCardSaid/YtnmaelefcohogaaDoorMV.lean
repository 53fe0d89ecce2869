/-
  Same of package medl: field by field. Condition: lists that can be read. (Printed by tools/gen07v.py.)
-/
import Derived.Test.YtnmaelefcohogaaDoorMU
namespace Go.Proofs.YtnmaelefcohogaaDoor
open Go.RowKit

/-- Are two modes the same? -/
def sameO (o p : Md) : Bool := decide (o.d = p.d) && (decide (o.x = p.x) && decide (o.n = p.n))
/-- Are all of some modes? -/
def sameOs (l m : List Md) : Bool := decide (l.length = m.length) && (List.range l.length).all fun i => sameO (l[i]?.getD ⟨[], [], []⟩) (m[i]?.getD ⟨[], [], []⟩)
/-- Same, by the document. -/
def sameM (a b : ML) : Bool :=
  decide (a.N = b.N) && (decide (a.S = b.S) && (decide (a.G = b.G) && (decide (a.W = b.W) && (decide (a.D = b.D) && (decide (a.L = b.L) && (decide (a.cold = b.cold) && sameOs a.ms b.ms))))))
theorem sameO_self (o : Md) : sameO o o = true := by unfold sameO; simp
theorem sameOs_self (l : List Md) : sameOs l l = true := by
  unfold sameOs
  simp only [decide_true, Bool.true_and, List.all_eq_true]
  intro i _
  exact sameO_self _
theorem sameM_self (a : ML) : sameM a a = true := by unfold sameM; rw [sameOs_self]; simp
theorem os_snoc {l m : List Md} {k : Nat} {o p : Md} (h : ((List.range k).all fun i => sameO (l[i]?.getD ⟨[], [], []⟩) (m[i]?.getD ⟨[], [], []⟩)) = true) (ho : l[k]? = some o) (hp : m[k]? = some p) :
    ((List.range (k + 1)).all fun i => sameO (l[i]?.getD ⟨[], [], []⟩) (m[i]?.getD ⟨[], [], []⟩)) = sameO o p := by
  rw [List.range_succ, List.all_append, h]; simp [ho, hp]
theorem os_not {l m : List Md} {k : Nat} {o p : Md} (ho : l[k]? = some o) (hp : m[k]? = some p) (h : sameO o p = false) : sameOs l m = false := by
  unfold sameOs
  have hk : k < l.length := by
    rcases Nat.lt_or_ge k l.length with h | h
    · exact h
    · rw [List.getElem?_eq_none h] at ho; cases ho
  have : ((List.range l.length).all fun i => sameO (l[i]?.getD ⟨[], [], []⟩) (m[i]?.getD ⟨[], [], []⟩)) = false := by
    rw [List.all_eq_false]
    exact ⟨k, by simpa using hk, by rw [ho, hp]; simp only [Option.getD_some]; rw [h]; decide⟩
  rw [this, Bool.and_false]
theorem os_yes {l m : List Md} (hl : l.length = m.length) (h : ((List.range l.length).all fun i => sameO (l[i]?.getD ⟨[], [], []⟩) (m[i]?.getD ⟨[], [], []⟩)) = true) : sameOs l m = true := by
  unfold sameOs; rw [h]; simp [hl]
theorem os_len {l m : List Md} (hl : ¬ l.length = m.length) : sameOs l m = false := by unfold sameOs; simp [hl]
end Go.Proofs.YtnmaelefcohogaaDoor
