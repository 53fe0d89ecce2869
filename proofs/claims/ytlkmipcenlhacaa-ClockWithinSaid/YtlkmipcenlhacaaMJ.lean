/-
  Listen, Retry, Kind and Air of package medl answer as the document says, of all lists. Condition: a list that can be read, and numbers that an int holds. (Printed by tools/gen07j.py.)
-/
import Derived.Test.YtlkmipcenlhacaaMI
namespace Go.Proofs.Ytlkmipcenlhacaa
open Go.RowKit

theorem neq_of {a : Int} (h : ¬ a = 0) : (a != 0) = true := by simpa using h
end Go.Proofs.Ytlkmipcenlhacaa
