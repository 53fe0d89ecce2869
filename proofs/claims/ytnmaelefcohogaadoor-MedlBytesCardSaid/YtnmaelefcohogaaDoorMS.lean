/-
  The document's own Kind, Air, Precision, Listen, Retry and Bound of layer 7. Condition: a list that can be read. (Printed by tools/gen07s.py.)
-/
import Derived.Test.YtnmaelefcohogaaDoorMR
import Derived.Test.YtnmaelefcohogaaDoorMJ
namespace Go.Proofs.YtnmaelefcohogaaDoor
open Go.RowKit

end Go.Proofs.YtnmaelefcohogaaDoor
