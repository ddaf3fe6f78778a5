/- The document's Same, and where a key stands. -/
import Derived.Test.YtgokofomoachaaaGreatDoorPoText
namespace Go.Proofs.YtgokofomoachaaaGreatDoor
set_option linter.unusedVariables false
set_option linter.unusedSimpArgs false
open Go.RowKit

variable {w : World}

/-- A value that Same may be asked about. -/
def SameOk (S : List Om) (v : Vl) : Prop := (v.k = 3 → leadO S v ≠ none) ∧ (v.k = 0 → v.n = 0)


end Go.Proofs.YtgokofomoachaaaGreatDoor

namespace Go.Proofs.YtgokofomoachaaaGreatDoor
set_option linter.unusedVariables false
set_option linter.unusedSimpArgs false
open Go.RowKit

variable {w : World}

end Go.Proofs.YtgokofomoachaaaGreatDoor
