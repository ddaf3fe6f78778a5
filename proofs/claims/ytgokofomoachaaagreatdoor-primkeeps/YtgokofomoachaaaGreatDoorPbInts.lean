/- The document's ints. -/
import Derived.Test.YtgokofomoachaaaGreatDoorPoText
import Derived.Test.YtgokofomoachaaaGreatDoorPnBin2
namespace Go.Proofs.YtgokofomoachaaaGreatDoor
set_option linter.unusedVariables false
set_option linter.unusedSimpArgs false
open Go.RowKit

variable {w : World}

/-- What two whole numbers come to. -/
def intsR (op : Nat) (a b : Int) : Rd :=
  if op = 1 then { v := ⟨2, wrap64 (a + b)⟩ } else if op = 2 then { v := ⟨2, wrap64 (a - b)⟩ } else if op = 3 then { v := ⟨2, wrap64 (a * b)⟩ }
  else if op = 4 then (if b = 0 then { t := tZero } else { v := ⟨2, wrap64 (Int.tdiv a b)⟩ })
  else if op = 5 then (if b = 0 then { t := tZero } else { v := ⟨2, Int.tmod a b⟩ })
  else if op = 6 then { v := tru (decide (a < b)) } else if op = 7 then { v := tru (decide (a ≤ b)) } else { t := tKind }

end Go.Proofs.YtgokofomoachaaaGreatDoor
