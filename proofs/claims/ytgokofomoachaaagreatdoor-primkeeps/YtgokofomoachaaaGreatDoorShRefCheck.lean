/- The document's obj: may an object be, but for the objects of its values? -/
import Derived.Test.YtgokofomoachaaaGreatDoorShKeys
import Derived.Test.YtgokofomoachaaaGreatDoorShCheck
import Derived.Test.YtgokofomoachaaaGreatDoorShTold
namespace Go.Proofs.YtgokofomoachaaaGreatDoor
set_option linter.unusedVariables false
set_option linter.unusedSimpArgs false
open Go.RowKit

variable {w : World}

end Go.Proofs.YtgokofomoachaaaGreatDoor

namespace Go.Proofs.YtgokofomoachaaaGreatDoor
set_option linter.unusedVariables false
set_option linter.unusedSimpArgs false
open Go.RowKit

variable {w : World}

end Go.Proofs.YtgokofomoachaaaGreatDoor
