/- Values that may be: what Same asks of them. -/
import Derived.Test.YtgokofomoachaaaGreatDoorPkAt
import Derived.Test.YtgokofomoachaaaGreatDoorPnPut2
namespace Go.Proofs.YtgokofomoachaaaGreatDoor
set_option linter.unusedVariables false
set_option linter.unusedSimpArgs false
open Go.RowKit

variable {w : World}

theorem sameOk_of {S : List Om} {v : Vl} (h : valP S v) : SameOk S v := ⟨fun h3 => h.2.2 (by omega), h.1⟩

theorem may_same {S : List Om} {l : List Vl} (h : mayL S l) {v : Vl} (hv : v ∈ l) : SameOk S v := sameOk_of (h v hv).1

theorem obj_same {S : List Om} {o : Om} (h : objP S o) : ∀ x ∈ o.l, SameOk S x := fun x hx => sameOk_of (h.2.1 x hx).1

theorem fine_may {S : List Om} {l : List Vl} (h : fineP S l) : mayL S l := fun v hv => (h v hv).2

end Go.Proofs.YtgokofomoachaaaGreatDoor
