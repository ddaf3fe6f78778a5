/- What an operation comes to: how great it is. -/
import Derived.Test.YtgokofomoachaaaGreatDoorPoSame2
import Derived.Test.YtgokofomoachaaaGreatDoorPnPut2
namespace Go.Proofs.YtgokofomoachaaaGreatDoor
set_option linter.unusedVariables false
set_option linter.unusedSimpArgs false
open Go.RowKit

variable {w : World}

/-- What is thrown asks for nothing; how many objects, how great they are. -/
def FairD (S : List Om) (D : Dv) : Prop := (D.t = ⟨#[]⟩ ∨ D.n = 0) ∧ D.S.length ≤ S.length + 1 ∧ ∀ y ∈ D.S, y.l.length ≤ 50002

theorem FairD.asks {S : List Om} {D : Dv} (h : FairD S D) : Rd.asks ⟨D.v, D.t, D.n⟩ D.n := by
  by_cases ht : D.t = ⟨#[]⟩
  · exact .inl ⟨ht, rfl⟩
  · exact .inr ⟨ht, h.1.resolve_left ht⟩


end Go.Proofs.YtgokofomoachaaaGreatDoor
