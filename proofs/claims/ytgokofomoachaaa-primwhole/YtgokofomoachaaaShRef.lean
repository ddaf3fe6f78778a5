/- The document's Leads and reached. -/
import Derived.Test.YtgokofomoachaaaShTour
import Derived.Laws.AppendOwnNone
import Derived.BigQuiet
namespace Go.Proofs.Ytgokofomoachaaa
set_option linter.unusedVariables false
set_option linter.unusedSimpArgs false
open Go.RowKit

variable {w : World}

/-- The place that a value leads to. -/
def leadI (S : List Om) (v : Vl) : Int := match leadO S v with | none => -1 | some _ => v.n - 1

theorem leadO_eq {S : List Om} {v : Vl} {i : Nat} {o : Om} (h1 : 3 ≤ v.k) (h2 : v.k ≤ 7) (hn : v.n = i + 1) (ho : S[i]? = some o) : leadO S v = if o.k = v.k then some o else none := by
  have hi := (List.getElem?_eq_some_iff.1 ho).1
  unfold leadO
  rw [if_pos ⟨h1, h2, by omega, by omega⟩, show (v.n - 1).toNat = i by omega, ho]

end Go.Proofs.Ytgokofomoachaaa
