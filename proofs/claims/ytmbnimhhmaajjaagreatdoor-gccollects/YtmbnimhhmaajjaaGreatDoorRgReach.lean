/- The document's Reach. -/
import Derived.Test.YtmbnimhhmaajjaaGreatDoorRgReached
namespace Go.Proofs.YtmbnimhhmaajjaaGreatDoor
set_option linter.unusedVariables false
set_option linter.unusedSimpArgs false
open Go.RowKit

variable {n₀ br all en : Nat} {vo : Value} {w : World} {R : List (Ob × Value)}

theorem sumO_filter_le (L : List Ob) (f : Ob → Bool) (h : ∀ o ∈ L, o.ws.length ≤ 1048576) : sumO (L.filter f) ≤ L.length * 1048577 := by
  refine Nat.le_trans (sumO_le _ (fun o ho => h o (List.mem_filter.1 ho).1)) (Nat.mul_le_mul_right _ (List.length_filter_le _ _))

end Go.Proofs.YtmbnimhhmaajjaaGreatDoor
