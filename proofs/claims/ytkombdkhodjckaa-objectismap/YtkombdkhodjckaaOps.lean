/- Move, Cut. -/
import Derived.Test.YtkombdkhodjckaaMove
namespace Go.Proofs.Ytkombdkhodjckaa
open Go.RowKit

variable {n₀ bh b : Nat} {vw vb : Value} {w : World} {A : Ar}

theorem back_find {ws : List Nat} {o : Option Nat} {L : List Nat} (hL : BackOf ws o L) {p i : Nat} (hi : L.find? (fun y => decide (y < p)) = some i) : i < ws.length ∧ i < p :=
  ⟨hL.lt i (List.mem_of_find?_eq_some hi), by have := List.find?_some hi; simpa using this⟩

end Go.Proofs.Ytkombdkhodjckaa
