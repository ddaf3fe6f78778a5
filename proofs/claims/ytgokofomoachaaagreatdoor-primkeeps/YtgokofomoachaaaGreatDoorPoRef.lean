/- The document's operations on values: small ones. -/
import Derived.Test.YtgokofomoachaaaGreatDoorPnOps
import Derived.Test.YtgokofomoachaaaGreatDoorShRefCheck
import Derived.Test.YtgokofomoachaaaGreatDoorPoSame
namespace Go.Proofs.YtgokofomoachaaaGreatDoor
set_option linter.unusedVariables false
set_option linter.unusedSimpArgs false
open Go.RowKit

variable {w : World}

/-- What an operation of the document's comes to. -/
structure Rd where
  v : Vl := ⟨0, 0⟩
  t : ByteArray := ⟨#[]⟩
  n : Int := 0

/-- The document's heap: where its store is found. -/
def RhAt (w : World) (H : Nat) (p : Option Addr) (n c : Nat) : Prop := w.heap[H]? = some (.cells #[.slice p n c] 106 (0, 0))

theorem RhAt.below {H : Nat} {p : Option Addr} {n c : Nat} (h : RhAt w H p n c) {w' : World} (hB : Below w.heap.size w w') : RhAt w' H p n c := (hB.block _ (Array.getElem?_eq_some_iff.1 h).1).trans h

theorem RhAt.cell {H : Nat} {p : Option Addr} {n c : Nat} (h : RhAt w H p n c) : w.cell? ⟨H, 0, none⟩ = some (.slice p n c) := by rw [cell_of_row w H 0 _ _ _ h]; rfl

end Go.Proofs.YtgokofomoachaaaGreatDoor
