/-
  DERIVED. GIVEN WITH THE SEED: THE CARDS: each row of YtmbnimhhmaajjaaGreatDoorRows.lean that lists a variable, with what it lists TIED to the program's text (the seventh form; the later family's looks); each row that meets fmt, with fmt's text TOLD by the authors' own Lean function (tested against real Go, not proved from fmt's source: count such statements apart). THE CARD IS WHAT COUNTS. Prove the row's statement (the work); the ties are given (YtmbnimhhmaajjaaGreatDoorTie.lean); close each card by the builder's one call (the guide's Derived/Test/ToyasCard.lean, 'card_holds'). Laid BY PROGRAM, IN A SANDBOX (cutbox-door.mjs). By AI agents, Wed Nov 11 2026. No macro, syntax, notation, axiom, sorry.
-/
import Derived.Test.YtmbnimhhmaajjaaGreatDoorRows
import GoSem.ClaimSeven
namespace Go.Proofs.YtmbnimhhmaajjaaGreatDoor
namespace Rows

/-- THE TIED CARD OF 'gearboxlaw02.GcCollects'. -/
def gcCollectsCard : Claim7 := { stood := { row := gcCollectsRow, standIns := [], harness := (true, "c588e90b5527dfa663784a169e60a1eda49fc08fee96e7b4a7a8d860a9ccfd32"), looks := false }, kinds := [], alts := [], laidByText := true, laidKinds := [.data, .data, .data], laidTests := true, laidLooks := .later }
def GcCollectsCardSaid : Prop := Claim7.holds Tryz.pinned (.plain (OpenSpec.ofChange gcCollectsSpec)) gcCollectsCard

/-- THE SECOND FORM's CARD OF 'gearboxlaw02.GcCollects'. -/
def gcCollectsUptoCard : Claim7 := { stood := { row := gcCollectsUptoRow, standIns := [], harness := (true, "c588e90b5527dfa663784a169e60a1eda49fc08fee96e7b4a7a8d860a9ccfd32"), looks := false }, kinds := [], alts := [], laidByText := true, laidKinds := [.data, .data, .data], laidTests := true, laidLooks := .later }
def GcCollectsUptoCardSaid : Prop := Claim7.holds Tryz.pinned (.plain (OpenSpec.upto gcCollectsSpec)) gcCollectsUptoCard
end Rows
end Go.Proofs.YtmbnimhhmaajjaaGreatDoor
