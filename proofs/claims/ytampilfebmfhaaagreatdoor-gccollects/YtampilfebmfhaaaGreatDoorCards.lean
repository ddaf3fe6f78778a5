/-
  DERIVED. GIVEN WITH THE SEED: THE CARDS: each row of YtampilfebmfhaaaGreatDoorRows.lean that lists a variable, with what it lists TIED to the program's text (the seventh form; the later family's looks); each row that meets fmt, with fmt's text TOLD by the authors' own Lean function (tested against real Go, not proved from fmt's source: count such statements apart). THE CARD IS WHAT COUNTS. Prove the row's statement (the work); the ties are given (YtampilfebmfhaaaGreatDoorTie.lean); close each card by the builder's one call (the guide's Derived/Test/ToyasCard.lean, 'card_holds'). Laid BY PROGRAM, IN A SANDBOX (cutbox-door.mjs). By AI agents, Wed Nov 11 2026. No macro, syntax, notation, axiom, sorry.
-/
import Derived.Test.YtampilfebmfhaaaGreatDoorRows
import GoSem.ClaimSeven
namespace Go.Proofs.YtampilfebmfhaaaGreatDoor
namespace Rows

/-- THE TIED CARD OF 'gearboxlaw02.GcReaches'. -/
def gcReachesCard : Claim7 := { stood := { row := gcReachesRow, standIns := [], harness := (true, "2c32edf2cea5374a16ec19f79510cb956745a32d2979d335c246546522403074"), looks := false }, kinds := [], alts := [], laidByText := true, laidKinds := [.data, .data, .data], laidTests := true, laidLooks := .later }
def GcReachesCardSaid : Prop := Claim7.holds Tryz.pinned (.plain (OpenSpec.ofChange gcReachesSpec)) gcReachesCard

/-- THE TIED CARD OF 'gearboxlaw02.GcCollects'. -/
def gcCollectsCard : Claim7 := { stood := { row := gcCollectsRow, standIns := [], harness := (true, "2c32edf2cea5374a16ec19f79510cb956745a32d2979d335c246546522403074"), looks := false }, kinds := [], alts := [], laidByText := true, laidKinds := [.data, .data, .data], laidTests := true, laidLooks := .later }
def GcCollectsCardSaid : Prop := Claim7.holds Tryz.pinned (.plain (OpenSpec.ofChange gcCollectsSpec)) gcCollectsCard

/-- THE SECOND FORM's CARD OF 'gearboxlaw02.GcReaches'. -/
def gcReachesUptoCard : Claim7 := { stood := { row := gcReachesUptoRow, standIns := [], harness := (true, "2c32edf2cea5374a16ec19f79510cb956745a32d2979d335c246546522403074"), looks := false }, kinds := [], alts := [], laidByText := true, laidKinds := [.data, .data, .data], laidTests := true, laidLooks := .later }
def GcReachesUptoCardSaid : Prop := Claim7.holds Tryz.pinned (.plain (OpenSpec.upto gcReachesSpec)) gcReachesUptoCard

/-- THE SECOND FORM's CARD OF 'gearboxlaw02.GcCollects'. -/
def gcCollectsUptoCard : Claim7 := { stood := { row := gcCollectsUptoRow, standIns := [], harness := (true, "2c32edf2cea5374a16ec19f79510cb956745a32d2979d335c246546522403074"), looks := false }, kinds := [], alts := [], laidByText := true, laidKinds := [.data, .data, .data], laidTests := true, laidLooks := .later }
def GcCollectsUptoCardSaid : Prop := Claim7.holds Tryz.pinned (.plain (OpenSpec.upto gcCollectsSpec)) gcCollectsUptoCard
end Rows
end Go.Proofs.YtampilfebmfhaaaGreatDoor
