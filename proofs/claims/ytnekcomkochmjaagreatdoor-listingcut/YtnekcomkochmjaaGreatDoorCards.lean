/-
  DERIVED. GIVEN WITH THE SEED: THE CARDS: each row of YtnekcomkochmjaaGreatDoorRows.lean that lists a variable, with what it lists TIED to the program's text (the seventh form; the later family's looks); each row that meets fmt, with fmt's text TOLD by the authors' own Lean function (tested against real Go, not proved from fmt's source: count such statements apart). THE CARD IS WHAT COUNTS. Prove the row's statement (the work); the ties are given (YtnekcomkochmjaaGreatDoorTie.lean); close each card by the builder's one call (the guide's Derived/Test/ToyasCard.lean, 'card_holds'). Laid BY PROGRAM, IN A SANDBOX (cutbox-door.mjs). By AI agents, Wed Nov 11 2026. No macro, syntax, notation, axiom, sorry.
-/
import Derived.Test.YtnekcomkochmjaaGreatDoorRows
import GoSem.ClaimSeven
namespace Go.Proofs.YtnekcomkochmjaaGreatDoor
namespace Rows

/-- THE TIED CARD OF 'gearboxlaw10.ListingBack'. -/
def listingBackCard : Claim7 := { stood := { row := listingBackRow, standIns := [], harness := (true, "e96658bbaf8005626c23ab6d8ce5a9fef6a28d6134857a576f18d2af549821eb"), looks := true }, kinds := [], alts := [], laidByText := true, laidKinds := [.data, .data, .data, .sentinel, .sentinel, .data, .data, .data], laidTests := true, laidLooks := .later }
def ListingBackCardSaid : Prop := Claim7.holds Tryz.pinned (.plain (OpenSpec.ofChange listingBackSpec)) listingBackCard

/-- THE TIED CARD OF 'gearboxlaw10.ListingAgain'. -/
def listingAgainCard : Claim7 := { stood := { row := listingAgainRow, standIns := [], harness := (true, "e96658bbaf8005626c23ab6d8ce5a9fef6a28d6134857a576f18d2af549821eb"), looks := true }, kinds := [], alts := [], laidByText := true, laidKinds := [.data, .data, .data, .sentinel, .sentinel, .data, .data, .data], laidTests := true, laidLooks := .later }
def ListingAgainCardSaid : Prop := Claim7.holds Tryz.pinned (.plain (OpenSpec.ofChange listingAgainSpec)) listingAgainCard

/-- THE TIED CARD OF 'gearboxlaw10.ListingApart'. -/
def listingApartCard : Claim7 := { stood := { row := listingApartRow, standIns := [], harness := (true, "e96658bbaf8005626c23ab6d8ce5a9fef6a28d6134857a576f18d2af549821eb"), looks := true }, kinds := [], alts := [], laidByText := true, laidKinds := [.data, .data, .data, .sentinel, .sentinel, .data, .data, .data], laidTests := true, laidLooks := .later }
def ListingApartCardSaid : Prop := Claim7.holds Tryz.pinned (.plain (OpenSpec.ofChange listingApartSpec)) listingApartCard

/-- THE TIED CARD OF 'gearboxlaw10.ListingCut'. -/
def listingCutCard : Claim7 := { stood := { row := listingCutRow, standIns := [], harness := (true, "e96658bbaf8005626c23ab6d8ce5a9fef6a28d6134857a576f18d2af549821eb"), looks := true }, kinds := [], alts := [], laidByText := true, laidKinds := [.data, .data, .data, .sentinel, .sentinel, .data, .data, .data], laidTests := true, laidLooks := .later }
def ListingCutCardSaid : Prop := Claim7.holds Tryz.pinned (.plain (OpenSpec.ofChange listingCutSpec)) listingCutCard

/-- THE SECOND FORM's CARD OF 'gearboxlaw10.ListingBack'. -/
def listingBackUptoCard : Claim7 := { stood := { row := listingBackUptoRow, standIns := [], harness := (true, "e96658bbaf8005626c23ab6d8ce5a9fef6a28d6134857a576f18d2af549821eb"), looks := true }, kinds := [], alts := [], laidByText := true, laidKinds := [.data, .data, .data, .sentinel, .sentinel, .data, .data, .data], laidTests := true, laidLooks := .later }
def ListingBackUptoCardSaid : Prop := Claim7.holds Tryz.pinned (.plain (OpenSpec.upto listingBackSpec)) listingBackUptoCard

/-- THE SECOND FORM's CARD OF 'gearboxlaw10.ListingAgain'. -/
def listingAgainUptoCard : Claim7 := { stood := { row := listingAgainUptoRow, standIns := [], harness := (true, "e96658bbaf8005626c23ab6d8ce5a9fef6a28d6134857a576f18d2af549821eb"), looks := true }, kinds := [], alts := [], laidByText := true, laidKinds := [.data, .data, .data, .sentinel, .sentinel, .data, .data, .data], laidTests := true, laidLooks := .later }
def ListingAgainUptoCardSaid : Prop := Claim7.holds Tryz.pinned (.plain (OpenSpec.upto listingAgainSpec)) listingAgainUptoCard

/-- THE SECOND FORM's CARD OF 'gearboxlaw10.ListingApart'. -/
def listingApartUptoCard : Claim7 := { stood := { row := listingApartUptoRow, standIns := [], harness := (true, "e96658bbaf8005626c23ab6d8ce5a9fef6a28d6134857a576f18d2af549821eb"), looks := true }, kinds := [], alts := [], laidByText := true, laidKinds := [.data, .data, .data, .sentinel, .sentinel, .data, .data, .data], laidTests := true, laidLooks := .later }
def ListingApartUptoCardSaid : Prop := Claim7.holds Tryz.pinned (.plain (OpenSpec.upto listingApartSpec)) listingApartUptoCard

/-- THE SECOND FORM's CARD OF 'gearboxlaw10.ListingCut'. -/
def listingCutUptoCard : Claim7 := { stood := { row := listingCutUptoRow, standIns := [], harness := (true, "e96658bbaf8005626c23ab6d8ce5a9fef6a28d6134857a576f18d2af549821eb"), looks := true }, kinds := [], alts := [], laidByText := true, laidKinds := [.data, .data, .data, .sentinel, .sentinel, .data, .data, .data], laidTests := true, laidLooks := .later }
def ListingCutUptoCardSaid : Prop := Claim7.holds Tryz.pinned (.plain (OpenSpec.upto listingCutSpec)) listingCutUptoCard
end Rows
end Go.Proofs.YtnekcomkochmjaaGreatDoor
