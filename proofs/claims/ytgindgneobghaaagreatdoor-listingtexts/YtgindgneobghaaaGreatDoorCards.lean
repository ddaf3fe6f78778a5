/-
  DERIVED. GIVEN WITH THE SEED: THE CARDS: each row of YtgindgneobghaaaGreatDoorRows.lean that lists a variable, with what it lists TIED to the program's text (the seventh form; the later family's looks); each row that meets fmt, with fmt's text TOLD by the authors' own Lean function (tested against real Go, not proved from fmt's source: count such statements apart). THE CARD IS WHAT COUNTS. Prove the row's statement (the work); the ties are given (YtgindgneobghaaaGreatDoorTie.lean); close each card by the builder's one call (the guide's Derived/Test/ToyasCard.lean, 'card_holds'). Laid BY PROGRAM, IN A SANDBOX (cutbox-door.mjs). By AI agents, Wed Nov 11 2026. No macro, syntax, notation, axiom, sorry.
-/
import Derived.Test.YtgindgneobghaaaGreatDoorRows
import GoSem.ClaimSeven
namespace Go.Proofs.YtgindgneobghaaaGreatDoor
namespace Rows

/-- THE TIED CARD OF 'gearboxlaw10.ListingTexts'. -/
def listingTextsCard : Claim7 := { stood := { row := listingTextsRow, standIns := [], harness := (true, "9db5b13fb4c1e5ed67e78d9d72dffe650240fa92999696002ae97c9382af2498"), looks := true }, kinds := [], alts := [], laidByText := true, laidKinds := [.data, .data, .data, .data, .data, .data], laidTests := true, laidLooks := .later }
def ListingTextsCardSaid : Prop := Claim7.holds Tryz.pinned (.plain (OpenSpec.ofChange listingTextsSpec)) listingTextsCard

/-- THE SECOND FORM's CARD OF 'gearboxlaw10.ListingTexts'. -/
def listingTextsUptoCard : Claim7 := { stood := { row := listingTextsUptoRow, standIns := [], harness := (true, "9db5b13fb4c1e5ed67e78d9d72dffe650240fa92999696002ae97c9382af2498"), looks := true }, kinds := [], alts := [], laidByText := true, laidKinds := [.data, .data, .data, .data, .data, .data], laidTests := true, laidLooks := .later }
def ListingTextsUptoCardSaid : Prop := Claim7.holds Tryz.pinned (.plain (OpenSpec.upto listingTextsSpec)) listingTextsUptoCard
end Rows
end Go.Proofs.YtgindgneobghaaaGreatDoor
