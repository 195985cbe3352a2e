/-
  DERIVED. GIVEN WITH THE SEED: THE CARDS: each row of YtbkbjljkfhahbaaGreatDoorRows.lean that lists a variable, with what it lists TIED to the program's text (the seventh form; the later family's looks); each row that meets fmt, with fmt's text TOLD by the authors' own Lean function (tested against real Go, not proved from fmt's source: count such statements apart). THE CARD IS WHAT COUNTS. Prove the row's statement (the work); the ties are given (YtbkbjljkfhahbaaGreatDoorTie.lean); close each card by the builder's one call (the guide's Derived/Test/ToyasCard.lean, 'card_holds'). Laid BY PROGRAM, IN A SANDBOX (cutbox-door.mjs). By AI agents, Wed Nov 11 2026. No macro, syntax, notation, axiom, sorry.
-/
import Derived.Test.YtbkbjljkfhahbaaGreatDoorRows
import GoSem.ClaimSeven
namespace Go.Proofs.YtbkbjljkfhahbaaGreatDoor
namespace Rows

/-- THE TIED CARD OF 'rflaw1.CataloguesChecked'. -/
def cataloguesCheckedCard : Claim7 := { stood := { row := cataloguesCheckedRow, standIns := [], harness := (true, "0e44a82afccb0b712ae6c7d48961f3da2e79ae1e018d21cbdfcfa4cf0be37e93"), looks := true }, kinds := [], alts := [], laidByText := true, laidKinds := [.data, .data, .data, .data, .sentinel, .sentinel, .pinned], laidTests := true, laidLooks := .later }
def CataloguesCheckedCardSaid : Prop := Claim7.holds Tryz.pinned (.plain (OpenSpec.ofChange cataloguesCheckedSpec)) cataloguesCheckedCard

/-- THE TIED CARD OF 'rflaw1.PointsChecked'. -/
def pointsCheckedCard : Claim7 := { stood := { row := pointsCheckedRow, standIns := [], harness := (true, "0e44a82afccb0b712ae6c7d48961f3da2e79ae1e018d21cbdfcfa4cf0be37e93"), looks := true }, kinds := [], alts := [], laidByText := true, laidKinds := [.data, .data, .data, .data, .sentinel, .sentinel, .pinned], laidTests := true, laidLooks := .later }
def PointsCheckedCardSaid : Prop := Claim7.holds Tryz.pinned (.plain (OpenSpec.ofChange pointsCheckedSpec)) pointsCheckedCard

/-- THE SECOND FORM's CARD OF 'rflaw1.CataloguesChecked'. -/
def cataloguesCheckedUptoCard : Claim7 := { stood := { row := cataloguesCheckedUptoRow, standIns := [], harness := (true, "0e44a82afccb0b712ae6c7d48961f3da2e79ae1e018d21cbdfcfa4cf0be37e93"), looks := true }, kinds := [], alts := [], laidByText := true, laidKinds := [.data, .data, .data, .data, .sentinel, .sentinel, .pinned], laidTests := true, laidLooks := .later }
def CataloguesCheckedUptoCardSaid : Prop := Claim7.holds Tryz.pinned (.plain (OpenSpec.upto cataloguesCheckedSpec)) cataloguesCheckedUptoCard

/-- THE SECOND FORM's CARD OF 'rflaw1.PointsChecked'. -/
def pointsCheckedUptoCard : Claim7 := { stood := { row := pointsCheckedUptoRow, standIns := [], harness := (true, "0e44a82afccb0b712ae6c7d48961f3da2e79ae1e018d21cbdfcfa4cf0be37e93"), looks := true }, kinds := [], alts := [], laidByText := true, laidKinds := [.data, .data, .data, .data, .sentinel, .sentinel, .pinned], laidTests := true, laidLooks := .later }
def PointsCheckedUptoCardSaid : Prop := Claim7.holds Tryz.pinned (.plain (OpenSpec.upto pointsCheckedSpec)) pointsCheckedUptoCard
end Rows
end Go.Proofs.YtbkbjljkfhahbaaGreatDoor
