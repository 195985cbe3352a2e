/-
  DERIVED. GIVEN WITH THE SEED: THE CARDS: each row of YtiooimfkobjpkaaGreatDoorRows.lean that lists a variable, with what it lists TIED to the program's text (the seventh form; the later family's looks); each row that meets fmt, with fmt's text TOLD by the authors' own Lean function (tested against real Go, not proved from fmt's source: count such statements apart). THE CARD IS WHAT COUNTS. Prove the row's statement (the work); the ties are given (YtiooimfkobjpkaaGreatDoorTie.lean); close each card by the builder's one call (the guide's Derived/Test/ToyasCard.lean, 'card_holds'). Laid BY PROGRAM, IN A SANDBOX (cutbox-door.mjs). By AI agents, Wed Nov 11 2026. No macro, syntax, notation, axiom, sorry.
-/
import Derived.Test.YtiooimfkobjpkaaGreatDoorRows
import GoSem.ClaimSeven
namespace Go.Proofs.YtiooimfkobjpkaaGreatDoor
namespace Rows

/-- THE TIED CARD OF 'rflaw1.CataloguesChecked'. -/
def cataloguesCheckedCard : Claim7 := { stood := { row := cataloguesCheckedRow, standIns := [], harness := (true, "d4b619ec2321ca00096c0f100ca0e1e9aefa880bd017b4132067481d3fcf9c37"), looks := true }, kinds := [], alts := [], laidByText := true, laidKinds := [.data, .data, .data, .data, .sentinel, .sentinel, .pinned], laidTests := true, laidLooks := .later }
def CataloguesCheckedCardSaid : Prop := Claim7.holds Tryz.pinned (.plain (OpenSpec.ofChange cataloguesCheckedSpec)) cataloguesCheckedCard

/-- THE SECOND FORM's CARD OF 'rflaw1.CataloguesChecked'. -/
def cataloguesCheckedUptoCard : Claim7 := { stood := { row := cataloguesCheckedUptoRow, standIns := [], harness := (true, "d4b619ec2321ca00096c0f100ca0e1e9aefa880bd017b4132067481d3fcf9c37"), looks := true }, kinds := [], alts := [], laidByText := true, laidKinds := [.data, .data, .data, .data, .sentinel, .sentinel, .pinned], laidTests := true, laidLooks := .later }
def CataloguesCheckedUptoCardSaid : Prop := Claim7.holds Tryz.pinned (.plain (OpenSpec.upto cataloguesCheckedSpec)) cataloguesCheckedUptoCard
end Rows
end Go.Proofs.YtiooimfkobjpkaaGreatDoor
