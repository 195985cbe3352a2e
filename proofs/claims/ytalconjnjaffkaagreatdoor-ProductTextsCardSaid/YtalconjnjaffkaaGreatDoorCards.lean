/-
  DERIVED. GIVEN WITH THE SEED: THE CARDS: each row of YtalconjnjaffkaaGreatDoorRows.lean that lists a variable, with what it lists TIED to the program's text (the seventh form; the later family's looks); each row that meets fmt, with fmt's text TOLD by the authors' own Lean function (tested against real Go, not proved from fmt's source: count such statements apart). THE CARD IS WHAT COUNTS. Prove the row's statement (the work); the ties are given (YtalconjnjaffkaaGreatDoorTie.lean); close each card by the builder's one call (the guide's Derived/Test/ToyasCard.lean, 'card_holds'). Laid BY PROGRAM, IN A SANDBOX (cutbox-door.mjs). By AI agents, Wed Nov 11 2026. No macro, syntax, notation, axiom, sorry.
-/
import Derived.Test.YtalconjnjaffkaaGreatDoorRows
import GoSem.ClaimSeven
namespace Go.Proofs.YtalconjnjaffkaaGreatDoor
namespace Rows

/-- THE TIED CARD OF 'rflaw1.CataloguesChecked'. -/
def cataloguesCheckedCard : Claim7 := { stood := { row := cataloguesCheckedRow, standIns := [], harness := (true, "319c24481613b7cd295436b294d747a637af708249e215fdc13fa86c326be75f"), looks := true }, kinds := [], alts := [], laidByText := true, laidKinds := [.data, .data, .data, .data, .sentinel, .sentinel, .pinned], laidTests := true, laidLooks := .later }
def CataloguesCheckedCardSaid : Prop := Claim7.holds Tryz.pinned (.plain (OpenSpec.ofChange cataloguesCheckedSpec)) cataloguesCheckedCard

/-- THE TIED CARD OF 'rflaw2.ProductTexts'. -/
def productTextsCard : Claim7 := { stood := { row := productTextsRow, standIns := [], harness := (true, "319c24481613b7cd295436b294d747a637af708249e215fdc13fa86c326be75f"), looks := true }, kinds := [], alts := [], laidByText := true, laidKinds := [.data, .data, .data, .data, .sentinel, .sentinel, .pinned], laidTests := true, laidLooks := .later }
def ProductTextsCardSaid : Prop := Claim7.holds Tryz.pinned (.plain (OpenSpec.ofChange productTextsSpec)) productTextsCard

/-- THE TIED CARD OF 'rflaw2.ProductsGrouped'. -/
def productsGroupedCard : Claim7 := { stood := { row := productsGroupedRow, standIns := [], harness := (true, "319c24481613b7cd295436b294d747a637af708249e215fdc13fa86c326be75f"), looks := true }, kinds := [], alts := [], laidByText := true, laidKinds := [.data, .pinned], laidTests := true, laidLooks := .later }
def ProductsGroupedCardSaid : Prop := Claim7.holds Tryz.pinned (.plain (OpenSpec.ofChange productsGroupedSpec)) productsGroupedCard

/-- THE SECOND FORM's CARD OF 'rflaw1.CataloguesChecked'. -/
def cataloguesCheckedUptoCard : Claim7 := { stood := { row := cataloguesCheckedUptoRow, standIns := [], harness := (true, "319c24481613b7cd295436b294d747a637af708249e215fdc13fa86c326be75f"), looks := true }, kinds := [], alts := [], laidByText := true, laidKinds := [.data, .data, .data, .data, .sentinel, .sentinel, .pinned], laidTests := true, laidLooks := .later }
def CataloguesCheckedUptoCardSaid : Prop := Claim7.holds Tryz.pinned (.plain (OpenSpec.upto cataloguesCheckedSpec)) cataloguesCheckedUptoCard

/-- THE SECOND FORM's CARD OF 'rflaw2.ProductTexts'. -/
def productTextsUptoCard : Claim7 := { stood := { row := productTextsUptoRow, standIns := [], harness := (true, "319c24481613b7cd295436b294d747a637af708249e215fdc13fa86c326be75f"), looks := true }, kinds := [], alts := [], laidByText := true, laidKinds := [.data, .data, .data, .data, .sentinel, .sentinel, .pinned], laidTests := true, laidLooks := .later }
def ProductTextsUptoCardSaid : Prop := Claim7.holds Tryz.pinned (.plain (OpenSpec.upto productTextsSpec)) productTextsUptoCard

/-- THE SECOND FORM's CARD OF 'rflaw2.ProductsGrouped'. -/
def productsGroupedUptoCard : Claim7 := { stood := { row := productsGroupedUptoRow, standIns := [], harness := (true, "319c24481613b7cd295436b294d747a637af708249e215fdc13fa86c326be75f"), looks := true }, kinds := [], alts := [], laidByText := true, laidKinds := [.data, .pinned], laidTests := true, laidLooks := .later }
def ProductsGroupedUptoCardSaid : Prop := Claim7.holds Tryz.pinned (.plain (OpenSpec.upto productsGroupedSpec)) productsGroupedUptoCard
end Rows
end Go.Proofs.YtalconjnjaffkaaGreatDoor
