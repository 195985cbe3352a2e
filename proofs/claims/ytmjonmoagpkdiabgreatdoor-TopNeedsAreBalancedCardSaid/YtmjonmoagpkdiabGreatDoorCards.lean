/-
  DERIVED. GIVEN WITH THE SEED: THE CARDS: each row of YtmjonmoagpkdiabGreatDoorRows.lean that lists a variable, with what it lists TIED to the program's text (the seventh form; the later family's looks); each row that meets fmt, with fmt's text TOLD by the authors' own Lean function (tested against real Go, not proved from fmt's source: count such statements apart). THE CARD IS WHAT COUNTS. Prove the row's statement (the work); the ties are given (YtmjonmoagpkdiabGreatDoorTie.lean); close each card by the builder's one call (the guide's Derived/Test/ToyasCard.lean, 'card_holds'). Laid BY PROGRAM, IN A SANDBOX (cutbox-door.mjs). By AI agents, Wed Nov 11 2026. No macro, syntax, notation, axiom, sorry.
-/
import Derived.Test.YtmjonmoagpkdiabGreatDoorRows
import GoSem.ClaimSeven
namespace Go.Proofs.YtmjonmoagpkdiabGreatDoor
namespace Rows

/-- THE TIED CARD OF 'rftop.TopNeedsAreBalanced'. -/
def topNeedsAreBalancedCard : Claim7 := { stood := { row := topNeedsAreBalancedRow, standIns := [], harness := (true, "c1d6ef4e02a095b260a1b1b04c1010f2cc8542aed231a55886bd446704b33a6b"), looks := false }, kinds := [], alts := [], laidByText := true, laidKinds := [.data, .data], laidTests := true, laidLooks := .later }
def TopNeedsAreBalancedCardSaid : Prop := Claim7.holds Tryz.pinned (.plain (OpenSpec.ofChange topNeedsAreBalancedSpec)) topNeedsAreBalancedCard

/-- THE SECOND FORM's CARD OF 'rftop.TopNeedsAreBalanced'. -/
def topNeedsAreBalancedUptoCard : Claim7 := { stood := { row := topNeedsAreBalancedUptoRow, standIns := [], harness := (true, "c1d6ef4e02a095b260a1b1b04c1010f2cc8542aed231a55886bd446704b33a6b"), looks := false }, kinds := [], alts := [], laidByText := true, laidKinds := [.data, .data], laidTests := true, laidLooks := .later }
def TopNeedsAreBalancedUptoCardSaid : Prop := Claim7.holds Tryz.pinned (.plain (OpenSpec.upto topNeedsAreBalancedSpec)) topNeedsAreBalancedUptoCard
end Rows
end Go.Proofs.YtmjonmoagpkdiabGreatDoor
