/-
  DERIVED. GIVEN WITH THE SEED: THE CARDS: each row of YtopoemfnnnfgdaaGreatDoorRows.lean that lists a variable, with what it lists TIED to the program's text (the seventh form; the later family's looks); each row that meets fmt, with fmt's text TOLD by the authors' own Lean function (tested against real Go, not proved from fmt's source: count such statements apart). THE CARD IS WHAT COUNTS. Prove the row's statement (the work); the ties are given (YtopoemfnnnfgdaaGreatDoorTie.lean); close each card by the builder's one call (the guide's Derived/Test/ToyasCard.lean, 'card_holds'). Laid BY PROGRAM, IN A SANDBOX (cutbox-door.mjs). By AI agents, Wed Nov 11 2026. No macro, syntax, notation, axiom, sorry.
-/
import Derived.Test.YtopoemfnnnfgdaaGreatDoorRows
import GoSem.ClaimSeven
namespace Go.Proofs.YtopoemfnnnfgdaaGreatDoor
namespace Rows

/-- THE TIED CARD OF 'rflaw2.LinesBalanced'. -/
def linesBalancedCard : Claim7 := { stood := { row := linesBalancedRow, standIns := [], harness := (true, "6db345352cb3315f6b3ccafec3faf8701aae2ee1862d97ecf369a5d92f95a904"), looks := false }, kinds := [], alts := [], laidByText := true, laidKinds := [.data, .data], laidTests := true, laidLooks := .later }
def LinesBalancedCardSaid : Prop := Claim7.holds Tryz.pinned (.plain (OpenSpec.ofChange linesBalancedSpec)) linesBalancedCard

/-- THE SECOND FORM's CARD OF 'rflaw2.LinesBalanced'. -/
def linesBalancedUptoCard : Claim7 := { stood := { row := linesBalancedUptoRow, standIns := [], harness := (true, "6db345352cb3315f6b3ccafec3faf8701aae2ee1862d97ecf369a5d92f95a904"), looks := false }, kinds := [], alts := [], laidByText := true, laidKinds := [.data, .data], laidTests := true, laidLooks := .later }
def LinesBalancedUptoCardSaid : Prop := Claim7.holds Tryz.pinned (.plain (OpenSpec.upto linesBalancedSpec)) linesBalancedUptoCard
end Rows
end Go.Proofs.YtopoemfnnnfgdaaGreatDoor
