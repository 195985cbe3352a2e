/-
  The program writes points.
-/
import Derived.Test.YtiooimfkobjpkaaGreatDoorTpM
import Derived.Test.YtiooimfkobjpkaaGreatDoorTxN
namespace Go.Proofs.YtiooimfkobjpkaaGreatDoor
open Go.RowKit
set_option linter.unusedSimpArgs false
set_option linter.unusedVariables false

end Go.Proofs.YtiooimfkobjpkaaGreatDoor
