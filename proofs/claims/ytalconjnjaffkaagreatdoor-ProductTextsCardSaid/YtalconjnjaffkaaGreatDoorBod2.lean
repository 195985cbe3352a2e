/-
  The walks of the checks of bodies and distances.
-/
import Derived.Test.YtalconjnjaffkaaGreatDoorBodM
namespace Go.Proofs.YtalconjnjaffkaaGreatDoor
open Go.RowKit


end Go.Proofs.YtalconjnjaffkaaGreatDoor
