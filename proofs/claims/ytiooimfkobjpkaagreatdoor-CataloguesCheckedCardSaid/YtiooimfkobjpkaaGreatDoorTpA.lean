/-
  The makers of points.
-/
import Derived.Test.YtiooimfkobjpkaaGreatDoorSeR
namespace Go.Proofs.YtiooimfkobjpkaaGreatDoor
open Go.RowKit
set_option linter.unusedSimpArgs false
set_option linter.unusedVariables false

/-- A point in memory. -/
def encP (p : Int × Int) : List Value := [.int .i64 p.1, .int .i64 p.2]

theorem flatPt_snoc (l : List (Int × Int)) (p : Int × Int) : (l ++ [p]).flatMap encP = l.flatMap encP ++ encP p := by
  rw [List.flatMap_append]; simp
end Go.Proofs.YtiooimfkobjpkaaGreatDoor
