/-
  The walk of the law package's own check on a fixed product.
-/
import Derived.Test.YtmjonmoagpkdiabGreatDoorNeeds
namespace Go.Proofs.YtmjonmoagpkdiabGreatDoor
open Go.RowKit

def onePl : Pl := ⟨⟨#[99]⟩, ⟨#[99, 97, 112]⟩, 0, 0, 0⟩
theorem one_ok : prodErr ⟨#[112]⟩ 5 5 [onePl] = 0 := by decide
theorem one_needs : needsOf (([onePl].map partOf).mergeSort fun x y => decide (x ≤ y)) = [([99, 97, 112], 1)] := by
  simp [needsOf, addNeed, partOf, onePl]

end Go.Proofs.YtmjonmoagpkdiabGreatDoor
