/-
  The program reads points.
-/
import Derived.Test.YtiooimfkobjpkaaGreatDoorTpM
import Derived.Test.YtiooimfkobjpkaaGreatDoorTxE
import Derived.Test.YtiooimfkobjpkaaGreatDoorTxN
import Derived.Shelf.Abstract
namespace Go.Proofs.YtiooimfkobjpkaaGreatDoor
open Go.RowKit
set_option linter.unusedSimpArgs false
set_option linter.unusedVariables false

theorem blk1 {w : World} {g : Nat} {a : Value} {t : TypeId} (h : w.heap[g]? = some (.cells #[a] t (0, 0))) : w.cell? ⟨g, 0, none⟩ = some a ∧ w.frozen? ⟨g, 0, none⟩ = false ∧ g < w.heap.size :=
  ⟨by rw [cell_of_blk h]; rfl, frozen_of_blk h 0, lt_of_blk h⟩

end Go.Proofs.YtiooimfkobjpkaaGreatDoor
