/-
  The faults of machines and needs: the reference's.
-/
import Derived.Test.YtmjonmoagpkdiabGreatDoorLcC
namespace Go.Proofs.YtmjonmoagpkdiabGreatDoor
open Go.RowKit
set_option linter.unusedSimpArgs false
set_option linter.unusedVariables false

def lastD (l : List Nd) : Nat → ByteArray
  | 0 => ⟨#[]⟩
  | k + 1 => (ndA l k).part
theorem lastD_succ {l : List Nd} {k : Nat} (h : k < l.length) : lastD l (k + 1) = l[k].part := by rw [lastD, ndA_at h]
theorem lastD_prev {l : List Nd} {i : Nat} (hi : i ≤ l.length) {x : ByteArray} (h : keyB x = true) : (prevD l i).any (leS x) = leS x (lastD l i) := by
  cases i with
  | zero => exact (leS_nil h).symm
  | succ k => rw [prevD_succ (by omega), lastD_succ (by omega)]; rfl

end Go.Proofs.YtmjonmoagpkdiabGreatDoor
