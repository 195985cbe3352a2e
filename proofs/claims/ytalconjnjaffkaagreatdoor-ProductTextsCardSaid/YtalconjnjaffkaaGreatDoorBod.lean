/-
  The walks of bodies: sizes, distances, the check, the search.
-/
import Derived.Test.YtalconjnjaffkaaGreatDoorBod2
import Derived.Test.YtalconjnjaffkaaGreatDoorShelf
import Derived.Deep.LoopGhost
namespace Go.Proofs.YtalconjnjaffkaaGreatDoor
open Go.RowKit

/-- What a search for a key says. -/
def Found {α : Type} (key : α → ByteArray) (l : List α) (t : ByteArray) (e : Ending) : Prop :=
  ∃ (i : Nat) (f : Bool), e = .returned (.tuple #[.int .i64 i, .bool f]) ∧ (f = true → ∃ h : i < l.length, bt (key l[i]) = bt t) ∧ (f = false → ∀ x ∈ l, bt (key x) ≠ bt t)

theorem rising_le {α : Type} {key : α → ByteArray} {l : List α} (h : Rising key l) {i j : Nat} (hij : i ≤ j) (hj : j < l.length) {t : List UInt8} (hlt : bt (key l[j]) < t) : bt (key (l[i]'(by omega))) < t := by
  rcases Nat.lt_or_ge i j with h1 | h1
  · exact List.lt_trans (h i j h1 hj) hlt
  · obtain rfl : i = j := by omega
    exact hlt

end Go.Proofs.YtalconjnjaffkaaGreatDoor
