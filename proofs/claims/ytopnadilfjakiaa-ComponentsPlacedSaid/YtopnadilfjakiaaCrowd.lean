/-
  The walks of Crowded and Beyond.
-/
import Derived.Test.YtopnadilfjakiaaNear2
import Derived.Test.YtopnadilfjakiaaRg
import Derived.Deep.DrawnRows
namespace Go.Proofs.Ytopnadilfjakiaa
open Go.RowKit

def dS : ByteArray := ⟨#[]⟩
def encN (names : List ByteArray) (p : Nat × Nat) : List Value := [.string (names.getD p.1 dS), .string (names.getD p.2 dS)]
theorem row_str {w : World} {g : Nat} {l : List ByteArray} (h : LineAt w g (flatS l)) {k : Nat} (hk : k < l.length) : w.cell? ⟨g, k, none⟩ = some (.string (l.getD k dS)) := by
  have e := flatK_at encS 1 (fun _ => rfl) l k hk 0 (by omega)
  have := h.2 (k * 1 + 0) (.string l[k]) (by exact e)
  rw [List.getD_eq_getElem?_getD, List.getElem?_eq_getElem hk]
  simpa using this

end Go.Proofs.Ytopnadilfjakiaa
