/-
  The walks of the reference's boxes.
-/
import Derived.Test.YtopnadilfjakiaaRefP
import Derived.Test.YtopnadilfjakiaaNear
namespace Go.Proofs.Ytopnadilfjakiaa
open Go.RowKit

def eqS (a b : ByteArray) : Bool := a.toList == b.toList
theorem eqS_iff (a b : ByteArray) : eqS a b = true ↔ bt a = bt b := by
  unfold eqS
  rw [Lib.toList_data, Lib.toList_data, beq_iff_eq]
/-- What the search for a body says. -/
def Indexed (b : List Bo) (part : ByteArray) (e : Ending) : Prop :=
  (e = .returned (.int .i64 (-1)) ∧ boOf b part = none) ∨ ∃ (i : Nat) (h : i < b.length), e = .returned (.int .i64 i) ∧ boOf b part = some b[i]
/-- A box, as cells: left, low, right, high. -/
def boxC (a : Ar) : Array Value := #[.int .i64 a.xf, .int .i64 a.yf, .int .i64 a.xt, .int .i64 a.yt]
end Go.Proofs.Ytopnadilfjakiaa
