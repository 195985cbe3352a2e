/-
  The walks of Outside, and of the reference's.
-/
import Derived.Test.YtopnadilfjakiaaPanA
namespace Go.Proofs.Ytopnadilfjakiaa
open Go.RowKit

def flatNat (l : List Nat) : List Value := l.flatMap natC
theorem int_info : (Try.prog.info? 3).map (fun i => (i.zero, i.size, i.bytes)) = some (some (.int .i64 0), 1, 8) := by kernel_rfl

/-- What both begin with: the product and the panel in memory. -/
def PanB (w wP : World) (key : ByteArray) (W H : Int) (A : Option Addr) (n c : Nat) (PW PH : Int) (B : Option Addr) (m d : Nat) : Prop :=
  wP.heap[w.heap.size]? = some (.cells #[.string key, .int .i64 W, .int .i64 H, .slice A n c] 28 (0, 0)) ∧ wP.heap[w.heap.size + 1]? = some (.cells #[.int .i64 PW, .int .i64 PH, .slice B m d] 32 (0, 0)) ∧ Below w.heap.size w wP ∧ w.heap.size + 1 < wP.heap.size

end Go.Proofs.Ytopnadilfjakiaa
