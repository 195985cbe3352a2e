/-
  No cell of these rows narrows 'for every input' (looked for: loops, veiled, ifaces, maps, wideKeys, modest, calm, conditions, laid).
  DERIVED. THE GIVEN ROWS OF THIS SEAT. 4 by the template 'for every input the law returns true; each argument reads behind the call as it read before'; 0 by the template 'total and deterministic' (their statements: YtiehkcbjfamnkaaTotals.lean).
  GIVEN WITH THE SEED: the statements are not yours to turn. If you find one false, say at which input.
  Laid BY PROGRAM, IN A SANDBOX (cutbox-rows.mjs): the forced cells as the released guide's own fill.sh prints them over the translation a81365c7968438cd… (all of the seat's roots in one cut). By AI agents, Wed Nov 11 2026. No macro, syntax, notation, axiom, sorry.
-/
import Derived.Test.YtiehkcbjfamnkaaChecked
import GoSem.Claim
import GoSem.ClaimJoined
import GoSem.ClaimMapViews
import Derived.JoinedTies
import Derived.KernelRfl
namespace Go.Proofs.Ytiehkcbjfamnkaa
/- THE CELL 'sum', in the pinned program and in every row, IS THE sha256 OF THE DUMP (.gsa) THAT YtiehkcbjfamnkaaProg.lean LOADS. Nothing in Lean hashes anything: it is a label: what it is worth is what the hold of that sum in a sandbox is worth. -/
noncomputable def Try.pinned : Pinned := { name := "ytiehkcbjfamnkaa", sum := "a81365c7968438cd92587c1cdf6b8184560b402364fc8f7eff3060ca98d7410b", checked := Try.checked }
namespace Rows
def none {H : Type} : Left H := { results := [], args := [] }

/-- 'rflaw2.ComponentsPlaced': WHATEVER THE INPUT: true; the input reads as it did. -/
def componentsPlacedSpec : ChangeSpec := { name := "componentsPlaced", fn := fun _ => fun
  | [d] => { results := [.lit (.bool true)], args := [d] }
  | _ => none }
def componentsPlacedRow : OpenClaim := { program := "ytiehkcbjfamnkaa", sum := "a81365c7968438cd92587c1cdf6b8184560b402364fc8f7eff3060ca98d7410b", func := "reelfeeder/rflaw2.ComponentsPlaced", spec := "componentsPlaced", inPlace := ["internal/bytealg.abigen_runtime_cmpstring", "internal/bytealg.IndexByteString"], unfollowed := true, recurses := true, apart := false }
def ComponentsPlacedSaid : Prop := componentsPlacedRow.holds Try.pinned (OpenSpec.ofChange componentsPlacedSpec)

/-- ITS FALSE NEIGHBOUR: 'it returns false'. Refute it at one input. -/
def componentsPlacedWrong : ChangeSpec := { name := "componentsPlaced", fn := fun _ => fun
  | [d] => { results := [.lit (.bool false)], args := [d] }
  | _ => none }
def ComponentsPlacedWrongFalsely : Prop := componentsPlacedRow.holds Try.pinned (OpenSpec.ofChange componentsPlacedWrong)

/-- 'rflaw2.PanelsTurned': WHATEVER THE INPUT: true; the input reads as it did. -/
def panelsTurnedSpec : ChangeSpec := { name := "panelsTurned", fn := fun _ => fun
  | [d] => { results := [.lit (.bool true)], args := [d] }
  | _ => none }
def panelsTurnedRow : OpenClaim := { program := "ytiehkcbjfamnkaa", sum := "a81365c7968438cd92587c1cdf6b8184560b402364fc8f7eff3060ca98d7410b", func := "reelfeeder/rflaw2.PanelsTurned", spec := "panelsTurned", inPlace := ["internal/bytealg.IndexByteString"], unfollowed := true, recurses := true, apart := false }
def PanelsTurnedSaid : Prop := panelsTurnedRow.holds Try.pinned (OpenSpec.ofChange panelsTurnedSpec)

/-- ITS FALSE NEIGHBOUR: 'it returns false'. Refute it at one input. -/
def panelsTurnedWrong : ChangeSpec := { name := "panelsTurned", fn := fun _ => fun
  | [d] => { results := [.lit (.bool false)], args := [d] }
  | _ => none }
def PanelsTurnedWrongFalsely : Prop := panelsTurnedRow.holds Try.pinned (OpenSpec.ofChange panelsTurnedWrong)

/-- 'rflaw2.BodiesCompared': WHATEVER THE INPUT: true; the input reads as it did. -/
def bodiesComparedSpec : ChangeSpec := { name := "bodiesCompared", fn := fun _ => fun
  | [d] => { results := [.lit (.bool true)], args := [d] }
  | _ => none }
def bodiesComparedRow : OpenClaim := { program := "ytiehkcbjfamnkaa", sum := "a81365c7968438cd92587c1cdf6b8184560b402364fc8f7eff3060ca98d7410b", func := "reelfeeder/rflaw2.BodiesCompared", spec := "bodiesCompared", inPlace := ["internal/bytealg.abigen_runtime_cmpstring", "internal/bytealg.IndexByteString"], unfollowed := true, recurses := true, apart := false }
def BodiesComparedSaid : Prop := bodiesComparedRow.holds Try.pinned (OpenSpec.ofChange bodiesComparedSpec)

/-- ITS FALSE NEIGHBOUR: 'it returns false'. Refute it at one input. -/
def bodiesComparedWrong : ChangeSpec := { name := "bodiesCompared", fn := fun _ => fun
  | [d] => { results := [.lit (.bool false)], args := [d] }
  | _ => none }
def BodiesComparedWrongFalsely : Prop := bodiesComparedRow.holds Try.pinned (OpenSpec.ofChange bodiesComparedWrong)

/-- 'rflaw2.PointsCorrected': WHATEVER THE INPUT: true; the input reads as it did. -/
def pointsCorrectedSpec : ChangeSpec := { name := "pointsCorrected", fn := fun _ => fun
  | [d] => { results := [.lit (.bool true)], args := [d] }
  | _ => none }
def pointsCorrectedRow : OpenClaim := { program := "ytiehkcbjfamnkaa", sum := "a81365c7968438cd92587c1cdf6b8184560b402364fc8f7eff3060ca98d7410b", func := "reelfeeder/rflaw2.PointsCorrected", spec := "pointsCorrected", unfollowed := true, recurses := true, apart := false }
def PointsCorrectedSaid : Prop := pointsCorrectedRow.holds Try.pinned (OpenSpec.ofChange pointsCorrectedSpec)

/-- ITS FALSE NEIGHBOUR: 'it returns false'. Refute it at one input. -/
def pointsCorrectedWrong : ChangeSpec := { name := "pointsCorrected", fn := fun _ => fun
  | [d] => { results := [.lit (.bool false)], args := [d] }
  | _ => none }
def PointsCorrectedWrongFalsely : Prop := pointsCorrectedRow.holds Try.pinned (OpenSpec.ofChange pointsCorrectedWrong)

/- THE SECOND FORM. 'bulk': how many values and letters a reading holds, each counted each time it is reached (what is shared counts as often as it is met; a slice's spare places count too). A statement '..UptoSaid' is the law's where the arguments, and the package variables that the reading takes, are together of bulk at most 1048576: NARROWER than '..Said'. Prove '..Said' where nothing that the law and all that it calls make is longer than what came in: it says more and counts as full. Else prove '..UptoSaid'. A law counts once. -/
mutual
def uptoBulk {H : Type} : DataW H → Nat
  | .lit (.string bytes) => bytes.length + 1
  | .lit _ => 1
  | .nil => 1
  | .ptr d => uptoBulk d + 1
  | .slice elems spare => uptoBulkAll elems + uptoBulkAll spare + 1
  | .agg parts => uptoBulkAll parts + 1
  | .iface _ d => uptoBulk d + 1
  | .map entries => uptoBulkEntries entries + 1
  | .held _ => 1
def uptoBulkAll {H : Type} : List (DataW H) → Nat
  | [] => 0
  | d :: r => uptoBulk d + uptoBulkAll r
def uptoBulkEntries {H : Type} : List (Lit × DataW H) → Nat
  | [] => 0
  | x :: r => uptoBulkEntry x + uptoBulkEntries r
def uptoBulkEntry {H : Type} : Lit × DataW H → Nat
  | (.string bytes, d) => bytes.length + uptoBulk d + 1
  | (_, d) => uptoBulk d + 1
 end
def uptoSmall : (H : Type) → List (DataW H) → Bool := fun _ ds => decide (uptoBulkAll ds ≤ 1048576)
def OpenSpec.upto (s : _root_.Go.ChangeSpec) : _root_.Go.OpenSpec := { _root_.Go.OpenSpec.ofChange s with cond := some uptoSmall }

/-- 'rflaw2.ComponentsPlaced', WHERE WHAT IT READS IS OF BULK AT MOST 1048576: true; the input reads as it did. -/
def componentsPlacedUptoRow : OpenClaim := { program := "ytiehkcbjfamnkaa", sum := "a81365c7968438cd92587c1cdf6b8184560b402364fc8f7eff3060ca98d7410b", func := "reelfeeder/rflaw2.ComponentsPlaced", spec := "componentsPlaced", inPlace := ["internal/bytealg.abigen_runtime_cmpstring", "internal/bytealg.IndexByteString"], unfollowed := true, recurses := true, apart := false, narrowed := true }
def ComponentsPlacedUptoSaid : Prop := componentsPlacedUptoRow.holds Try.pinned (OpenSpec.upto componentsPlacedSpec)

/-- 'rflaw2.PanelsTurned', WHERE WHAT IT READS IS OF BULK AT MOST 1048576: true; the input reads as it did. -/
def panelsTurnedUptoRow : OpenClaim := { program := "ytiehkcbjfamnkaa", sum := "a81365c7968438cd92587c1cdf6b8184560b402364fc8f7eff3060ca98d7410b", func := "reelfeeder/rflaw2.PanelsTurned", spec := "panelsTurned", inPlace := ["internal/bytealg.IndexByteString"], unfollowed := true, recurses := true, apart := false, narrowed := true }
def PanelsTurnedUptoSaid : Prop := panelsTurnedUptoRow.holds Try.pinned (OpenSpec.upto panelsTurnedSpec)

/-- 'rflaw2.BodiesCompared', WHERE WHAT IT READS IS OF BULK AT MOST 1048576: true; the input reads as it did. -/
def bodiesComparedUptoRow : OpenClaim := { program := "ytiehkcbjfamnkaa", sum := "a81365c7968438cd92587c1cdf6b8184560b402364fc8f7eff3060ca98d7410b", func := "reelfeeder/rflaw2.BodiesCompared", spec := "bodiesCompared", inPlace := ["internal/bytealg.abigen_runtime_cmpstring", "internal/bytealg.IndexByteString"], unfollowed := true, recurses := true, apart := false, narrowed := true }
def BodiesComparedUptoSaid : Prop := bodiesComparedUptoRow.holds Try.pinned (OpenSpec.upto bodiesComparedSpec)

/-- 'rflaw2.PointsCorrected', WHERE WHAT IT READS IS OF BULK AT MOST 1048576: true; the input reads as it did. -/
def pointsCorrectedUptoRow : OpenClaim := { program := "ytiehkcbjfamnkaa", sum := "a81365c7968438cd92587c1cdf6b8184560b402364fc8f7eff3060ca98d7410b", func := "reelfeeder/rflaw2.PointsCorrected", spec := "pointsCorrected", unfollowed := true, recurses := true, apart := false, narrowed := true }
def PointsCorrectedUptoSaid : Prop := pointsCorrectedUptoRow.holds Try.pinned (OpenSpec.upto pointsCorrectedSpec)

end Rows
end Go.Proofs.Ytiehkcbjfamnkaa
