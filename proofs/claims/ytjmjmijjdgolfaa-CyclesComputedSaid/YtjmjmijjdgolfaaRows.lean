/-
  No cell of these rows narrows 'for every input' (looked for: loops, veiled, ifaces, maps, wideKeys, modest, calm, conditions, laid).
  DERIVED. THE GIVEN ROWS OF THIS SEAT. 3 by the template 'for every input the law returns true; each argument reads behind the call as it read before'; 0 by the template 'total and deterministic' (their statements: YtjmjmijjdgolfaaTotals.lean).
  GIVEN WITH THE SEED: the statements are not yours to turn. If you find one false, say at which input.
  Laid BY PROGRAM, IN A SANDBOX (cutbox-rows.mjs): the forced cells as the released guide's own fill.sh prints them over the translation 30551ac83e86e889… (all of the seat's roots in one cut). By AI agents, Wed Nov 11 2026. No macro, syntax, notation, axiom, sorry.
-/
import Derived.Test.YtjmjmijjdgolfaaChecked
import GoSem.Claim
import GoSem.ClaimJoined
import GoSem.ClaimMapViews
import Derived.JoinedTies
import Derived.KernelRfl
namespace Go.Proofs.Ytjmjmijjdgolfaa
/- THE CELL 'sum', in the pinned program and in every row, IS THE sha256 OF THE DUMP (.gsa) THAT YtjmjmijjdgolfaaProg.lean LOADS. Nothing in Lean hashes anything: it is a label: what it is worth is what the hold of that sum in a sandbox is worth. -/
noncomputable def Try.pinned : Pinned := { name := "ytjmjmijjdgolfaa", sum := "30551ac83e86e88927eb737eccc619ae39a59674a607ad5d1cb287fe74aeeb66", checked := Try.checked }
namespace Rows
def none {H : Type} : Left H := { results := [], args := [] }

/-- 'rflaw2.CyclesComputed': WHATEVER THE INPUT: true; the input reads as it did. -/
def cyclesComputedSpec : ChangeSpec := { name := "cyclesComputed", fn := fun _ => fun
  | [d] => { results := [.lit (.bool true)], args := [d] }
  | _ => none }
def cyclesComputedRow : OpenClaim := { program := "ytjmjmijjdgolfaa", sum := "30551ac83e86e88927eb737eccc619ae39a59674a607ad5d1cb287fe74aeeb66", func := "reelfeeder/rflaw2.CyclesComputed", spec := "cyclesComputed", inPlace := ["internal/bytealg.IndexByteString"], unfollowed := true, recurses := true, apart := false }
def CyclesComputedSaid : Prop := cyclesComputedRow.holds Try.pinned (OpenSpec.ofChange cyclesComputedSpec)

/-- ITS FALSE NEIGHBOUR: 'it returns false'. Refute it at one input. -/
def cyclesComputedWrong : ChangeSpec := { name := "cyclesComputed", fn := fun _ => fun
  | [d] => { results := [.lit (.bool false)], args := [d] }
  | _ => none }
def CyclesComputedWrongFalsely : Prop := cyclesComputedRow.holds Try.pinned (OpenSpec.ofChange cyclesComputedWrong)

/-- 'rflaw2.SetupsCompared': WHATEVER THE INPUT: true; the input reads as it did. -/
def setupsComparedSpec : ChangeSpec := { name := "setupsCompared", fn := fun _ => fun
  | [d] => { results := [.lit (.bool true)], args := [d] }
  | _ => none }
def setupsComparedRow : OpenClaim := { program := "ytjmjmijjdgolfaa", sum := "30551ac83e86e88927eb737eccc619ae39a59674a607ad5d1cb287fe74aeeb66", func := "reelfeeder/rflaw2.SetupsCompared", spec := "setupsCompared", inPlace := ["internal/bytealg.IndexByteString", "internal/bytealg.abigen_runtime_cmpstring"], unfollowed := true, recurses := true, apart := false }
def SetupsComparedSaid : Prop := setupsComparedRow.holds Try.pinned (OpenSpec.ofChange setupsComparedSpec)

/-- ITS FALSE NEIGHBOUR: 'it returns false'. Refute it at one input. -/
def setupsComparedWrong : ChangeSpec := { name := "setupsCompared", fn := fun _ => fun
  | [d] => { results := [.lit (.bool false)], args := [d] }
  | _ => none }
def SetupsComparedWrongFalsely : Prop := setupsComparedRow.holds Try.pinned (OpenSpec.ofChange setupsComparedWrong)

/-- 'rflaw2.SetupsMade': WHATEVER THE INPUT: true; the input reads as it did. -/
def setupsMadeSpec : ChangeSpec := { name := "setupsMade", fn := fun _ => fun
  | [d] => { results := [.lit (.bool true)], args := [d] }
  | _ => none }
def setupsMadeRow : OpenClaim := { program := "ytjmjmijjdgolfaa", sum := "30551ac83e86e88927eb737eccc619ae39a59674a607ad5d1cb287fe74aeeb66", func := "reelfeeder/rflaw2.SetupsMade", spec := "setupsMade", inPlace := ["internal/bytealg.abigen_runtime_cmpstring", "internal/bytealg.IndexByteString"], unfollowed := true, recurses := true, apart := false }
def SetupsMadeSaid : Prop := setupsMadeRow.holds Try.pinned (OpenSpec.ofChange setupsMadeSpec)

/-- ITS FALSE NEIGHBOUR: 'it returns false'. Refute it at one input. -/
def setupsMadeWrong : ChangeSpec := { name := "setupsMade", fn := fun _ => fun
  | [d] => { results := [.lit (.bool false)], args := [d] }
  | _ => none }
def SetupsMadeWrongFalsely : Prop := setupsMadeRow.holds Try.pinned (OpenSpec.ofChange setupsMadeWrong)

/- THE SECOND FORM. 'bulk': how many values and letters a reading holds, each counted each time it is reached (what is shared counts as often as it is met; a slice's spare places count too). A statement '..UptoSaid' is the law's where the arguments, and the package variables that the reading takes, are together of bulk at most 1048576: NARROWER than '..Said'. Prove '..Said' where nothing that the law and all that it calls make is longer than what came in: it says more and counts as full. Else prove '..UptoSaid'. A law counts once. -/
mutual
def uptoBulk {H : Type} : DataW H → Nat
  | .lit (.string bytes) => bytes.length + 1
  | .lit _ => 1
  | .nil => 1
  | .ptr d => uptoBulk d + 1
  | .slice elems spare => uptoBulkAll elems + uptoBulkAll spare + 1
  | .agg parts => uptoBulkAll parts + 1
  | .iface _ d => uptoBulk d + 1
  | .map entries => uptoBulkEntries entries + 1
  | .held _ => 1
def uptoBulkAll {H : Type} : List (DataW H) → Nat
  | [] => 0
  | d :: r => uptoBulk d + uptoBulkAll r
def uptoBulkEntries {H : Type} : List (Lit × DataW H) → Nat
  | [] => 0
  | x :: r => uptoBulkEntry x + uptoBulkEntries r
def uptoBulkEntry {H : Type} : Lit × DataW H → Nat
  | (.string bytes, d) => bytes.length + uptoBulk d + 1
  | (_, d) => uptoBulk d + 1
 end
def uptoSmall : (H : Type) → List (DataW H) → Bool := fun _ ds => decide (uptoBulkAll ds ≤ 1048576)
def OpenSpec.upto (s : _root_.Go.ChangeSpec) : _root_.Go.OpenSpec := { _root_.Go.OpenSpec.ofChange s with cond := some uptoSmall }

/-- 'rflaw2.CyclesComputed', WHERE WHAT IT READS IS OF BULK AT MOST 1048576: true; the input reads as it did. -/
def cyclesComputedUptoRow : OpenClaim := { program := "ytjmjmijjdgolfaa", sum := "30551ac83e86e88927eb737eccc619ae39a59674a607ad5d1cb287fe74aeeb66", func := "reelfeeder/rflaw2.CyclesComputed", spec := "cyclesComputed", inPlace := ["internal/bytealg.IndexByteString"], unfollowed := true, recurses := true, apart := false, narrowed := true }
def CyclesComputedUptoSaid : Prop := cyclesComputedUptoRow.holds Try.pinned (OpenSpec.upto cyclesComputedSpec)

/-- 'rflaw2.SetupsCompared', WHERE WHAT IT READS IS OF BULK AT MOST 1048576: true; the input reads as it did. -/
def setupsComparedUptoRow : OpenClaim := { program := "ytjmjmijjdgolfaa", sum := "30551ac83e86e88927eb737eccc619ae39a59674a607ad5d1cb287fe74aeeb66", func := "reelfeeder/rflaw2.SetupsCompared", spec := "setupsCompared", inPlace := ["internal/bytealg.IndexByteString", "internal/bytealg.abigen_runtime_cmpstring"], unfollowed := true, recurses := true, apart := false, narrowed := true }
def SetupsComparedUptoSaid : Prop := setupsComparedUptoRow.holds Try.pinned (OpenSpec.upto setupsComparedSpec)

/-- 'rflaw2.SetupsMade', WHERE WHAT IT READS IS OF BULK AT MOST 1048576: true; the input reads as it did. -/
def setupsMadeUptoRow : OpenClaim := { program := "ytjmjmijjdgolfaa", sum := "30551ac83e86e88927eb737eccc619ae39a59674a607ad5d1cb287fe74aeeb66", func := "reelfeeder/rflaw2.SetupsMade", spec := "setupsMade", inPlace := ["internal/bytealg.abigen_runtime_cmpstring", "internal/bytealg.IndexByteString"], unfollowed := true, recurses := true, apart := false, narrowed := true }
def SetupsMadeUptoSaid : Prop := setupsMadeUptoRow.holds Try.pinned (OpenSpec.upto setupsMadeSpec)

end Rows
end Go.Proofs.Ytjmjmijjdgolfaa
