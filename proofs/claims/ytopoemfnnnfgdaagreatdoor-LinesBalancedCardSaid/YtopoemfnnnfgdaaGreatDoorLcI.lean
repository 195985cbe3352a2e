/-
  Cycles and the slowest machine: the program's answers, and the reference's.
-/
import Derived.Test.YtopoemfnnnfgdaaGreatDoorLcH
import Derived.Test.YtopoemfnnnfgdaaGreatDoorLnS
namespace Go.Proofs.YtopoemfnnnfgdaaGreatDoor
open Go.RowKit
set_option linter.unusedSimpArgs false
set_option linter.unusedVariables false

theorem allErr_ok {ms : List Mc} {ns : List Nd} {plan : List Int} (h : allErr ms ns plan = 0) : MsOk ms ∧ NsOk ns ∧ planErr ms ns plan = 0 := by
  unfold allErr thenL at h
  split at h
  · rename_i h0
    exact ⟨machErr_ok (bothErr_ok h0).1, needErr_ok (bothErr_ok h0).2, h⟩
  · contradiction
theorem planErr_ok {ms : List Mc} {ns : List Nd} {plan : List Int} (h : planErr ms ns plan = 0) : plan.length = ns.length ∧ Idx ms plan := by
  unfold planErr at h
  split at h
  · cases h
  rename_i h0
  unfold thenL at h
  split at h
  · rename_i h1
    exact ⟨by omega, pErr_ok ms plan ns (by omega) h1⟩
  · contradiction
theorem cyS_nil (f each k : Int) (plan : List Int) (ns : List Nd) : f = f + cyS each k (plan.take 0) ns := by
  rw [List.take_zero]
  simp [cyS]
def cyV (ms : List Mc) (ns : List Nd) (plan : List Int) : List Int := if allErr ms ns plan = 0 then cyL ms ns plan else []
def slV (ms : List Mc) (ns : List Nd) (plan : List Int) : Int × Int := if allErr ms ns plan = 0 then (((slow (cyL ms ns plan) : Nat) : Int), slowC (cyL ms ns plan)) else (0, 0)

end Go.Proofs.YtopoemfnnnfgdaaGreatDoor
