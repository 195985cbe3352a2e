/-
  The check of a plan.
-/
import Derived.Test.YtopoemfnnnfgdaaGreatDoorLcE
namespace Go.Proofs.YtopoemfnnnfgdaaGreatDoor
open Go.RowKit
set_option linter.unusedSimpArgs false
set_option linter.unusedVariables false

theorem MsF.at_ {base : Nat} {A : Option Addr} {c : Nat} {ms : List Mc} {w : World} (h : MsF base (.slice A ms.length c) ms w) {k : Nat} (hk : k < ms.length) : ∃ g : Nat, A = some ⟨g, 0, none⟩ ∧ g < w.heap.size ∧ McAt base g (k * 5) ms[k] w := by
  obtain ⟨A', c', e, _, hr⟩ := h
  cases e
  rcases hr with rfl | ⟨g, rfl, hgl, hrow⟩
  · simp at hk
  exact ⟨g, rfl, hgl, hrow k hk⟩
theorem readsD_at {A : Option Addr} {c : Nat} {ns : List Nd} {w : World} (h : Reads encD (.slice A ns.length c) ns w) {k : Nat} (hk : k < ns.length) : ∃ g : Nat, A = some ⟨g, 0, none⟩ ∧ g < w.heap.size ∧ w.cell? ⟨g, k * 2, none⟩ = some (.string ns[k].part) ∧ w.cell? ⟨g, k * 2 + 1, none⟩ = some (.int .i64 ns[k].many) := by
  obtain ⟨A', c', e, hr⟩ := h
  cases e
  rcases hr with rfl | ⟨g, rfl, hrow⟩
  · simp at hk
  exact ⟨g, rfl, hrow.1, row_d hrow hk⟩
theorem readsN_at {A : Option Addr} {c : Nat} {l : List Int} {w : World} (h : Reads encN (.slice A l.length c) l w) {k : Nat} (hk : k < l.length) : ∃ g : Nat, A = some ⟨g, 0, none⟩ ∧ g < w.heap.size ∧ w.cell? ⟨g, k, none⟩ = some (.int .i64 l[k]) := by
  obtain ⟨A', c', e, hr⟩ := h
  cases e
  rcases hr with rfl | ⟨g, rfl, hrow⟩
  · simp at hk
  exact ⟨g, rfl, hrow.1, row_n hrow hk⟩

end Go.Proofs.YtopoemfnnnfgdaaGreatDoor
