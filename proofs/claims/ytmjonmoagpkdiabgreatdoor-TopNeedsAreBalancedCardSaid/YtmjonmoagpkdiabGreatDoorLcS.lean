/-
  That package line moves boards.
-/
import Derived.Test.YtmjonmoagpkdiabGreatDoorLnS
namespace Go.Proofs.YtmjonmoagpkdiabGreatDoor
open Go.RowKit
set_option linter.unusedSimpArgs false
set_option linter.unusedVariables false

theorem line_two : leaveL [10, 30] [0] 2 = [40, 70] := by
  have h00 : lv [10, 30] [0] 0 0 = 10 := by rw [lv_eq]; simp [dn, cm, from_, bef, rm, bufN] <;> omega
  have h01 : lv [10, 30] [0] 0 1 = 40 := by rw [lv_eq]; simp [dn, cm, from_, bef, rm, bufN, h00] <;> omega
  have h10 : lv [10, 30] [0] 1 0 = 40 := by rw [lv_eq]; simp [dn, cm, from_, bef, rm, bufN, h00, h01] <;> omega
  have h11 : lv [10, 30] [0] 1 1 = 70 := by rw [lv_eq]; simp [dn, cm, from_, bef, rm, bufN, h00, h01, h10] <;> omega
  show [lv [10, 30] [0] 0 1, lv [10, 30] [0] 1 1] = _
  rw [h01, h11]
theorem line_lit {w : World} {g : Nat} {l : List Int} {t : TypeId} {n : Nat} (hn : n = l.length) (h : w.heap[g]? = some (.cells (l.map (Value.int .i64)).toArray t (0, 0))) : Reads encN (.slice (some ⟨g, 0, none⟩) n n) l w := by
  subst hn
  exact ⟨_, _, rfl, .inr ⟨g, rfl, lt_of_blk h, fun j u hu => by
    rw [cell_of_blk h]
    rw [flatN_map] at hu
    simpa using hu⟩⟩

theorem kept_belowL {sb : Nat} {w w' : World} {o : Obj} (hs : sb = w.heap.size) (h : Kept sb (w.alloc o) w') : Below w.heap.size w w' := by
  subst hs
  obtain ⟨a, b, c⟩ := h.outer
  refine ⟨a, b, c, by have := h.more; simp at this; omega, fun k hk => ?_⟩
  exact (h.old k (by simp; omega) (by omega)).trans (Below.heap_alloc w o k hk)

end Go.Proofs.YtmjonmoagpkdiabGreatDoor
