/-
  The walk of the law package's own check on a fixed product.
-/
import Derived.Test.YtalconjnjaffkaaGreatDoorNeeds
namespace Go.Proofs.YtalconjnjaffkaaGreatDoor
open Go.RowKit

def onePl : Pl := ⟨⟨#[99]⟩, ⟨#[99, 97, 112]⟩, 0, 0, 0⟩
theorem one_ok : prodErr ⟨#[112]⟩ 5 5 [onePl] = 0 := by decide
theorem one_needs : needsOf (([onePl].map partOf).mergeSort fun x y => decide (x ≤ y)) = [([99, 97, 112], 1)] := by
  simp [needsOf, addNeed, partOf, onePl]

set_option maxHeartbeats 1000000 in
theorem paneled_any (w : World) : Calls Tryz.prog 28 #[] w fun e w' => e = .returned (.bool true) ∧ Below w.heap.size w w' := by
  go_enter Tryz.func28, Tryz.ntmps28
  go_wp2_with fail
  have hA : PlAt (w.alloc (.cells (flatP [onePl]).toArray 124)) (some ⟨w.heap.size, 0, none⟩) [onePl] := by
    refine .inr ⟨w.heap.size, rfl, by simp, fun j u hu => ?_⟩
    rw [cell_of_blk (blk_new w _ rfl)]
    simpa using hu
  have HNE := needs_any ⟨#[112]⟩ 5 5 (some ⟨w.heap.size, 0, none⟩) 1 [onePl] (by simp) _ hA one_ok
  rw [one_needs] at HNE
  refine HNE.mono ?_
  rintro e w1 ⟨v, rfl, hb, hown⟩
  obtain ⟨g, cap, rfl, hgb, hg, hcap, _, hrd⟩ := own_read hown (by decide)
  have hc := hrd 1 (.int .i64 1) rfl
  clear hrd hown HNE hA
  go_wp2_with fail
  go_ret
  exact ⟨rfl, ((Below.refl _ _).alloc (Nat.le_refl _) _).then_below hb⟩
end Go.Proofs.YtalconjnjaffkaaGreatDoor
