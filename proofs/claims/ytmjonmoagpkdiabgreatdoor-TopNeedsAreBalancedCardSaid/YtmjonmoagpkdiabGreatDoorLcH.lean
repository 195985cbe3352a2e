/-
  The fault of a plan, and the cycles: the reference's; the program's cycles.
-/
import Derived.Test.YtmjonmoagpkdiabGreatDoorLcF
import Derived.Test.YtmjonmoagpkdiabGreatDoorLcG
import Derived.Test.YtmjonmoagpkdiabGreatDoorLmE
namespace Go.Proofs.YtmjonmoagpkdiabGreatDoor
open Go.RowKit
set_option linter.unusedSimpArgs false
set_option linter.unusedVariables false

theorem run_makeI (n : Nat) (hn : n ≤ 1000000) (W : World) : (Instr.makeSlice 22 (.int .i64 n) (.int .i64 n)).run Tryz.prog W = .ok (.slice (some ⟨W.heap.size, 0, none⟩) n n) (W.alloc (.cells (Array.replicate n (.int .i64 0)) 3)) := by
  obtain ⟨i0, hi, hz0, hz1, hz2⟩ := info_parts int_infoN
  have h := run_make (P := Tryz.prog) W 22 3 i0 (.int .i64 0) Tryz.underlying22 hi hz0 .i64 .i64 n n (by omega) (by omega) (by rw [hz2]; omega) (by omega)
  rw [h, hz1]
  have e : madeCells (Value.int .i64 0).cells ((n : Int).toNat * 1) = Array.replicate n (.int .i64 0) := by
    apply Array.ext
    · simp [madeCells]
    · intro j h1 h2
      simp [madeCells, Value.cells, Nat.mod_one]
  rw [e]
  simp
/-- A row of numbers of its own. -/
structure NS (wo : World) (gb : Nat) (L : List Int) (W : World) : Prop where
  bel : Below wo.heap.size wo W
  new : wo.heap.size ≤ gb
  row : W.heap[gb]? = some (.cells (L.map (Value.int .i64)).toArray 3 (0, 0))
theorem NS.then_ {wo : World} {gb : Nat} {L : List Int} {W W' : World} (h : NS wo gb L W) (hb : Below W.heap.size W W') : NS wo gb L W' := ⟨h.bel.then_below hb h.bel.size, h.new, blk_below hb h.row⟩
theorem NS.at_ {wo : World} {gb : Nat} {L : List Int} {W : World} (h : NS wo gb L W) {k : Nat} (hk : k < L.length) : W.cell? ⟨gb, k, none⟩ = some (.int .i64 L[k]) := by
  refine (cell_of_blk h.row _).trans (List.getElem?_toArray.trans ?_)
  rw [List.getElem?_map, List.getElem?_eq_getElem hk]
  rfl
theorem NS.set {wo : World} {gb : Nat} {L : List Int} {W : World} (h : NS wo gb L W) (k : Nat) (x : Int) : NS wo gb (L.set k x) (W.setCell ⟨gb, k, none⟩ (.int .i64 x)) := by
  have hn := h.new
  refine ⟨h.bel.setCell hn _, h.new, ?_⟩
  have := blk_set h.row (i := k) (.int .i64 x)
  rw [List.map_set]
  simpa only [List.setIfInBounds_toArray] using this
def cnL (ms : List Mc) (plan : List Int) : List Int := ms.mapIdx fun k _ => (plan.count (k : Int) : Int)
theorem cnL_len (ms : List Mc) (plan : List Int) : (cnL ms plan).length = ms.length := by unfold cnL; rw [List.length_mapIdx]
theorem cnL_at (ms : List Mc) (plan : List Int) {k : Nat} (h : k < ms.length) : (cnL ms plan)[k]'(by rw [cnL_len]; exact h) = (plan.count (k : Int) : Int) := by
  unfold cnL
  rw [List.getElem_mapIdx]
theorem cnL_zero (ms : List Mc) (plan : List Int) : cnL ms (plan.take 0) = List.replicate ms.length 0 := by
  refine List.ext_getElem (by rw [cnL_len, List.length_replicate]) fun j h1 h2 => ?_
  rw [cnL_len] at h1
  rw [cnL_at _ _ h1, List.getElem_replicate, List.take_zero]
  rfl
theorem cnL_step {ms : List Mc} {plan : List Int} {t p : Nat} (h1 : t < plan.length) (hp : plan[t] = (p : Int)) (hm : p < ms.length) : cnL ms (plan.take (t + 1)) = (cnL ms (plan.take t)).set p (((plan.take t).count (p : Int) : Int) + 1) := by
  refine List.ext_getElem (by rw [List.length_set, cnL_len, cnL_len]) fun k hk1 hk2 => ?_
  have hk : k < ms.length := by rw [cnL_len] at hk1; exact hk1
  rw [List.getElem_set, cnL_at _ _ hk, cnL_at _ _ hk]
  have hc : (plan.take (t + 1)).count (k : Int) = (plan.take t).count (k : Int) + if plan[t] = (k : Int) then 1 else 0 := by
    rw [List.take_succ_eq_append_getElem h1, List.count_append, List.count_singleton]
    congr 1
    by_cases e : plan[t] = (k : Int)
    · rw [if_pos e, e]; simp
    · rw [if_neg e]
      simp [e]
  rw [hc, hp]
  by_cases e : p = k
  · subst e
    rw [if_pos rfl, if_pos rfl]
    omega
  · rw [if_neg e, if_neg (by omega)]
    omega

end Go.Proofs.YtmjonmoagpkdiabGreatDoor
