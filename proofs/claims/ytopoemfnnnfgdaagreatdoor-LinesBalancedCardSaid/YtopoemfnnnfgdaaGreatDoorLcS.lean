/-
  That package line moves boards.
-/
import Derived.Test.YtopoemfnnnfgdaaGreatDoorLnS
namespace Go.Proofs.YtopoemfnnnfgdaaGreatDoor
open Go.RowKit
set_option linter.unusedSimpArgs false
set_option linter.unusedVariables false

theorem line_two : leaveL [10, 30] [0] 2 = [40, 70] := by
  have h00 : lv [10, 30] [0] 0 0 = 10 := by rw [lv_eq]; simp [dn, cm, from_, bef, rm, bufN] <;> omega
  have h01 : lv [10, 30] [0] 0 1 = 40 := by rw [lv_eq]; simp [dn, cm, from_, bef, rm, bufN, h00] <;> omega
  have h10 : lv [10, 30] [0] 1 0 = 40 := by rw [lv_eq]; simp [dn, cm, from_, bef, rm, bufN, h00, h01] <;> omega
  have h11 : lv [10, 30] [0] 1 1 = 70 := by rw [lv_eq]; simp [dn, cm, from_, bef, rm, bufN, h00, h01, h10] <;> omega
  show [lv [10, 30] [0] 0 1, lv [10, 30] [0] 1 1] = _
  rw [h01, h11]
theorem line_lit {w : World} {g : Nat} {l : List Int} {t : TypeId} {n : Nat} (hn : n = l.length) (h : w.heap[g]? = some (.cells (l.map (Value.int .i64)).toArray t (0, 0))) : Reads encN (.slice (some ⟨g, 0, none⟩) n n) l w := by
  subst hn
  exact ⟨_, _, rfl, .inr ⟨g, rfl, lt_of_blk h, fun j u hu => by
    rw [cell_of_blk h]
    rw [flatN_map] at hu
    simpa using hu⟩⟩

set_option maxHeartbeats 2000000 in
theorem lined_any (w : World) : Calls Tryz.prog 21 #[] w fun e w' => e = .returned (.bool true) ∧ Below w.heap.size w w' := by
  have HA : Hid (Below w.heap.size w ((w.alloc (.cells #[.int .i64 10, .int .i64 30] 3)).alloc (.cells #[.int .i64 0] 3)) ∧ Reads encN (.slice (some ⟨w.heap.size, 0, none⟩) 2 2) [10, 30] ((w.alloc (.cells #[.int .i64 10, .int .i64 30] 3)).alloc (.cells #[.int .i64 0] 3)) ∧ Reads encN (.slice (some ⟨w.heap.size + 1, 0, none⟩) 1 1) [0] ((w.alloc (.cells #[.int .i64 10, .int .i64 30] 3)).alloc (.cells #[.int .i64 0] 3))) :=
    ⟨((Below.refl _ _).alloc (Nat.le_refl _) _).alloc (by simp) _, line_lit (l := [10, 30]) rfl (blk_alloc (blk_new w _ rfl) _), line_lit (l := [0]) rfl (blk_new _ _ (by simp))⟩
  go_enter Tryz.func21, Tryz.ntmps21
  go_wp2_with fail
  generalize (w.alloc (.cells #[.int .i64 10, .int .i64 30] 3)).alloc (.cells #[.int .i64 0] 3) = w2 at *
  have CL := leave_any [10, 30] [0] 2 (by simp) (by simp) HA.out.2.1 HA.out.2.2
  have hE : bErr [10, 30] [0] 2 = 0 := by decide
  rw [show leaveV [10, 30] [0] 2 = [40, 70] from (if_pos hE).trans line_two, hE] at CL
  refine CL.mono ?_
  rintro e w3 ⟨v, rfl, hv, b3⟩
  obtain ⟨A, c, rfl, hc, hr⟩ := hv
  rcases hr with hr | ⟨gl, rfl, _, hrow⟩
  · cases hr
  have q1 := row_n hrow (k := 1) (by decide)
  have hgl := hrow.1
  have HB : Hid (Below w.heap.size w w3) := HA.out.1.then_below b3 HA.out.1.size
  clear b3 hrow CL hE hc
  simp at q1
  go_wp2_with fail
  go_ret
  exact ⟨rfl, HB.out⟩

theorem kept_belowL {sb : Nat} {w w' : World} {o : Obj} (hs : sb = w.heap.size) (h : Kept sb (w.alloc o) w') : Below w.heap.size w w' := by
  subst hs
  obtain ⟨a, b, c⟩ := h.outer
  refine ⟨a, b, c, by have := h.more; simp at this; omega, fun k hk => ?_⟩
  exact (h.old k (by simp; omega) (by omega)).trans (Below.heap_alloc w o k hk)

end Go.Proofs.YtopoemfnnnfgdaaGreatDoor
