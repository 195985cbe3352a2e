/-
  The packages' facts that the top statements ask.
-/
import Derived.Test.YtmjonmoagpkdiabGreatDoorLmD
import Derived.Test.YtmjonmoagpkdiabGreatDoorLmC
import Derived.Test.YtmjonmoagpkdiabGreatDoorLcS
import Derived.Test.YtmjonmoagpkdiabGreatDoorPaneled
namespace Go.Proofs.YtmjonmoagpkdiabGreatDoor
open Go.RowKit
set_option linter.unusedSimpArgs false
set_option linter.unusedVariables false

def oneLk : Lk := ⟨⟨#[98]⟩, ⟨#[99]⟩, 0, 1, true, ⟨#[109]⟩, ⟨#[110]⟩, ⟨#[114]⟩⟩
theorem one_err : lkErr oneLk = 0 := by decide
set_option maxRecDepth 100000 in
set_option maxHeartbeats 8000000 in
theorem h10_any (w : World) : Calls Tryz.prog 9 #[] w fun e w' => e = .returned (.bool true) ∧ Below w.heap.size w w' := by
  have hA : PlAt (w.alloc (.cells (flatP [onePl]).toArray 50)) (some ⟨w.heap.size, 0, none⟩) [onePl] := by
    refine .inr ⟨w.heap.size, rfl, by simp, fun j u hu => ?_⟩
    rw [cell_of_blk (blk_new w _ rfl)]
    simpa using hu
  have HNE := needs_any ⟨#[112]⟩ 5 5 (some ⟨w.heap.size, 0, none⟩) 1 [onePl] (by simp) _ hA one_ok
  rw [one_needs] at HNE
  have HN := Lib.hid HNE
  have HB0 : Hid (Below w.heap.size w (w.alloc (.cells (flatP [onePl]).toArray 50))) := (Below.refl _ _).alloc (Nat.le_refl _) _
  clear HNE hA
  go_enter Tryz.func9, Tryz.ntmps9
  go_wp2_with fail
  refine HN.out.mono ?_
  rintro e w1 ⟨v1, rfl, hb, hown⟩
  obtain ⟨g1, c1, rfl, _, _, _, _, _⟩ := own_read hown (by decide)
  have H1 := Lib.hid (HB0.out.then_below hb HB0.out.size)
  clear hown HN hb HB0
  go_wp2_with fail
  have bw2 : Below w1.heap.size w1 ((((w1.alloc (Obj.cells #[.string ⟨#[]⟩] 9)).alloc (Obj.cells #[.string kA] 9)).alloc (Obj.cells #[.string kB] 9)).alloc (Obj.cells #[.slice (some ⟨w1.heap.size + 1, 0, none⟩) 1 1, .slice (some ⟨w1.heap.size + 1 + 1, 0, none⟩) 1 1] 34)) := (((((Below.refl _ _).alloc (Nat.le_refl _) _).alloc (by simp) _).alloc (by simp; omega) _).alloc (by simp; omega) _)
  have kS : ((((w1.alloc (Obj.cells #[.string ⟨#[]⟩] 9)).alloc (Obj.cells #[.string kA] 9)).alloc (Obj.cells #[.string kB] 9)).alloc (Obj.cells #[.slice (some ⟨w1.heap.size + 1, 0, none⟩) 1 1, .slice (some ⟨w1.heap.size + 1 + 1, 0, none⟩) 1 1] 34)).heap[w1.heap.size]? = some (.cells #[.string ⟨#[]⟩] 9 (0, 0)) := (blk_alloc (blk_alloc (blk_alloc (blk_new w1 _ rfl) _) _) _)
  have kX : ((((w1.alloc (Obj.cells #[.string ⟨#[]⟩] 9)).alloc (Obj.cells #[.string kA] 9)).alloc (Obj.cells #[.string kB] 9)).alloc (Obj.cells #[.slice (some ⟨w1.heap.size + 1, 0, none⟩) 1 1, .slice (some ⟨w1.heap.size + 1 + 1, 0, none⟩) 1 1] 34)).heap[w1.heap.size + 1]? = some (.cells #[.string kA] 9 (0, 0)) := (blk_alloc (blk_alloc (blk_new _ _ (by simp)) _) _)
  have kY : ((((w1.alloc (Obj.cells #[.string ⟨#[]⟩] 9)).alloc (Obj.cells #[.string kA] 9)).alloc (Obj.cells #[.string kB] 9)).alloc (Obj.cells #[.slice (some ⟨w1.heap.size + 1, 0, none⟩) 1 1, .slice (some ⟨w1.heap.size + 1 + 1, 0, none⟩) 1 1] 34)).heap[w1.heap.size + 1 + 1]? = some (.cells #[.string kB] 9 (0, 0)) := (blk_alloc (blk_new _ _ (by simp)) _)
  have kP : ((((w1.alloc (Obj.cells #[.string ⟨#[]⟩] 9)).alloc (Obj.cells #[.string kA] 9)).alloc (Obj.cells #[.string kB] 9)).alloc (Obj.cells #[.slice (some ⟨w1.heap.size + 1, 0, none⟩) 1 1, .slice (some ⟨w1.heap.size + 1 + 1, 0, none⟩) 1 1] 34)).heap[w1.heap.size + 1 + 1 + 1]? = some (.cells #[.slice (some ⟨w1.heap.size + 1, 0, none⟩) 1 1, .slice (some ⟨w1.heap.size + 1 + 1, 0, none⟩) 1 1] 34 (0, 0)) := (blk_new _ _ (by simp))
  generalize ((((w1.alloc (Obj.cells #[.string ⟨#[]⟩] 9)).alloc (Obj.cells #[.string kA] 9)).alloc (Obj.cells #[.string kB] 9)).alloc (Obj.cells #[.slice (some ⟨w1.heap.size + 1, 0, none⟩) 1 1, .slice (some ⟨w1.heap.size + 1 + 1, 0, none⟩) 1 1] 34)) = w2 at *
  have r1 : ReadsF 0 encS (.slice (some ⟨w1.heap.size, 0, none⟩) 1 1) [⟨#[]⟩] w2 := readsF_lit (l := [⟨#[]⟩]) rfl (Nat.le_refl _) kS (Nat.zero_le _)
  have r2 : ReadsF 0 encS (.slice (some ⟨w1.heap.size + 1, 0, none⟩) 1 1) [kA] w2 := readsF_lit (l := [kA]) rfl (Nat.le_refl _) kX (Nat.zero_le _)
  have r3 : ReadsF 0 encS (.slice (some ⟨w1.heap.size + 1 + 1, 0, none⟩) 1 1) [kB] w2 := readsF_lit (l := [kB]) rfl (Nat.le_refl _) kY (Nat.zero_le _)
  have r4 : ListsF 0 (.slice (some ⟨w1.heap.size + 1 + 1 + 1, 0, none⟩) 2 2) [[kA], [kB]] w2 := by
    refine ⟨_, 2, rfl, Nat.le_refl _, .inr ⟨_, 0, rfl, Nat.zero_le _, lt_of_blk kP, fun j hj => ?_⟩⟩
    obtain ⟨c0, c1, _, _⟩ := blk2 kP
    match j, hj with
    | 0, _ => exact ⟨_, c0, r2⟩
    | 1, _ => exact ⟨_, c1, r3⟩
  have CT := Lib.hid (total_any (by simp) (by simp) (by simp) r1 r4)
  rw [loaded_chk, loaded_total] at CT
  have H2 := Lib.hid (H1.out.then_below bw2 H1.out.size)
  clear r1 r2 r3 r4 kS kX kY kP bw2 H1
  refine CT.out.mono ?_
  rintro e w3 ⟨rfl, hb⟩
  have H3 := Lib.hid (H2.out.then_below hb H2.out.size)
  clear hb H2 CT
  have e1 : okN 0 2 = 2 := rfl
  rw [e1]
  go_wp2_with fail
  have HA : Hid (Below w.heap.size w ((w3.alloc (.cells #[.int .i64 10, .int .i64 30] 3)).alloc (.cells #[.int .i64 0] 3)) ∧ Reads encN (.slice (some ⟨w3.heap.size, 0, none⟩) 2 2) [10, 30] ((w3.alloc (.cells #[.int .i64 10, .int .i64 30] 3)).alloc (.cells #[.int .i64 0] 3)) ∧ Reads encN (.slice (some ⟨w3.heap.size + 1, 0, none⟩) 1 1) [0] ((w3.alloc (.cells #[.int .i64 10, .int .i64 30] 3)).alloc (.cells #[.int .i64 0] 3))) :=
    ⟨(H3.out.alloc H3.out.size _).alloc (by simp; have := H3.out.size; omega) _, line_lit (l := [10, 30]) rfl (blk_alloc (blk_new w3 _ rfl) _), line_lit (l := [0]) rfl (blk_new _ _ (by simp))⟩
  generalize (w3.alloc (.cells #[.int .i64 10, .int .i64 30] 3)).alloc (.cells #[.int .i64 0] 3) = w4 at *
  have CL := leave_any [10, 30] [0] 2 (by simp) (by simp) HA.out.2.1 HA.out.2.2
  have hE : bErr [10, 30] [0] 2 = 0 := by decide
  rw [show leaveV [10, 30] [0] 2 = [40, 70] from (if_pos hE).trans line_two, hE] at CL
  have HL := Lib.hid CL
  clear CL hE H3
  refine HL.out.mono ?_
  rintro e w5 ⟨v, rfl, hv, b5⟩
  obtain ⟨A5, c5, rfl, _, _⟩ := hv
  have H5 := Lib.hid (HA.out.1.then_below b5 HA.out.1.size)
  clear b5 HA HL
  go_wp2_with fail
  have H6 : Hid (Below w.heap.size w (w5.alloc (.cells #[.string ⟨#[98]⟩, .string ⟨#[99]⟩, .int .i64 0, .int .i64 1, .bool true, .string ⟨#[109]⟩, .string ⟨#[110]⟩, .string ⟨#[114]⟩] 69)) ∧ OneAt w5.heap.size oneLk (w5.alloc (.cells #[.string ⟨#[98]⟩, .string ⟨#[99]⟩, .int .i64 0, .int .i64 1, .bool true, .string ⟨#[109]⟩, .string ⟨#[110]⟩, .string ⟨#[114]⟩] 69))) := ⟨H5.out.alloc H5.out.size _, blk_new w5 _ rfl⟩
  refine (million1_any oneLk one_err rfl key_bc _ 1 _ H6.out.2).mono ?_
  rintro e w7 ⟨rfl, b7⟩
  have H7 := Lib.hid (H6.out.1.then_below b7 H6.out.1.size)
  clear b7 H6 H5
  go_wp2_with fail
  go_ret
  exact ⟨rfl, H7.out.alloc H7.out.size _⟩
end Go.Proofs.YtmjonmoagpkdiabGreatDoor
