/-
  What is wrong with a line: the program's checks, and the reference's.
-/
import Derived.Test.YtopoemfnnnfgdaaGreatDoorLnB
namespace Go.Proofs.YtopoemfnnnfgdaaGreatDoor
open Go.RowKit
set_option linter.unusedSimpArgs false
set_option linter.unusedVariables false

set_option maxHeartbeats 1000000 in
theorem checkCycles_any (cs : List Int) (hl : cs.length ≤ 1000000) {v : Value} {w : World} (h : Reads encN v cs w) :
    Calls Tryz.prog 79 #[v] w fun e w' => e = .returned (.int .i64 (cErr cs)) ∧ Below w.heap.size w w' := by
  have CI := Lib.hid (containsFN_any (enters_of Tryz.func95 (by kernel_rfl) rfl) outC outC1_any cs hl h)
  have HE : Hid (cErr cs = if cs.length = 0 then 8 else if 6 < cs.length then 2 else if cs.any outC = true then 1 else 0) := rfl
  obtain ⟨A, c, rfl, _⟩ := h
  generalize cs.any outC = b at *
  generalize cErr cs = E at *
  by_cases h0 : cs.length = 0
  · have HF : Hid (E = 8) := HE.out.trans (if_pos h0)
    clear HE CI
    rw [h0]
    clear h0 hl
    go_enter Tryz.func79, Tryz.ntmps79
    go_wp2_with fail
    go_ret
    exact ⟨ret_int HF.out.symm, Below.refl _ _⟩
  have HE2 := Lib.hid (HE.out.trans (if_neg h0))
  clear HE
  by_cases h6 : 6 < cs.length
  · have HF : Hid (E = 2) := HE2.out.trans (if_pos h6)
    clear HE2 CI
    go_enter Tryz.func79, Tryz.ntmps79
    go_wp2_with fail
    go_ret
    exact ⟨ret_int HF.out.symm, Below.refl _ _⟩
  have HE3 := Lib.hid (HE2.out.trans (if_neg h6))
  clear HE2
  cases b
  all_goals
    have HF0 := HE3.out
    simp at HF0
    have HF := Lib.hid HF0
    clear HF0
    clear HE3
    go_enter Tryz.func79, Tryz.ntmps79
    go_wp2_with fail
    refine CI.out.mono ?_
    rintro e w2 ⟨rfl, b2⟩
    have HB := Lib.hid b2
    clear b2
    go_wp2_with fail
    go_ret
    exact ⟨ret_int HF.out.symm, HB.out⟩

theorem bErr_c {cs bs : List Int} {n : Int} (h : cErr cs ≠ 0) : bErr cs bs n = cErr cs := if_pos h
theorem bErr_f {cs bs : List Int} {n : Int} (h : cErr cs = 0) (h2 : (bs.length : Int) ≠ (cs.length : Int) - 1) : bErr cs bs n = 3 := by
  unfold bErr
  rw [if_neg (by omega), if_pos h2]
theorem bErr_r {cs bs : List Int} {n : Int} (h : cErr cs = 0) (h2 : ¬ (bs.length : Int) ≠ (cs.length : Int) - 1) (h3 : bs.any outR = true) : bErr cs bs n = 1 := by
  unfold bErr
  rw [if_neg (by omega), if_neg h2, if_pos h3]
theorem bErr_n {cs bs : List Int} {n : Int} (h : cErr cs = 0) (h2 : ¬ (bs.length : Int) ≠ (cs.length : Int) - 1) (h3 : bs.any outR = false) : bErr cs bs n = if (decide (1 ≤ n) && decide (n ≤ 2000)) = true then 0 else 1 := by
  unfold bErr
  rw [if_neg (by omega), if_neg h2, if_neg (by rw [h3]; simp)]
  simp only [Bool.and_eq_true, decide_eq_true_eq]

theorem validBoards_any (n : Int) (w : World) : Calls Tryz.prog 82 #[.int .i64 n] w fun e w' => e = .returned (.bool (decide (1 ≤ n) && decide (n ≤ 2000))) ∧ w = w' := by
  have CW := Lib.hid (within_any n 1 2000 w)
  generalize (decide (1 ≤ n) && decide (n ≤ 2000)) = b at *
  go_enter Tryz.func82, Tryz.ntmps82
  go_wp2_with fail
  refine CW.out.mono ?_
  rintro e w2 ⟨rfl, rfl⟩
  go_wp2_with fail
  go_ret
  exact ⟨rfl, rfl⟩

set_option maxHeartbeats 2000000 in
theorem checkBoards_any (cs bs : List Int) (n : Int) (hl : cs.length ≤ 1000000) (hb : bs.length ≤ 1000000) {v1 v2 : Value} {w : World} (h1 : Reads encN v1 cs w) (h2 : Reads encN v2 bs w) :
    Calls Tryz.prog 63 #[v1, v2, .int .i64 n] w fun e w' => e = .returned (.int .i64 (bErr cs bs n)) ∧ Below w.heap.size w w' := by
  have CC := Lib.hid (checkCycles_any cs hl h1)
  have CI := Lib.hid (fun W h => @containsFN_any _ (enters_of Tryz.func80 (by kernel_rfl) rfl) outR outR1_any bs hb v2 W h)
  have CV := Lib.hid (fun W => validBoards_any n W)
  have HR := Lib.hid h2
  have HC := Lib.hid (@bErr_c cs bs n)
  have HF := Lib.hid (@bErr_f cs bs n)
  have HR1 := Lib.hid (@bErr_r cs bs n)
  have HN := Lib.hid (@bErr_n cs bs n)
  obtain ⟨A1, c1, rfl, _⟩ := h1
  obtain ⟨A2, c2, rfl, _⟩ := h2
  generalize bErr cs bs n = E at *
  generalize bs.any outR = rb at *
  generalize (decide (1 ≤ n) && decide (n ≤ 2000)) = nb at *
  generalize cErr cs = C at *
  by_cases h0 : C = 0
  rotate_left
  · have HX := Lib.hid (HC.out h0)
    have hne : (C != 0) = true := by simp [h0]
    clear HC HF HR1 HN CI CV
    go_enter Tryz.func63, Tryz.ntmps63
    go_wp2_with fail
    refine CC.out.mono ?_
    rintro e w2 ⟨rfl, b2⟩
    have HB := Lib.hid b2
    clear b2 CC
    go_wp2_with fail
    go_ret
    exact ⟨ret_int HX.out.symm, HB.out⟩
  subst h0
  clear HC
  by_cases hln : (bs.length : Int) ≠ (cs.length : Int) - 1
  · have HX := Lib.hid (HF.out rfl hln)
    have hne : ((bs.length : Int) != (cs.length : Int) - 1) = true := by simpa using hln
    clear HF HR1 HN CI CV hln
    go_enter Tryz.func63, Tryz.ntmps63
    go_wp2_with fail
    refine CC.out.mono ?_
    rintro e w2 ⟨rfl, b2⟩
    have HB := Lib.hid b2
    clear b2 CC
    go_wp2_with fail
    go_ret
    exact ⟨ret_int HX.out.symm, HB.out⟩
  have hne : ((bs.length : Int) != (cs.length : Int) - 1) = false := by simpa using hln
  clear HF
  cases rb
  rotate_left
  · have HX := Lib.hid (HR1.out rfl hln rfl)
    clear HR1 HN CV hln
    go_enter Tryz.func63, Tryz.ntmps63
    go_wp2_with fail
    refine CC.out.mono ?_
    rintro e w2 ⟨rfl, b2⟩
    have HB := Lib.hid b2
    clear b2 CC
    go_wp2_with fail
    refine (CI.out _ (HR.out.below HB.out)).mono ?_
    rintro e w3 ⟨rfl, b3⟩
    have HB3 := Lib.hid (HB.out.then_below b3 HB.out.size)
    clear b3 CI HB
    go_wp2_with fail
    go_ret
    exact ⟨ret_int HX.out.symm, HB3.out⟩
  have HX0 := Lib.hid (HN.out rfl hln rfl)
  clear HR1 HN hln
  cases nb
  all_goals
    have HXX := HX0.out
    simp at HXX
    have HX := Lib.hid HXX
    clear HXX
    clear HX0
    go_enter Tryz.func63, Tryz.ntmps63
    go_wp2_with fail
    refine CC.out.mono ?_
    rintro e w2 ⟨rfl, b2⟩
    have HB := Lib.hid b2
    clear b2 CC
    go_wp2_with fail
    refine (CI.out _ (HR.out.below HB.out)).mono ?_
    rintro e w3 ⟨rfl, b3⟩
    have HB3 := Lib.hid (HB.out.then_below b3 HB.out.size)
    clear b3 CI HB
    go_wp2_with fail
    refine (CV.out _).mono ?_
    rintro e w4 ⟨rfl, rfl⟩
    go_wp2_with fail
    go_ret
    exact ⟨ret_int HX.out.symm, HB3.out⟩

end Go.Proofs.YtopoemfnnnfgdaaGreatDoor
