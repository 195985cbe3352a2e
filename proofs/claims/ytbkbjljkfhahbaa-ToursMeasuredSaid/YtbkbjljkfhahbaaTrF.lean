/-
  Improved: the program whole.
-/
import Derived.Test.YtbkbjljkfhahbaaTrE
import Derived.Test.YtbkbjljkfhahbaaTrA
namespace Go.Proofs.Ytbkbjljkfhahbaa
open Go.RowKit
set_option linter.unusedSimpArgs false
set_option linter.unusedVariables false

/-- What Improved tells. -/
noncomputable def impV (s : Int × Int) (l : List (Int × Int)) (o : List Int) : List Int × Int := if tourErr s l o = 0 then (impL s l o, lenOf s l (impL s l o)) else ([], 0)
set_option maxHeartbeats 4000000 in
theorem tourImproved_any (s : Int × Int) (l : List (Int × Int)) (hl : l.length ≤ 100000) (o : List Int) (ho : o.length ≤ 100000) {pv ov : Value} {w : World} (h1 : Reads encP pv l w) (h2 : Reads encN ov o w) :
    Calls Try.prog 14 #[.agg #[.int .i64 s.1, .int .i64 s.2], pv, ov] w fun e w' => ∃ v, e = .returned (.tuple #[v, .int .i64 (impV s l o).2, .int .i64 (tourErr s l o)]) ∧ w'.ownsRow w.heap.size 3 1 v (impV s l o).1.length ((impV s l o).1.map (Value.int .i64)) ∧ Below w.heap.size w w' := by
  have CC := Lib.hid (fun (W : World) (h1 : Reads encP pv l W) (h2 : Reads encN ov o W) => checkTour_any s l hl o ho h1 h2)
  have HR := Lib.hid (And.intro h1 h2)
  have HV : Hid (impV s l o = if tourErr s l o = 0 then (impL s l o, lenOf s l (impL s l o)) else ([], 0)) := rfl
  have CS := Lib.hid (fun (hE : tourErr s l o = 0) (W : World) (h1 : Reads encP pv l W) (h2 : Reads encN ov o W) => by
    have h3 := tErr_ok (tourErr_ok hE).1
    have h4 := ordErr_ok (tourErr_ok hE).2
    exact improvedIn_any s l o h3.1 h3.2.2 (by omega) (by have := h4.len; omega) h4.rng W h1 h2)
  have CL := Lib.hid (fun (hE : tourErr s l o = 0) (v : Value) (W : World) (h1 : Reads encP pv l W) (h2 : Reads encN v (impL s l o) W) => by
    have h3 := tErr_ok (tourErr_ok hE).1
    have h4 := ordErr_ok (tourErr_ok hE).2
    have h5 := imp_all h3.1 h3.2.2 o
    exact length_any s l (impL s l o) h3.1 h3.2.2 (by omega) (by rw [h5.len]; have := h4.len; omega) (fun k hk => h4.rng k (h5.mem k hk)) W h1 h2)
  generalize impV s l o = V at *
  generalize tourErr s l o = E at *
  generalize lenOf s l (impL s l o) = LN at *
  generalize impL s l o = NL at *
  obtain ⟨s1, s2⟩ := s
  dsimp only at *
  obtain ⟨Ap, cp, rfl, _⟩ := h1
  obtain ⟨Ao, co, rfl, _⟩ := h2
  have H0 : Hid (Below w.heap.size w (w.alloc (.cells #[.int .i64 s1, .int .i64 s2] 27)) ∧ (w.alloc (.cells #[.int .i64 s1, .int .i64 s2] 27)).heap[w.heap.size]? = some (.cells #[.int .i64 s1, .int .i64 s2] 27 (0, 0))) := ⟨(Below.refl _ _).alloc (Nat.le_refl _) _, blk_new w _ rfl⟩
  by_cases hE : E = 0
  rotate_left
  · obtain rfl : V = ([], 0) := HV.out.trans (if_neg hE)
    have hne1 : (E == 0) = false := by simpa using hE
    have hne2 : (E != 0) = true := by simpa using hE
    go_enter Try.func14, Try.ntmps14
    go_wp2_with fail
    refine (CC.out _ (HR.out.1.below H0.out.1) (HR.out.2.below H0.out.1)).mono ?_
    rintro e w1 ⟨rfl, b1⟩
    have HB := Lib.hid (H0.out.1.then_below b1 H0.out.1.size)
    clear b1 CC H0 CS CL
    go_wp2_with fail
    refine bodyPost_ret (v := .tuple #[.slice none 0 0, .int .i64 0, .int .i64 E]) (by unfold results; simp only [Try.results14]; go_simp) rfl ⟨_, rfl, World.ownsRow_nil _ _ _ _, HB.out⟩
  · obtain rfl : V = (NL, LN) := HV.out.trans (if_pos hE)
    have CS2 := Lib.hid (CS.out hE)
    have CL2 := Lib.hid (CL.out hE)
    subst hE
    dsimp only at *
    go_enter Try.func14, Try.ntmps14
    go_wp2_with fail
    refine (CC.out _ (HR.out.1.below H0.out.1) (HR.out.2.below H0.out.1)).mono ?_
    rintro e w1 ⟨rfl, b1⟩
    have HB := Lib.hid (And.intro (H0.out.1.then_below b1 H0.out.1.size) (blk_below b1 H0.out.2))
    clear b1 CC H0
    obtain ⟨c0, c1, _, _⟩ := blk2 HB.out.2
    have hbl := lt_of_blk HB.out.2
    go_wp2_with fail
    refine (CS2.out _ (HR.out.1.below HB.out.1) (HR.out.2.below HB.out.1)).mono ?_
    rintro e w2 ⟨v, rfl, o2, b2⟩
    have HB2 := Lib.hid (And.intro (HB.out.1.then_below b2 HB.out.1.size) (And.intro (own_mono o2 HB.out.1.size) (blk_below b2 HB.out.2)))
    clear b2 o2 HB c0 c1 CS2 CS
    obtain ⟨A9, c9, rfl, _⟩ := own_form HB2.out.2.1
    obtain ⟨c0, c1, _, _⟩ := blk2 HB2.out.2.2
    have hbl2 := lt_of_blk HB2.out.2.2
    go_wp2_with fail
    refine (CL2.out _ _ (HR.out.1.below HB2.out.1) (readsN_own HB2.out.2.1)).mono ?_
    rintro e w3 ⟨rfl, b3⟩
    have HB3 := Lib.hid (And.intro (HB2.out.1.then_below b3 HB2.out.1.size) (own_below HB2.out.2.1 b3))
    clear b3 HB2 c0 c1
    go_wp2_with fail
    refine bodyPost_ret (v := .tuple #[.slice A9 NL.length c9, .int .i64 LN, .int .i64 0]) (by unfold results; simp only [Try.results14]; go_simp) rfl ⟨_, rfl, HB3.out.2, HB3.out.1⟩
end Go.Proofs.Ytbkbjljkfhahbaa
