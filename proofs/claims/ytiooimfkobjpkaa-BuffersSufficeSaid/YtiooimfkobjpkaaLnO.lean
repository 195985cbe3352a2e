/-
  The walk of the law BuffersSuffice.
-/
import Derived.Test.YtiooimfkobjpkaaLnN
namespace Go.Proofs.Ytiooimfkobjpkaa
open Go.RowKit
set_option linter.unusedSimpArgs false
set_option linter.unusedVariables false

/-- What is wrong with a search for buffers. -/
def eErr (cs : List Int) (N M : Int) : Int := if cErr cs ≠ 0 then cErr cs else if (1 ≤ N ∧ N ≤ 2000) ∧ 0 ≤ M ∧ M ≤ 3 then 0 else 1
theorem eErr_ok {cs : List Int} {N M : Int} (h : eErr cs N M = 0) : cErr cs = 0 ∧ (1 ≤ N ∧ N ≤ 2000) ∧ 0 ≤ M ∧ M ≤ 3 := by
  unfold eErr at h
  split at h
  · omega
  split at h
  · rename_i h1 h2
    exact ⟨by omega, h2.1, h2.2⟩
  · cases h
def enV (cs : List Int) (N M : Int) : List Int := if eErr cs N M = 0 then List.replicate (cs.length - 1) 0 else []

set_option maxHeartbeats 2000000 in
theorem enough_any (cs : List Int) (N M : Int) (hl : cs.length ≤ 1000000) {v1 : Value} {w : World} (r1 : Reads encN v1 cs w) :
    Calls Try.prog 33 #[v1, .int .i64 N, .int .i64 M] w fun e w' => ∃ v, e = .returned (.tuple #[v, .int .i64 (eErr cs N M)]) ∧ Reads encN v (enV cs N M) w' ∧ Below w.heap.size w w' := by
  have CC := Lib.hid (checkCycles_any cs hl r1)
  have CV := Lib.hid (fun W => validBoards_any N W)
  have CM := Lib.hid (fun W => within_any M 0 3 W)
  have HE : Hid (eErr cs N M = if cErr cs ≠ 0 then cErr cs else if (1 ≤ N ∧ N ≤ 2000) ∧ 0 ≤ M ∧ M ≤ 3 then 0 else 1) := rfl
  have HV : Hid ((eErr cs N M = 0 → enV cs N M = List.replicate (cs.length - 1) 0) ∧ (¬ eErr cs N M = 0 → enV cs N M = [])) := ⟨fun h => if_pos h, fun h => if_neg h⟩
  have HOK := Lib.hid (@cErr_ok cs)
  obtain ⟨A1, c1, rfl, _⟩ := r1
  generalize eErr cs N M = E at *
  generalize enV cs N M = V at *
  generalize cErr cs = C at *
  by_cases h0 : C = 0
  rotate_left
  · have hEC : E = C := HE.out.trans (if_pos h0)
    subst hEC
    have hV := HV.out.2 h0
    subst hV
    have hne : (E != 0) = true := by simp [h0]
    clear HE HV CV CM HOK h0
    go_enter Try.func33, Try.ntmps33
    go_wp2_with fail
    refine CC.out.mono ?_
    rintro e w2 ⟨rfl, b2⟩
    have HB := Lib.hid b2
    clear b2 CC
    go_wp2_with fail
    exact bodyPost_ret (v := .tuple #[.slice none 0 0, .int .i64 E]) (by unfold results; simp only [Try.results33]; go_simp) rfl ⟨_, rfl, nil_readsN _, HB.out⟩
  subst h0
  have HE2 := Lib.hid (HE.out.trans (if_neg (by simp)))
  obtain ⟨hc1, hc6, _⟩ := HOK.out rfl
  have hb1 : (decide (1 ≤ N) && decide (N ≤ 2000)) = true ↔ (1 ≤ N ∧ N ≤ 2000) := by simp
  have hb2 : (decide (0 ≤ M) && decide (M ≤ 3)) = true ↔ (0 ≤ M ∧ M ≤ 3) := by simp
  clear HE HOK
  cases hvb : (decide (1 ≤ N) && decide (N ≤ 2000))
  · have hE : E = 1 := HE2.out.trans (if_neg (by rw [← hb1, hvb]; simp))
    subst hE
    have hV := HV.out.2 (by omega)
    subst hV
    rw [hvb] at CV
    clear HE2 HV hvb hb1 hb2 CM
    go_enter Try.func33, Try.ntmps33
    go_wp2_with fail
    refine CC.out.mono ?_
    rintro e w2 ⟨rfl, b2⟩
    have HB := Lib.hid b2
    clear b2 CC
    go_wp2_with fail
    refine (CV.out _).mono ?_
    rintro e w3 ⟨rfl, rfl⟩
    go_wp2_with fail
    exact bodyPost_ret (v := .tuple #[.slice none 0 0, .int .i64 1]) (by unfold results; simp only [Try.results33]; go_simp) rfl ⟨_, rfl, nil_readsN _, HB.out⟩
  rw [hvb] at CV
  cases hmb : (decide (0 ≤ M) && decide (M ≤ 3))
  · have hE : E = 1 := HE2.out.trans (if_neg (by rw [← hb2, hmb]; simp))
    subst hE
    have hV := HV.out.2 (by omega)
    subst hV
    rw [hmb] at CM
    clear HE2 HV hvb hb1 hb2 hmb
    go_enter Try.func33, Try.ntmps33
    go_wp2_with fail
    refine CC.out.mono ?_
    rintro e w2 ⟨rfl, b2⟩
    have HB := Lib.hid b2
    clear b2 CC
    go_wp2_with fail
    refine (CV.out _).mono ?_
    rintro e w3 ⟨rfl, rfl⟩
    go_wp2_with fail
    refine (CM.out _).mono ?_
    rintro e w4 ⟨rfl, rfl⟩
    go_wp2_with fail
    exact bodyPost_ret (v := .tuple #[.slice none 0 0, .int .i64 1]) (by unfold results; simp only [Try.results33]; go_simp) rfl ⟨_, rfl, nil_readsN _, HB.out⟩
  · have hE : E = 0 := HE2.out.trans (if_pos ⟨hb1.mp hvb, hb2.mp hmb⟩)
    subst hE
    have hV := HV.out.1 rfl
    subst hV
    rw [hmb] at CM
    have wk : IntKind.i64.wrap ((cs.length : Int) - 1) = ((cs.length - 1 : Nat) : Int) := by rw [IntKind.wrap_i64]; omega
    obtain ⟨p, hp⟩ : ∃ p, cs.length - 1 = p := ⟨_, rfl⟩
    rw [hp] at wk ⊢
    have hmk := run_makeInts p (by omega)
    clear HE2 HV hvb hb1 hb2 hmb hp
    go_enter Try.func33, Try.ntmps33
    go_wp2_with fail
    refine CC.out.mono ?_
    rintro e w2 ⟨rfl, b2⟩
    have HB := Lib.hid b2
    clear b2 CC
    go_wp2_with fail
    refine (CV.out _).mono ?_
    rintro e w3 ⟨rfl, rfl⟩
    go_wp2_with fail
    refine (CM.out _).mono ?_
    rintro e w4 ⟨rfl, rfl⟩
    go_wp2_with fail
    refine bodyPost_ret (v := .tuple #[.slice (some ⟨w2.heap.size, 0, none⟩) p p, .int .i64 0]) (by unfold results; simp only [Try.results33]; go_simp) rfl ⟨_, rfl, ?_, HB.out.alloc HB.out.size _⟩
    refine reads_ints (l := List.replicate p 0) (t := 3) (by simp) ?_
    rw [List.map_replicate]
    exact blk_new w2 _ rfl
theorem when_any (b : Bool) (x : Int) (w : World) : Calls Try.prog 34 #[.bool b, .int .i64 x] w fun e w' => e = .returned (.int .i64 (if b = true then x else 0)) ∧ w' = w := by
  cases b
  all_goals
    go_enter Try.func34, Try.ntmps34
    go_wp2_with fail
    go_ret
    exact ⟨rfl, rfl⟩
/-- The law's own fault. -/
theorem fault_eq (cs : List Int) (N M : Int) (p : Nat) (hp : (p : Int) = max 0 ((cs.length : Int) - 1)) : errsL [bErr cs (List.replicate p 0) N, if (decide (M < 0) || decide (3 < M)) = true then 1 else 0] = eErr cs N M := by
  by_cases h0 : cErr cs = 0
  · have hE : eErr cs N M = if (1 ≤ N ∧ N ≤ 2000) ∧ 0 ≤ M ∧ M ≤ 3 then 0 else 1 := if_neg (by simp [h0])
    obtain ⟨hc1, _, _⟩ := cErr_ok h0
    have h3 : (List.replicate p (0 : Int)).any outR = false := by
      rw [List.any_eq_false]
      intro x hx
      have := List.eq_of_mem_replicate hx
      subst this
      decide
    rw [hE, bErr_n h0 (by simp; omega) h3]
    simp only [Bool.and_eq_true, decide_eq_true_eq, Bool.or_eq_true]
    by_cases h1 : 1 ≤ N ∧ N ≤ 2000
    · rw [if_pos h1]
      by_cases h2 : M < 0 ∨ 3 < M
      · rw [if_pos h2, if_neg (by omega)]
        simp [errsL]
      · rw [if_neg h2, if_pos ⟨h1, by omega⟩]
        simp [errsL]
    · have h4 : ¬ ((1 ≤ N ∧ N ≤ 2000) ∧ 0 ≤ M ∧ M ≤ 3) := fun h => h1 h.1
      rw [if_neg h1, if_neg h4]
      simp [errsL]
  · have hE : eErr cs N M = cErr cs := if_pos h0
    rw [hE, bErr_c h0]
    unfold errsL
    simp [h0]
end Go.Proofs.Ytiooimfkobjpkaa
