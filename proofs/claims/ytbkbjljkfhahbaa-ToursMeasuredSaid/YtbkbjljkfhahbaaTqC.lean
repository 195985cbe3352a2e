/-
  Errors of tours by cmp.Or; Length.
-/
import Derived.Test.YtbkbjljkfhahbaaTqA
import Derived.Test.YtbkbjljkfhahbaaTqB
namespace Go.Proofs.Ytbkbjljkfhahbaa
open Go.RowKit
set_option linter.unusedSimpArgs false
set_option linter.unusedVariables false

set_option maxHeartbeats 1000000 in
theorem orO_any (l : List Int) (hl : l.length ≤ 1000) (g c : Nat) (w : World) (h : LineAt w g (l.map (Value.int .i64))) :
    Calls Try.prog 11 #[.slice (some ⟨g, 0, none⟩) l.length c] w fun e w' => e = .returned (.int .i64 (errsO l)) ∧ w = w' := by
  have HL := Lib.hid h
  clear h
  go_enter Try.func11, Try.ntmps11
  go_wp2_with fail
  go_loopw [8] (fun kk wr => ∃ k : Nat, k ≤ l.length ∧ kk = .int .i64 k ∧ w = wr ∧ Hid (errsO l = errsO (l.drop k))) (fun kk _ => l.length - (intOf kk).toNat)
  case atStart => exact ⟨0, by omega, rfl, rfl, rfl⟩
  case round =>
    obtain ⟨k, hk, rfl, rfl, HO⟩ := hrel
    by_cases hlt : k < l.length
    · obtain ⟨x, hx⟩ : ∃ x, l[k] = x := ⟨_, rfl⟩
      have hc := HL.out.2 k (.int .i64 x) (by simp [hlt, hx])
      have hD : errsO l = if x = 0 then errsO (l.drop (k + 1)) else x := HO.out.trans (by rw [drop_at l hlt, hx]; rfl)
      have HD := Lib.hid hD
      clear hD hx HO
      cases h0 : (x == 0)
      · have hne : ¬ x = 0 := by simpa using h0
        have HF : Hid (errsO l = x) := HD.out.trans (if_neg hne)
        have h1 : (x != 0) = true := by simpa using hne
        go_wp2_with fail
        go_ret
        exact ⟨ret_int HF.out.symm, rfl⟩
      · obtain rfl : x = 0 := by simpa using h0
        have HF : Hid (errsO l = errsO (l.drop (k + 1))) := HD.out.trans (if_pos rfl)
        go_wp2_with fail
        go_roundw
        case rel => exact ⟨k + 1, by omega, by go_num, by trivial, HF⟩
        case measure => simp [intOf]; omega
    · have HF : Hid (errsO l = 0) := HO.out.trans (by rw [List.drop_eq_nil_of_le (by omega)]; rfl)
      go_wp2_with fail
      go_ret
      exact ⟨ret_int HF.out.symm, rfl⟩
theorem line_errs {w : World} {g : Nat} {l : List Int} {t : TypeId} (h : w.heap[g]? = some (.cells (l.map (Value.int .i64)).toArray t (0, 0))) : LineAt w g (l.map (Value.int .i64)) :=
  ⟨lt_of_blk h, fun j u hu => by rw [cell_of_blk h]; simpa using hu⟩
theorem one_reads {w : World} {g : Nat} {a : Int × Int} {t : TypeId} (h : w.heap[g]? = some (.cells #[.int .i64 a.1, .int .i64 a.2] t (0, 0))) : Reads encP (.slice (some ⟨g, 0, none⟩) 1 1) [a] w :=
  ⟨_, 1, rfl, .inr ⟨g, rfl, lt_of_blk h, fun j x hx => by rw [cell_of_blk h]; simpa [encP] using hx⟩⟩

set_option maxHeartbeats 2000000 in
theorem tourFault_any (s : Int × Int) (l : List (Int × Int)) (hl : l.length ≤ 1000000) (most : Int) {pv : Value} {w : World} (h : Reads encP pv l w) :
    Calls Try.prog 10 #[.agg #[.int .i64 s.1, .int .i64 s.2], pv, .int .i64 most] w fun e w' => e = .returned (.int .i64 (tErr most s l)) ∧ Below w.heap.size w w' := by
  have CA := Lib.hid (fun (W : World) (v : Value) (hW : Reads encP v [s] W) => pointFault_any [s] (by simp) hW)
  have CC := Lib.hid (fun (W : World) (hW : Reads encP pv l W) => pointsFault1_any l hl most hW)
  have HT := Lib.hid (tErr_or most s l)
  have HR := Lib.hid h
  have CO := Lib.hid (fun (W : World) (g c : Nat) (hW : LineAt W g ([ptsE [s], ptsErr most l].map (Value.int .i64))) => orO_any [ptsE [s], ptsErr most l] (by simp) g c W hW)
  simp only [List.length_cons, List.length_nil, Nat.zero_add, Nat.reduceAdd] at CO
  rw [HT.out] at CO
  generalize ptsE [s] = e1 at *
  generalize ptsErr most l = e2 at *
  generalize tErr most s l = T at *
  obtain ⟨s1, s2⟩ := s
  dsimp only at *
  obtain ⟨A, c, rfl, _⟩ := h
  have H0 : Hid (Below w.heap.size w (w.alloc (.cells #[.int .i64 s1, .int .i64 s2] 27)) ∧ (w.alloc (.cells #[.int .i64 s1, .int .i64 s2] 27)).heap[w.heap.size]? = some (.cells #[.int .i64 s1, .int .i64 s2] 27 (0, 0))) := ⟨(Below.refl _ _).alloc (Nat.le_refl _) _, blk_new w _ rfl⟩
  have H1 : Hid (Below w.heap.size w ((w.alloc (.cells #[.int .i64 s1, .int .i64 s2] 27)).alloc (.cells #[.int .i64 s1, .int .i64 s2] 27)) ∧ Reads encP (.slice (some ⟨w.heap.size + 1, 0, none⟩) 1 1) [(s1, s2)] ((w.alloc (.cells #[.int .i64 s1, .int .i64 s2] 27)).alloc (.cells #[.int .i64 s1, .int .i64 s2] 27))) := ⟨H0.out.1.alloc H0.out.1.size _, one_reads (blk_new _ _ (by simp))⟩
  go_enter Try.func10, Try.ntmps10
  go_wp2_with fail
  refine (CA.out _ _ H1.out.2).mono ?_
  rintro e w1 ⟨rfl, b1⟩
  have HB := Lib.hid (H1.out.1.then_below b1 H1.out.1.size)
  clear b1 CA H0 H1
  go_wp2_with fail
  refine (CC.out w1 (HR.out.below HB.out)).mono ?_
  rintro e w2 ⟨rfl, b2⟩
  have HB2 := Lib.hid (HB.out.then_below b2 HB.out.size)
  clear b2 CC HB
  go_wp2_with fail
  refine (CO.out _ w2.heap.size 2 (line_errs (l := [e1, e2]) (blk_new w2 _ rfl))).mono ?_
  rintro e w3 ⟨rfl, rfl⟩
  go_wp2_with fail
  go_ret
  exact ⟨rfl, HB2.out.alloc HB2.out.size _⟩

/-- What Length tells. -/
def lenV (s : Int × Int) (l : List (Int × Int)) (o : List Int) : Int := if tourErr s l o = 0 then lenOf s l o else 0
theorem tourErr_ok {s : Int × Int} {l : List (Int × Int)} {o : List Int} (h : tourErr s l o = 0) : tErr 500 s l = 0 ∧ ordErr l.length o = 0 := by
  unfold tourErr at h
  split at h
  · rename_i h1; exact ⟨h1, h⟩
  · rename_i h1; exact absurd h h1
set_option maxHeartbeats 2000000 in
theorem tourLength_any (s : Int × Int) (l : List (Int × Int)) (hl : l.length ≤ 100000) (o : List Int) (ho : o.length ≤ 100000) {pv ov : Value} {w : World} (h1 : Reads encP pv l w) (h2 : Reads encN ov o w) :
    Calls Try.prog 13 #[.agg #[.int .i64 s.1, .int .i64 s.2], pv, ov] w fun e w' => e = .returned (.tuple #[.int .i64 (lenV s l o), .int .i64 (tourErr s l o)]) ∧ Below w.heap.size w w' := by
  have CC := Lib.hid (fun (W : World) (h1 : Reads encP pv l W) (h2 : Reads encN ov o W) => checkTour_any s l hl o ho h1 h2)
  have HR := Lib.hid (And.intro h1 h2)
  have HV : Hid (lenV s l o = if tourErr s l o = 0 then lenOf s l o else 0) := rfl
  have CL := Lib.hid (fun (hE : tourErr s l o = 0) (W : World) (h1 : Reads encP pv l W) (h2 : Reads encN ov o W) => by
    have h3 := tErr_ok (tourErr_ok hE).1
    have h4 := ordErr_ok (tourErr_ok hE).2
    exact length_any s l o h3.1 h3.2.2 (by omega) (by have := h4.len; omega) h4.rng W h1 h2)
  generalize lenV s l o = V at *
  generalize tourErr s l o = E at *
  generalize lenOf s l o = LN at *
  obtain ⟨s1, s2⟩ := s
  dsimp only at *
  obtain ⟨Ap, cp, rfl, _⟩ := h1
  obtain ⟨Ao, co, rfl, _⟩ := h2
  have H0 : Hid (Below w.heap.size w (w.alloc (.cells #[.int .i64 s1, .int .i64 s2] 27)) ∧ (w.alloc (.cells #[.int .i64 s1, .int .i64 s2] 27)).heap[w.heap.size]? = some (.cells #[.int .i64 s1, .int .i64 s2] 27 (0, 0))) := ⟨(Below.refl _ _).alloc (Nat.le_refl _) _, blk_new w _ rfl⟩
  by_cases hE : E = 0
  rotate_left
  · have HF : Hid (V = 0) := HV.out.trans (if_neg hE)
    have hne1 : (E == 0) = false := by simpa using hE
    have hne2 : (E != 0) = true := by simpa using hE
    go_enter Try.func13, Try.ntmps13
    go_wp2_with fail
    refine (CC.out _ (HR.out.1.below H0.out.1) (HR.out.2.below H0.out.1)).mono ?_
    rintro e w1 ⟨rfl, b1⟩
    have HB := Lib.hid (H0.out.1.then_below b1 H0.out.1.size)
    clear b1 CC H0
    go_wp2_with fail
    refine bodyPost_ret (v := .tuple #[.int .i64 0, .int .i64 E]) (by unfold results; simp only [Try.results13]; go_simp) rfl ⟨by rw [HF.out], HB.out⟩
  · have HF : Hid (V = LN) := HV.out.trans (if_pos hE)
    have CL2 := Lib.hid (CL.out hE)
    subst hE
    go_enter Try.func13, Try.ntmps13
    go_wp2_with fail
    refine (CC.out _ (HR.out.1.below H0.out.1) (HR.out.2.below H0.out.1)).mono ?_
    rintro e w1 ⟨rfl, b1⟩
    have HB := Lib.hid (And.intro (H0.out.1.then_below b1 H0.out.1.size) (blk_below b1 H0.out.2))
    clear b1 CC H0
    obtain ⟨c0, c1, _, _⟩ := blk2 HB.out.2
    have hbl := lt_of_blk HB.out.2
    go_wp2_with fail
    refine (CL2.out _ (HR.out.1.below HB.out.1) (HR.out.2.below HB.out.1)).mono ?_
    rintro e w2 ⟨rfl, b2⟩
    have HB2 := Lib.hid (HB.out.1.then_below b2 HB.out.1.size)
    clear b2 HB c0 c1
    go_wp2_with fail
    refine bodyPost_ret (v := .tuple #[.int .i64 LN, .int .i64 0]) (by unfold results; simp only [Try.results13]; go_simp) rfl ⟨by rw [HF.out], HB2.out⟩
end Go.Proofs.Ytbkbjljkfhahbaa
