/-
  The shortest tour: the program's function around the recursion; Nearest and Shortest.
-/
import Derived.Test.YtbkbjljkfhahbaaTqS
import Derived.Test.YtbkbjljkfhahbaaTqN
import Derived.Laws.EntriesVeiled
namespace Go.Proofs.Ytbkbjljkfhahbaa
open Go.RowKit
set_option linter.unusedSimpArgs false
set_option linter.unusedVariables false

set_option maxRecDepth 100000 in
set_option maxHeartbeats 8000000 in
theorem shortest_any (s : Int × Int) (l : List (Int × Int)) (hs : okPt s = true) (hl : ∀ p ∈ l, okPt p = true) (hln : l.length ≤ 1000) {pv : Value} (w : World) (h1 : Reads encP pv l w) :
    Calls Try.prog 40 #[.agg #[.int .i64 s.1, .int .i64 s.2], pv] w fun e w' => ∃ v, e = .returned (.tuple #[v, .int .i64 (shortL s l).2]) ∧ w'.ownsRow w.heap.size 3 1 v (shortL s l).1.length ((shortL s l).1.map (Value.int .i64)) ∧ Below w.heap.size w w' := by
  have HEN := enters_of Try.func54 (by kernel_rfl) rfl
  obtain ⟨Ap, cp, rfl, h1'⟩ := h1
  have CV := Lib.hid (visit_any s l hs hl hln Ap cp w ⟨Ap, cp, rfl, h1'⟩ l.length [] 0 ([], maxI))
  rw [atOf_nil] at CV
  rw [show vis s l l.length [] 0 ([], maxI) = shortL s l from rfl] at CV
  generalize shortL s l = R at *
  obtain ⟨s1, s2⟩ := s
  obtain ⟨ro, rl⟩ := R
  dsimp only at *
  go_enter Try.func40, Try.ntmps40
  go_upto_region 4 with (fail)
  have e2 : w.heap.size + 1 + 1 = w.heap.size + 2 := rfl
  have e3 : w.heap.size + 2 + 1 = w.heap.size + 3 := rfl
  have e4 : w.heap.size + 3 + 1 = w.heap.size + 4 := rfl
  have e5 : w.heap.size + 4 + 1 = w.heap.size + 5 := rfl
  simp only [e2, e3, e4, e5]
  have HX : Hid (Below w.heap.size w ((((((w.alloc (.cells #[.int .i64 s1, .int .i64 s2] 27)).alloc (.cells #[.slice Ap l.length cp] 29)).alloc (.cells #[.slice none 0 0] 22)).alloc (.cells #[.slice none 0 0] 22)).alloc (.cells #[.int .i64 9223372036854775807] 3)).alloc (.cells #[.nilFunc] 85)) ∧ ((((((w.alloc (.cells #[.int .i64 s1, .int .i64 s2] 27)).alloc (.cells #[.slice Ap l.length cp] 29)).alloc (.cells #[.slice none 0 0] 22)).alloc (.cells #[.slice none 0 0] 22)).alloc (.cells #[.int .i64 9223372036854775807] 3)).alloc (.cells #[.nilFunc] 85)).heap[w.heap.size]? = some (.cells #[.int .i64 s1, .int .i64 s2] 27 (0, 0)) ∧ ((((((w.alloc (.cells #[.int .i64 s1, .int .i64 s2] 27)).alloc (.cells #[.slice Ap l.length cp] 29)).alloc (.cells #[.slice none 0 0] 22)).alloc (.cells #[.slice none 0 0] 22)).alloc (.cells #[.int .i64 9223372036854775807] 3)).alloc (.cells #[.nilFunc] 85)).heap[w.heap.size + 1]? = some (.cells #[.slice Ap l.length cp] 29 (0, 0)) ∧ ((((((w.alloc (.cells #[.int .i64 s1, .int .i64 s2] 27)).alloc (.cells #[.slice Ap l.length cp] 29)).alloc (.cells #[.slice none 0 0] 22)).alloc (.cells #[.slice none 0 0] 22)).alloc (.cells #[.int .i64 9223372036854775807] 3)).alloc (.cells #[.nilFunc] 85)).heap[w.heap.size + 2]? = some (.cells #[.slice none 0 0] 22 (0, 0)) ∧ ((((((w.alloc (.cells #[.int .i64 s1, .int .i64 s2] 27)).alloc (.cells #[.slice Ap l.length cp] 29)).alloc (.cells #[.slice none 0 0] 22)).alloc (.cells #[.slice none 0 0] 22)).alloc (.cells #[.int .i64 9223372036854775807] 3)).alloc (.cells #[.nilFunc] 85)).heap[w.heap.size + 3]? = some (.cells #[.slice none 0 0] 22 (0, 0)) ∧ ((((((w.alloc (.cells #[.int .i64 s1, .int .i64 s2] 27)).alloc (.cells #[.slice Ap l.length cp] 29)).alloc (.cells #[.slice none 0 0] 22)).alloc (.cells #[.slice none 0 0] 22)).alloc (.cells #[.int .i64 9223372036854775807] 3)).alloc (.cells #[.nilFunc] 85)).heap[w.heap.size + 4]? = some (.cells #[.int .i64 maxI] 3 (0, 0)) ∧ ((((((w.alloc (.cells #[.int .i64 s1, .int .i64 s2] 27)).alloc (.cells #[.slice Ap l.length cp] 29)).alloc (.cells #[.slice none 0 0] 22)).alloc (.cells #[.slice none 0 0] 22)).alloc (.cells #[.int .i64 9223372036854775807] 3)).alloc (.cells #[.nilFunc] 85)).heap[w.heap.size + 5]? = some (.cells #[.nilFunc] 85 (0, 0)) ∧ w.heap.size + 6 ≤ ((((((w.alloc (.cells #[.int .i64 s1, .int .i64 s2] 27)).alloc (.cells #[.slice Ap l.length cp] 29)).alloc (.cells #[.slice none 0 0] 22)).alloc (.cells #[.slice none 0 0] 22)).alloc (.cells #[.int .i64 9223372036854775807] 3)).alloc (.cells #[.nilFunc] 85)).heap.size) := by
    refine ⟨(((((((Below.refl _ _).alloc (Nat.le_refl _) _).alloc (by simp) _).alloc (by simp; omega) _).alloc (by simp; omega) _).alloc (by simp; omega) _).alloc (by simp; omega) _), ?_, ?_, ?_, ?_, ?_, blk_new _ _ (by simp), by simp⟩
    · exact blk_alloc (blk_alloc (blk_alloc (blk_alloc (blk_alloc (blk_new w _ rfl) _) _) _) _) _
    · exact blk_alloc (blk_alloc (blk_alloc (blk_alloc (blk_new _ _ (by simp)) _) _) _) _
    · exact blk_alloc (blk_alloc (blk_alloc (blk_new _ _ (by simp)) _) _) _
    · exact blk_alloc (blk_alloc (blk_new _ _ (by simp)) _) _
    · exact blk_alloc (blk_new _ _ (by simp)) _
  generalize (((((w.alloc (.cells #[.int .i64 s1, .int .i64 s2] 27)).alloc (.cells #[.slice Ap l.length cp] 29)).alloc (.cells #[.slice none 0 0] 22)).alloc (.cells #[.slice none 0 0] 22)).alloc (.cells #[.int .i64 9223372036854775807] 3)).alloc (.cells #[.nilFunc] 85) = wx at *
  clear e2 e3 e4 e5
  have hx5 := lt_of_blk HX.out.2.2.2.2.2.2.1
  have f5 := frozen_of_blk HX.out.2.2.2.2.2.2.1 0
  have c5 := cell_of_blk HX.out.2.2.2.2.2.2.1 0
  simp at c5
  have HV : Hid (VM w (s1, s2) (.slice Ap l.length cp) [] ([], maxI) (wx.setCell ⟨w.heap.size + 5, 0, none⟩ (visF w.heap.size))) := by
    obtain ⟨hb, k0, k1, k2, k3, k4, k5, hz⟩ := HX.out
    refine ⟨hb.setCell (by show _ ≤ w.heap.size + 5; omega) _, ?_, ?_, ?_, ?_, ⟨none, 0, .slice none 0 0, ?_, World.ownsRow_nil _ _ _ _, ?_, World.ownsRow_nil _ _ _ _, fun g hg => by cases hg⟩, by simpa [World.setCell] using hz⟩
    · exact blk_far k0 (by show _ ≠ w.heap.size + 5; omega) _
    · exact blk_far k1 (by show _ ≠ w.heap.size + 5; omega) _
    · exact blk_set k5 _
    · exact blk_far k4 (by show _ ≠ w.heap.size + 5; omega) _
    · exact blk_far k3 (by show _ ≠ w.heap.size + 5; omega) _
    · exact blk_far k2 (by show _ ≠ w.heap.size + 5; omega) _
  go_upto_region 5 with (fail)
  rw [show (Value.func (.func 54) #[] #[.pointer (some ⟨w.heap.size, 0, none⟩), .pointer (some ⟨w.heap.size + 4, 0, none⟩), .pointer (some ⟨w.heap.size + 3, 0, none⟩), .pointer (some ⟨w.heap.size + 1, 0, none⟩), .pointer (some ⟨w.heap.size + 2, 0, none⟩), .pointer (some ⟨w.heap.size + 5, 0, none⟩)]) = visF w.heap.size from rfl]
  generalize wx.setCell ⟨w.heap.size + 5, 0, none⟩ (visF w.heap.size) = w6 at *
  clear hx5 f5 c5 HX
  have CX := Lib.hid (CV.out w6 (by simp) (by omega) (by simp) (by decide) HV.out)
  have c5 := cell_of_blk HV.out.kv 0
  obtain ⟨c0, c00, _, _⟩ := blk2 HV.out.k0
  have hl0 := lt_of_blk HV.out.k0
  simp [visF] at c5
  clear CV
  go_wp2_with fail
  refine CX.out.mono ?_
  rintro e w7 ⟨rfl, hV7, _⟩
  have H7 := Lib.hid hV7
  obtain ⟨A, c, bv, _, _, r3, r4, _⟩ := hV7.rows
  obtain ⟨Ab, cb, rfl, _⟩ := own_form r4
  have HR := Lib.hid r4
  have hl2 := lt_of_blk r3
  have c3 := cell_of_blk r3 0
  have c4 := cell_of_blk hV7.kl 0
  simp at c3 c4
  clear hV7 r3 r4 HV CX c5 c0 c00 hl0
  go_wp2_with fail
  refine Rg.rgL (fun a b => Below a.heap.size a b)
    [(fun vs u => vs 0 = .slice Ab ro.length cb), (fun vs u => vs 1 = .int .i64 rl), (fun vs u => vs 2 = .slice Ab ro.length cb)]
    [[], [], [0]] [some 14, some 15, some 4, some 5] [] (fun _ _ => True) [[], [], [0], [0, 1, 2]]
    (by kernel_rfl) (by decide) (by kernel_rfl) (by kernel_rfl) (by kernel_rfl) (by kernel_rfl) (by kernel_rfl) (fun _ => Below.refl _ _) (fun _ _ _ h k => h.ext k) (fun _ _ h => h.size) ?_ trivial ?_ ?_
  · intro t ht vs w w' h hE
    simp only [List.mem_cons, List.not_mem_nil, or_false] at ht
    rcases ht with rfl | rfl | rfl
    · exact h
    · exact h
    · exact h
  ·
    refine Rg.cons 0 1 rfl (Rg.plain rfl ?_) ?_
    · intro vs W n hn hI hG hT hF K hK
      simp only [Rg.putsD, List.getD_cons_zero, List.getD_cons_succ, Act.put, List.setIfInBounds_toArray, List.set_cons_zero, List.set_cons_succ] at hK ⊢
      clear hn
      clear hF hI
      have c0 := (hG.cell (p := ⟨w.heap.size + 2, 0, none⟩) hl2).trans c3
      have H := Lib.hid hK
      clear hK hT
      go_simp
      exact H.out _ _ (Below.refl _ _) rfl (fun h => by cases h) trivial
    refine Rg.cons 1 2 rfl (Rg.plain rfl ?_) ?_
    · intro vs W n hn hI hG hT hF K hK
      simp only [Rg.putsD, List.getD_cons_zero, List.getD_cons_succ, Act.put, List.setIfInBounds_toArray, List.set_cons_zero, List.set_cons_succ] at hK ⊢
      clear hn
      clear hF hI
      have c0 := (hG.cell (p := ⟨w.heap.size + 4, 0, none⟩) (lt_of_blk H7.out.kl)).trans c4
      have H := Lib.hid hK
      clear hK hT
      go_simp
      exact H.out _ _ (Below.refl _ _) rfl (fun h => by cases h) trivial
    refine Rg.cons 2 3 rfl (Rg.plain rfl ?_) ?_
    · intro vs W n hn hI hG hT hF K hK
      simp only [Rg.putsD, List.getD_cons_zero, List.getD_cons_succ, Act.put, List.setIfInBounds_toArray, List.set_cons_zero, List.set_cons_succ] at hK ⊢
      clear hn
      clear hF hI
      have t0 : vs 0 = .slice Ab ro.length cb := hT 0 (by decide)
      simp only [t0] at hK
      have H := Lib.hid hK
      clear hK hT
      go_simp
      exact H.out _ _ (Below.refl _ _) rfl (fun h => by cases h) trivial
    exact Rg.nil
  · intro vs W hG hI hT hF
    have t0 : vs 0 = .slice Ab ro.length cb := hT 0 (by decide)
    have t1 : vs 1 = .int .i64 rl := hT 1 (by decide)
    have t2 : vs 2 = .slice Ab ro.length cb := hT 2 (by decide)
    simp only [List.length_cons, List.length_nil, Nat.reduceAdd, List.range, List.range.loop, List.drop_succ_cons, List.drop_zero, Rg.putsD, List.getD_cons_zero, List.getD_cons_succ, Act.put, List.setIfInBounds_toArray, List.set_cons_zero, List.set_cons_succ, t0, t1, t2]
    clear hT t0 t1 t2
    have H8 := Lib.hid (And.intro (H7.out.bel.drew.then_below hG (by have := H7.out.big; show _ ≤ w7.heap.size; omega)) (own_below (w := w7.drew) HR.out.drew hG))
    clear hF hI hG H7 HR c3 c4
    go_wp2_with fail
    refine bodyPost_ret (v := .tuple #[.slice Ab ro.length cb, .int .i64 rl]) (by unfold results; simp only [Try.results40]; go_simp) rfl ⟨_, rfl, own_mono H8.out.2 (by omega), H8.out.1⟩

/-- What Shortest tells. -/
def shortV (s : Int × Int) (l : List (Int × Int)) : List Int × Int := if tErr 9 s l = 0 then shortL s l else ([], 0)
set_option maxHeartbeats 4000000 in
theorem tourShortest_any (s : Int × Int) (l : List (Int × Int)) (hl : l.length ≤ 100000) {pv : Value} {w : World} (h1 : Reads encP pv l w) :
    Calls Try.prog 20 #[.agg #[.int .i64 s.1, .int .i64 s.2], pv] w fun e w' => ∃ v, e = .returned (.tuple #[v, .int .i64 (shortV s l).2, .int .i64 (tErr 9 s l)]) ∧ w'.ownsRow w.heap.size 3 1 v (shortV s l).1.length ((shortV s l).1.map (Value.int .i64)) ∧ Below w.heap.size w w' := by
  have CC := Lib.hid (fun (W : World) (hW : Reads encP pv l W) => check_any s l (by omega) 9 hW)
  have HR := Lib.hid h1
  have HV : Hid (shortV s l = if tErr 9 s l = 0 then shortL s l else ([], 0)) := rfl
  have CS := Lib.hid (fun (hE : tErr 9 s l = 0) (W : World) (h1 : Reads encP pv l W) => shortest_any s l (tErr_ok hE).1 (tErr_ok hE).2.2 (by have := (tErr_ok hE).2.1; omega) W h1)
  generalize shortV s l = V at *
  generalize tErr 9 s l = E at *
  generalize shortL s l = R at *
  obtain ⟨s1, s2⟩ := s
  dsimp only at *
  obtain ⟨Ap, cp, rfl, _⟩ := h1
  have H0 : Hid (Below w.heap.size w (w.alloc (.cells #[.int .i64 s1, .int .i64 s2] 27)) ∧ (w.alloc (.cells #[.int .i64 s1, .int .i64 s2] 27)).heap[w.heap.size]? = some (.cells #[.int .i64 s1, .int .i64 s2] 27 (0, 0))) := ⟨(Below.refl _ _).alloc (Nat.le_refl _) _, blk_new w _ rfl⟩
  by_cases hE : E = 0
  rotate_left
  · obtain rfl : V = ([], 0) := HV.out.trans (if_neg hE)
    have hne1 : (E == 0) = false := by simpa using hE
    have hne2 : (E != 0) = true := by simpa using hE
    go_enter Try.func20, Try.ntmps20
    go_wp2_with fail
    refine (CC.out _ (HR.out.below H0.out.1)).mono ?_
    rintro e w1 ⟨rfl, b1⟩
    have HB := Lib.hid (H0.out.1.then_below b1 H0.out.1.size)
    clear b1 CC H0 CS
    go_wp2_with fail
    refine bodyPost_ret (v := .tuple #[.slice none 0 0, .int .i64 0, .int .i64 E]) (by unfold results; simp only [Try.results20]; go_simp) rfl ⟨_, rfl, World.ownsRow_nil _ _ _ _, HB.out⟩
  · obtain rfl : V = R := HV.out.trans (if_pos hE)
    have CS2 := Lib.hid (CS.out hE)
    subst hE
    obtain ⟨ro, rl⟩ := V
    dsimp only at *
    go_enter Try.func20, Try.ntmps20
    go_wp2_with fail
    refine (CC.out _ (HR.out.below H0.out.1)).mono ?_
    rintro e w1 ⟨rfl, b1⟩
    have HB := Lib.hid (And.intro (H0.out.1.then_below b1 H0.out.1.size) (blk_below b1 H0.out.2))
    clear b1 CC H0
    obtain ⟨c0, c1, _, _⟩ := blk2 HB.out.2
    have hbl := lt_of_blk HB.out.2
    go_wp2_with fail
    refine (CS2.out _ (HR.out.below HB.out.1)).mono ?_
    rintro e w2 ⟨v, rfl, o2, b2⟩
    have HB2 := Lib.hid (And.intro (HB.out.1.then_below b2 HB.out.1.size) (own_mono o2 HB.out.1.size))
    clear b2 o2 HB c0 c1 CS2 CS
    obtain ⟨A9, c9, rfl, _⟩ := own_form HB2.out.2
    go_wp2_with fail
    refine bodyPost_ret (v := .tuple #[.slice A9 ro.length c9, .int .i64 rl, .int .i64 0]) (by unfold results; simp only [Try.results20]; go_simp) rfl ⟨_, rfl, HB2.out.2, HB2.out.1⟩

/-- What Nearest tells. -/
def nearV (s : Int × Int) (l : List (Int × Int)) : List Int × Int := if tErr 500 s l = 0 then (nearL s l, lenOf s l (nearL s l)) else ([], 0)
set_option maxHeartbeats 4000000 in
theorem tourNearest_any (s : Int × Int) (l : List (Int × Int)) (hl : l.length ≤ 100000) {pv : Value} {w : World} (h1 : Reads encP pv l w) :
    Calls Try.prog 18 #[.agg #[.int .i64 s.1, .int .i64 s.2], pv] w fun e w' => ∃ v, e = .returned (.tuple #[v, .int .i64 (nearV s l).2, .int .i64 (tErr 500 s l)]) ∧ w'.ownsRow w.heap.size 3 1 v (nearV s l).1.length ((nearV s l).1.map (Value.int .i64)) ∧ Below w.heap.size w w' := by
  have CC := Lib.hid (fun (W : World) (hW : Reads encP pv l W) => check_any s l (by omega) 500 hW)
  have HR := Lib.hid h1
  have HV : Hid (nearV s l = if tErr 500 s l = 0 then (nearL s l, lenOf s l (nearL s l)) else ([], 0)) := rfl
  have CS := Lib.hid (fun (hE : tErr 500 s l = 0) (W : World) (h1 : Reads encP pv l W) => nearTour_any s l (tErr_ok hE).1 (tErr_ok hE).2.2 (by have := (tErr_ok hE).2.1; omega) W h1)
  have CL := Lib.hid (fun (hE : tErr 500 s l = 0) (v : Value) (W : World) (h1 : Reads encP pv l W) (h2 : Reads encN v (nearL s l) W) => length_any s l (nearL s l) (tErr_ok hE).1 (tErr_ok hE).2.2 (by have := (tErr_ok hE).2.1; omega) (by have := (tErr_ok hE).2.1; unfold nearL; rw [nearK_len]; omega) (nearK_rng s l l.length (Nat.le_refl _)) W h1 h2)
  have HNL : Hid ((nearL s l).length = l.length) := nearK_len _ _ _
  generalize nearV s l = V at *
  generalize tErr 500 s l = E at *
  generalize lenOf s l (nearL s l) = LN at *
  generalize nearL s l = NL at *
  obtain ⟨s1, s2⟩ := s
  dsimp only at *
  obtain ⟨Ap, cp, rfl, _⟩ := h1
  have H0 : Hid (Below w.heap.size w (w.alloc (.cells #[.int .i64 s1, .int .i64 s2] 27)) ∧ (w.alloc (.cells #[.int .i64 s1, .int .i64 s2] 27)).heap[w.heap.size]? = some (.cells #[.int .i64 s1, .int .i64 s2] 27 (0, 0))) := ⟨(Below.refl _ _).alloc (Nat.le_refl _) _, blk_new w _ rfl⟩
  by_cases hE : E = 0
  rotate_left
  · obtain rfl : V = ([], 0) := HV.out.trans (if_neg hE)
    have hne1 : (E == 0) = false := by simpa using hE
    have hne2 : (E != 0) = true := by simpa using hE
    go_enter Try.func18, Try.ntmps18
    go_wp2_with fail
    refine (CC.out _ (HR.out.below H0.out.1)).mono ?_
    rintro e w1 ⟨rfl, b1⟩
    have HB := Lib.hid (H0.out.1.then_below b1 H0.out.1.size)
    clear b1 CC H0 CS CL
    go_wp2_with fail
    refine bodyPost_ret (v := .tuple #[.slice none 0 0, .int .i64 0, .int .i64 E]) (by unfold results; simp only [Try.results18]; go_simp) rfl ⟨_, rfl, World.ownsRow_nil _ _ _ _, HB.out⟩
  · obtain rfl : V = (NL, LN) := HV.out.trans (if_pos hE)
    have CS2 := Lib.hid (CS.out hE)
    have CL2 := Lib.hid (CL.out hE)
    subst hE
    dsimp only at *
    go_enter Try.func18, Try.ntmps18
    go_wp2_with fail
    refine (CC.out _ (HR.out.below H0.out.1)).mono ?_
    rintro e w1 ⟨rfl, b1⟩
    have HB := Lib.hid (And.intro (H0.out.1.then_below b1 H0.out.1.size) (blk_below b1 H0.out.2))
    clear b1 CC H0
    obtain ⟨c0, c1, _, _⟩ := blk2 HB.out.2
    have hbl := lt_of_blk HB.out.2
    go_wp2_with fail
    refine (CS2.out _ (HR.out.below HB.out.1)).mono ?_
    rintro e w2 ⟨v, rfl, o2, b2⟩
    rw [← HNL.out] at o2
    have HB2 := Lib.hid (And.intro (HB.out.1.then_below b2 HB.out.1.size) (And.intro (own_mono o2 HB.out.1.size) (blk_below b2 HB.out.2)))
    clear b2 o2 HB c0 c1 CS2 CS
    obtain ⟨A9, c9, rfl, _⟩ := own_form HB2.out.2.1
    obtain ⟨c0, c1, _, _⟩ := blk2 HB2.out.2.2
    have hbl2 := lt_of_blk HB2.out.2.2
    go_wp2_with fail
    refine (CL2.out _ _ (HR.out.below HB2.out.1) (readsN_own HB2.out.2.1)).mono ?_
    rintro e w3 ⟨rfl, b3⟩
    have HB3 := Lib.hid (And.intro (HB2.out.1.then_below b3 HB2.out.1.size) (own_below HB2.out.2.1 b3))
    clear b3 HB2 c0 c1
    go_wp2_with fail
    refine bodyPost_ret (v := .tuple #[.slice A9 NL.length c9, .int .i64 LN, .int .i64 0]) (by unfold results; simp only [Try.results18]; go_simp) rfl ⟨_, rfl, HB3.out.2, HB3.out.1⟩
end Go.Proofs.Ytbkbjljkfhahbaa
