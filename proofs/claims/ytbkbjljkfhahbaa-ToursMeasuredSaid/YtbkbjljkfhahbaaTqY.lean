/-
  Turning a part of a tour: in memory; the reference's turn.
-/
import Derived.Test.YtbkbjljkfhahbaaTqX
import Derived.Test.YtbkbjljkfhahbaaTqS
namespace Go.Proofs.Ytbkbjljkfhahbaa
open Go.RowKit
set_option linter.unusedSimpArgs false
set_option linter.unusedVariables false

theorem cloneN_any (o : List Int) (ho : o.length ≤ 1000) {v : Value} {W : World} (h : Reads encN v o W) :
    Calls Try.prog 36 #[v] W fun e w' => ∃ v', e = .returned v' ∧ w'.ownsRow W.heap.size 3 1 v' o.length (o.map (Value.int .i64)) ∧ Below W.heap.size W w' := by
  obtain ⟨A, c, rfl, h⟩ := h
  by_cases h0 : o = []
  · subst h0
    cases A with
    | none =>
      refine (Try.slices_Clone_int_nil 0 c W).mono ?_
      rintro e w' ⟨rfl, rfl⟩
      exact ⟨_, rfl, World.ownsRow_nil _ _ _ _, Below.refl _ _⟩
    | some a =>
      refine (Try.slices_Clone_int_zero a c W).mono ?_
      rintro e w' ⟨v', rfl, h1, _, h2⟩
      exact ⟨_, rfl, h1, h2⟩
  · rcases h with h | ⟨g, rfl, h⟩
    · exact absurd h h0
    · refine (Try.slices_Clone_int g 0 o.length c o W (Nat.le_refl _) (by omega) (fun j hj => ?_)).mono ?_
      · rw [Nat.zero_add, row_n h hj, List.getD_eq_getElem?_getD, List.getElem?_eq_getElem hj]
        rfl
      · rintro e w' ⟨v', rfl, h1, _, h2⟩
        rw [List.take_of_length_le (Nat.le_refl _)] at h1
        exact ⟨_, rfl, h1, h2⟩
theorem set_split {o : List Int} {i : Nat} (x : Int) (r : List Int) (hi : i + (x :: r).length ≤ o.length) :
    (o.set i x).take (i + 1) ++ r ++ (o.set i x).drop (i + 1 + r.length) = o.take i ++ (x :: r) ++ o.drop (i + (x :: r).length) := by
  have hl : i < o.length := by simp at hi; omega
  have e1 : (o.set i x).take (i + 1) = o.take i ++ [x] := by
    rw [List.set_eq_take_append_cons_drop, if_pos hl, show o.take i ++ x :: o.drop (i + 1) = (o.take i ++ [x]) ++ o.drop (i + 1) from by rw [List.append_assoc]; rfl]
    rw [List.take_left' (by rw [List.length_append, List.length_take]; simp; omega)]
  have e2 : (o.set i x).drop (i + 1 + r.length) = o.drop (i + (x :: r).length) := by
    rw [List.drop_set_of_lt (by omega), List.length_cons]
    congr 1
    omega
  rw [e1, e2, List.append_assoc (o.take i) [x] r]
  rfl
theorem own_sets {B n g c : Nat} {T : TypeId} : ∀ (seg : List Int) (i : Nat) (o : List Int) (w : World), w.ownsRow B T 1 (.slice (some ⟨g, 0, none⟩) n c) n (o.map (Value.int .i64)) → i + seg.length ≤ o.length →
    (w.setCells g i (seg.map (Value.int .i64))).ownsRow B T 1 (.slice (some ⟨g, 0, none⟩) n c) n ((o.take i ++ seg ++ o.drop (i + seg.length)).map (Value.int .i64))
  | [], i, o, w, h, hi => by
    rw [List.append_nil, List.length_nil, Nat.add_zero, List.take_append_drop]
    exact h
  | x :: r, i, o, w, h, hi => by
    rw [← set_split x r hi]
    refine own_sets r (i + 1) (o.set i x) (w.setCell ⟨g, i, none⟩ (.int .i64 x)) ?_ (by rw [List.length_set]; rw [List.length_cons] at hi; omega)
    rw [List.map_set]
    exact own_set h i (.int .i64 x)
theorem kept_sets {sb g : Nat} (hg : g = sb) {a : World} : ∀ (seg : List Value) (i : Nat) (w : World), Kept sb a w → Kept sb a (w.setCells g i seg)
  | [], _, _, h => h
  | x :: r, i, w, h => by
    refine kept_sets hg r (i + 1) (w.setCell ⟨g, i, none⟩ x) ⟨h.outer, by simpa [World.setCell] using h.more, fun j hj hne => ?_⟩
    rw [Below.heap_setCell _ _ _ _ (by show j ≠ g; omega)]
    exact h.old j hj hne
theorem reverse_own {B n g c : Nat} {o : List Int} {i k : Nat} {w : World} (h : w.ownsRow B 3 1 (.slice (some ⟨g, 0, none⟩) n c) n (o.map (Value.int .i64))) (hi : i ≤ k) (hk : k < o.length) (hlo : o.length ≤ 1000) (c' : Nat) :
    Calls Try.prog 50 #[.slice (some ⟨g, i, none⟩) (k + 1 - i) c'] w fun e w' => e = .returned (.tuple #[]) ∧ w'.ownsRow B 3 1 (.slice (some ⟨g, 0, none⟩) n c) n ((tl o i k).map (Value.int .i64)) ∧ Kept g w w' := by
  have hn : n = o.length := by have := h.1; simpa using this.symm
  have hzl : ((o.drop i).take (k + 1 - i)).length = k + 1 - i := by rw [List.length_take, List.length_drop]; omega
  have hc : ∀ j, j < o.length → w.cell? ⟨g, j, none⟩ = some (.int .i64 (o.getD j 0)) := fun j hj => by
    have hx := h.cells (g := g) rfl j (.int .i64 o[j]) (by rw [List.getElem?_map, List.getElem?_eq_getElem hj]; rfl)
    rw [addr_new] at hx
    rw [hx, List.getD_eq_getElem?_getD, List.getElem?_eq_getElem hj]
    rfl
  refine (Try.slices_Reverse_int_cells g i (k + 1 - i) c' ((o.drop i).take (k + 1 - i)) w (by omega) (by omega) (fun j hj => ?_) (fun j hj => own_frozen h _)).mono ?_
  · rw [hc _ (by omega), List.getD_eq_getElem?_getD, List.getD_eq_getElem?_getD, List.getElem?_take_of_lt (by omega), List.getElem?_drop]
  · rintro e w' ⟨rfl, q, rfl⟩
    rw [List.take_of_length_le (by omega)]
    refine ⟨rfl, ?_, kept_sets rfl _ _ _ ((Kept.same g w).draws q)⟩
    have := own_sets (((o.drop i).take (k + 1 - i)).reverse) i o (w.drewN q) (by exact h) (by rw [List.length_reverse, hzl]; omega)
    rw [List.length_reverse, hzl, show i + (k + 1 - i) = k + 1 from by omega] at this
    exact this

set_option maxHeartbeats 4000000 in
theorem turnedRef_any (o : List Int) (ho : o.length ≤ 1000) {i k : Nat} (hi : i ≤ k) (hk : k < o.length) {v : Value} (w : World) (h : Reads encN v o w) :
    Calls Try.prog 51 #[v, .int .i64 i, .int .i64 k] w fun e w' => ∃ v', e = .returned v' ∧ w'.ownsRow w.heap.size 3 1 v' o.length ((tl o i k).map (Value.int .i64)) ∧ Below w.heap.size w w' := by
  have CC := Lib.hid (cloneN_any o ho h)
  obtain ⟨A, c, rfl, _⟩ := h
  go_enter Try.func51, Try.ntmps51
  go_wp2_with fail
  refine CC.out.mono ?_
  rintro e w1 ⟨v1, rfl, o1, b1⟩
  obtain ⟨A1, c1, rfl, h1⟩ := own_form o1
  obtain ⟨g, rfl, hg1, hg2⟩ := h1 (by omega)
  have hcap : o.length ≤ c1 := by
    rcases o1.2 with ⟨h0, _⟩ | ⟨g', cap', cur, hv, _, _, h1, _⟩
    · cases h0
    · cases hv; exact h1
  have CR := Lib.hid (reverse_own o1 hi hk ho)
  have HB := Lib.hid b1
  clear o1 b1 CC
  have i1 : (0 : Int) ≤ (i : Int) := by omega
  go_wp2_with fail
  refine (CR.out _).mono ?_
  rintro e w2 ⟨rfl, o2, k2⟩
  have H2 := Lib.hid (And.intro o2 (below_kept HB.out k2 hg2 HB.out.size))
  clear o2 k2 CR HB
  go_wp2_with fail
  refine bodyPost_ret (v := .slice (some ⟨g, 0, none⟩) o.length c1) (by unfold results; simp only [Try.results51]; go_simp) rfl ⟨_, rfl, H2.out.1, H2.out.2⟩
end Go.Proofs.Ytbkbjljkfhahbaa
