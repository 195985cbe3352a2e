/-
  Plain words on the needs of parts: a rising list of parts with their counts is what Needs gives.
-/
import Derived.Test.YtopnadilfjakiaaNeeds
namespace Go.Proofs.Ytopnadilfjakiaa

theorem le_lt_ne {a b : List UInt8} (h : a ≤ b) (hne : a ≠ b) : a < b := by
  rcases Decidable.em (a < b) with h1 | h1
  · exact h1
  · exact absurd (List.le_antisymm h (by simpa using h1)) hne
theorem needsOf_rev (r : List (List UInt8)) (h : r.Pairwise fun x y => y ≤ x) : ((needsOf r.reverse).Pairwise fun x y => x.1 < y.1) ∧ ∀ x, x ∈ needsOf r.reverse ↔ x.1 ∈ r ∧ x.2 = (r.count x.1 : Int) := by
  induction r with
  | nil => exact ⟨List.Pairwise.nil, fun x => by simp [needsOf]⟩
  | cons s r ih =>
    obtain ⟨hs, hr⟩ := List.pairwise_cons.mp h
    obtain ⟨i1, i2⟩ := ih hr
    rw [List.reverse_cons, needsOf_snoc]
    cases r with
    | nil =>
      refine ⟨by simp [needsOf, addNeed], fun x => ?_⟩
      obtain ⟨a, b⟩ := x
      simp only [needsOf, List.reverse_nil, List.foldl_nil, addNeed, List.getLast?_nil, List.mem_singleton, Prod.mk.injEq]
      constructor
      · rintro ⟨rfl, rfl⟩; simp
      · rintro ⟨rfl, e⟩; simpa using e
    | cons t r =>
      obtain ⟨acc, m, hf, _, _⟩ := needsOf_form r t
      rw [hf] at i1 i2 ⊢
      have ht : ∀ x ∈ acc, x.1 < t := fun x hx => (List.pairwise_append.mp i1).2.2 x hx (t, m) (by simp)
      have hm : m = ((t :: r).count t : Int) := ((i2 (t, m)).mp (by simp)).2
      by_cases e : t = s
      · subst e
        have ea : addNeed (acc ++ [(t, m)]) t = acc ++ [(t, m + 1)] := by simp [addNeed]
        rw [ea]
        refine ⟨?_, fun x => ?_⟩
        · rw [List.pairwise_append] at i1 ⊢
          refine ⟨i1.1, by simp, fun a ha b hb => ?_⟩
          simp only [List.mem_singleton] at hb
          subst hb
          exact ht a ha
        · obtain ⟨a, b⟩ := x
          by_cases ex : a = t
          · subst ex
            have h0 : (a, b) ∉ acc := fun hx => List.lt_irrefl _ (ht _ hx)
            simp only [List.mem_append, h0, false_or, Prod.mk.injEq, true_and, List.mem_cons, true_or]
            rw [List.count_cons_self, hm]
            push_cast
            simp
          · have i3 := i2 (a, b)
            simp only [List.mem_append, List.mem_singleton, Prod.mk.injEq, ex, false_and, or_false] at i3 ⊢
            rw [i3]
            simp [ex, Ne.symm ex]
      · have hts : t < s := le_lt_ne (hs t (by simp)) e
        have ea : addNeed (acc ++ [(t, m)]) s = (acc ++ [(t, m)]) ++ [(s, 1)] := by simp [addNeed, e]
        have hlt : ∀ x ∈ t :: r, x < s := by
          intro x hx
          rcases List.mem_cons.mp hx with rfl | hx
          · exact hts
          · have h1 : x ≤ t := (List.pairwise_cons.mp hr).1 x hx
            rcases Decidable.em (x = t) with rfl | hne
            · exact hts
            · exact List.lt_trans (le_lt_ne h1 hne) hts
        have h0 : s ∉ t :: r := fun hx => List.lt_irrefl _ (hlt s hx)
        rw [ea]
        refine ⟨?_, fun x => ?_⟩
        · rw [List.pairwise_append]
          refine ⟨i1, by simp, fun a ha b hb => ?_⟩
          simp only [List.mem_singleton] at hb
          subst hb
          exact hlt _ ((i2 a).mp ha).1
        · obtain ⟨a, b⟩ := x
          rw [List.mem_append, i2]
          by_cases ex : a = s
          · subst ex
            simp only [h0, false_and, false_or, List.mem_singleton, Prod.mk.injEq, true_and]
            have hc : (t :: r).count a = 0 := List.count_eq_zero.mpr h0
            rw [List.count_cons_self, hc]
            simp
          · simp [ex, List.count_cons, Ne.symm ex]
theorem needsOf_all (ts : List (List UInt8)) (h : ts.Pairwise fun x y => x ≤ y) : ((needsOf ts).Pairwise fun x y => x.1 < y.1) ∧ ∀ x, x ∈ needsOf ts ↔ x.1 ∈ ts ∧ x.2 = (ts.count x.1 : Int) := by
  have := needsOf_rev ts.reverse (by rw [List.pairwise_reverse]; exact h)
  rw [List.reverse_reverse] at this
  refine ⟨this.1, fun x => ?_⟩
  rw [this.2 x, List.mem_reverse, List.count_reverse]
/-- The needs of parts are the rising list of parts with their counts. -/
theorem needs_unique (parts : List (List UInt8)) (out : List (List UInt8 × Int)) (h1 : out.Pairwise fun x y => x.1 < y.1) (h2 : ∀ x, x ∈ out ↔ x.1 ∈ parts ∧ x.2 = (parts.count x.1 : Int)) :
    out = needsOf (parts.mergeSort fun x y => decide (x ≤ y)) := by
  have hp := List.mergeSort_perm parts (fun x y => decide (x ≤ y))
  have hs : (parts.mergeSort fun x y => decide (x ≤ y)).Pairwise fun x y => x ≤ y := by
    have := List.pairwise_mergeSort (le := fun x y : List UInt8 => decide (x ≤ y)) (fun a b c h1 h2 => by simp only [decide_eq_true_eq] at *; exact List.le_trans h1 h2) (fun a b => by simp only [Bool.or_eq_true, decide_eq_true_eq]; exact List.le_total a b) parts
    exact this.imp (fun h => by simpa using h)
  obtain ⟨a1, a2⟩ := needsOf_all _ hs
  have nd : ∀ {l : List (List UInt8 × Int)}, (l.Pairwise fun x y => x.1 < y.1) → l.Nodup := fun h => h.imp (fun h e => by rw [e] at h; exact List.lt_irrefl _ h)
  have pe : out.Perm (needsOf (parts.mergeSort fun x y => decide (x ≤ y))) := by
    rw [List.perm_ext_iff_of_nodup (nd h1) (nd a1)]
    intro x
    rw [h2, a2, hp.mem_iff, hp.count_eq]
  exact List.Perm.eq_of_pairwise (fun a b _ _ h1 h2 => absurd (List.lt_trans h1 h2) (List.lt_irrefl _)) h1 a1 pe
end Go.Proofs.Ytopnadilfjakiaa
