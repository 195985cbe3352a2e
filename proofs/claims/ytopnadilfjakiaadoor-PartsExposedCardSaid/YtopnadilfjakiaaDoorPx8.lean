/-
  The reference on exposures: spent, ExposedOf, LeftOf.
-/
import Derived.Test.YtopnadilfjakiaaDoorPx6
namespace Go.Proofs.YtopnadilfjakiaaDoor
open Go.RowKit

set_option maxHeartbeats 2000000 in
theorem spentR_any (key pk : ByteArray) (lv bk pl e lg : Int) (w : World) (he : 0 ≤ e ∧ e ≤ 345686400000) (hl : 0 ≤ lg ∧ lg ≤ 345686400000) :
    Calls Tryd.prog 40 #[.agg #[.string key, .string pk, .int .i64 lv, .int .i64 bk], .int .i64 pl, .int .i64 e, .int .i64 lg] w fun r w' => r = .returned (.int .i64 (spentB lv bk pl e lg)) ∧ Below w.heap.size w w' := by
  obtain ⟨he0, he1⟩ := he
  obtain ⟨hl0, hl1⟩ := hl
  have HQ : Hid (spentB lv bk pl e lg = if pl = 2 then e + lg else if pl = 4 ∧ bk ≤ lg then 0 else if pl = 3 ∧ e ≤ 43200000 ∧ lv ≤ 5 ∧ (if lv = 5 then 10 else 5) * e ≤ lg then 0 else e) := rfl
  generalize spentB lv bk pl e lg = r at *
  by_cases h2 : pl = 2
  · subst h2
    have HR : Hid (r = e + lg) := HQ.out.trans (if_pos rfl)
    clear HQ
    by_cases h5 : lv = 5
    · subst h5
      go_enter Tryd.func40, Tryd.ntmps40
      go_wp2_with fail
      go_ret
      exact ⟨ret_int HR.out.symm, (Below.refl _ _).alloc (Nat.le_refl _) _⟩
    · have h50 : (lv == 5) = false := by simpa using h5
      go_enter Tryd.func40, Tryd.ntmps40
      go_wp2_with fail
      go_ret
      exact ⟨ret_int HR.out.symm, (Below.refl _ _).alloc (Nat.le_refl _) _⟩
  have h20 : (pl == 2) = false := by simpa using h2
  by_cases h4 : pl = 4
  · subst h4
    by_cases hb : bk ≤ lg
    · have HR : Hid (r = 0) := HQ.out.trans ((if_neg h2).trans (if_pos ⟨rfl, hb⟩))
      clear HQ h2
      by_cases h5 : lv = 5
      · subst h5
        go_enter Tryd.func40, Tryd.ntmps40
        go_wp2_with fail
        go_ret
        exact ⟨ret_int HR.out.symm, (Below.refl _ _).alloc (Nat.le_refl _) _⟩
      · have h50 : (lv == 5) = false := by simpa using h5
        go_enter Tryd.func40, Tryd.ntmps40
        go_wp2_with fail
        go_ret
        exact ⟨ret_int HR.out.symm, (Below.refl _ _).alloc (Nat.le_refl _) _⟩
    · have HR : Hid (r = e) := HQ.out.trans ((if_neg h2).trans ((if_neg fun h => hb h.2).trans (if_neg fun h => by omega)))
      clear HQ h2
      by_cases h5 : lv = 5
      · subst h5
        go_enter Tryd.func40, Tryd.ntmps40
        go_wp2_with fail
        go_ret
        exact ⟨ret_int HR.out.symm, (Below.refl _ _).alloc (Nat.le_refl _) _⟩
      · have h50 : (lv == 5) = false := by simpa using h5
        go_enter Tryd.func40, Tryd.ntmps40
        go_wp2_with fail
        go_ret
        exact ⟨ret_int HR.out.symm, (Below.refl _ _).alloc (Nat.le_refl _) _⟩
  have h40 : (pl == 4) = false := by simpa using h4
  have HQ1 : Hid (r = if pl = 3 ∧ e ≤ 43200000 ∧ lv ≤ 5 ∧ (if lv = 5 then 10 else 5) * e ≤ lg then 0 else e) := HQ.out.trans ((if_neg h2).trans (if_neg fun h => h4 h.1))
  clear HQ h2 h4
  by_cases h3 : pl = 3
  · subst h3
    by_cases hc : e ≤ 43200000
    · by_cases h5 : lv = 5
      · subst h5
        by_cases hq : 10 * e ≤ lg
        · have HR : Hid (r = 0) := HQ1.out.trans (if_pos ⟨rfl, hc, by omega, by rw [if_pos rfl]; exact hq⟩)
          clear HQ1
          go_enter Tryd.func40, Tryd.ntmps40
          go_wp2_with fail
          go_ret
          exact ⟨ret_int HR.out.symm, (Below.refl _ _).alloc (Nat.le_refl _) _⟩
        · have HR : Hid (r = e) := HQ1.out.trans (if_neg fun h => hq (by have := h.2.2.2; rw [if_pos rfl] at this; exact this))
          clear HQ1
          go_enter Tryd.func40, Tryd.ntmps40
          go_wp2_with fail
          go_ret
          exact ⟨ret_int HR.out.symm, (Below.refl _ _).alloc (Nat.le_refl _) _⟩
      · have h50 : (lv == 5) = false := by simpa using h5
        by_cases h6 : lv ≤ 5
        · by_cases hq : 5 * e ≤ lg
          · have HR : Hid (r = 0) := HQ1.out.trans (if_pos ⟨rfl, hc, h6, by rw [if_neg h5]; exact hq⟩)
            clear HQ1 h5
            go_enter Tryd.func40, Tryd.ntmps40
            go_wp2_with fail
            go_ret
            exact ⟨ret_int HR.out.symm, (Below.refl _ _).alloc (Nat.le_refl _) _⟩
          · have HR : Hid (r = e) := HQ1.out.trans (if_neg fun h => hq (by have := h.2.2.2; rw [if_neg h5] at this; exact this))
            clear HQ1 h5
            go_enter Tryd.func40, Tryd.ntmps40
            go_wp2_with fail
            go_ret
            exact ⟨ret_int HR.out.symm, (Below.refl _ _).alloc (Nat.le_refl _) _⟩
        · have HR : Hid (r = e) := HQ1.out.trans (if_neg fun h => h6 h.2.2.1)
          clear HQ1 h5
          go_enter Tryd.func40, Tryd.ntmps40
          go_wp2_with fail
          go_ret
          exact ⟨ret_int HR.out.symm, (Below.refl _ _).alloc (Nat.le_refl _) _⟩
    · have HR : Hid (r = e) := HQ1.out.trans (if_neg fun h => hc h.2.1)
      clear HQ1
      by_cases h5 : lv = 5
      · subst h5
        go_enter Tryd.func40, Tryd.ntmps40
        go_wp2_with fail
        go_ret
        exact ⟨ret_int HR.out.symm, (Below.refl _ _).alloc (Nat.le_refl _) _⟩
      · have h50 : (lv == 5) = false := by simpa using h5
        go_enter Tryd.func40, Tryd.ntmps40
        go_wp2_with fail
        go_ret
        exact ⟨ret_int HR.out.symm, (Below.refl _ _).alloc (Nat.le_refl _) _⟩
  · have HR : Hid (r = e) := HQ1.out.trans (if_neg fun h => h3 h.1)
    have h30 : (pl == 3) = false := by simpa using h3
    clear HQ1 h3
    by_cases h5 : lv = 5
    · subst h5
      go_enter Tryd.func40, Tryd.ntmps40
      go_wp2_with fail
      go_ret
      exact ⟨ret_int HR.out.symm, (Below.refl _ _).alloc (Nat.le_refl _) _⟩
    · have h50 : (lv == 5) = false := by simpa using h5
      go_enter Tryd.func40, Tryd.ntmps40
      go_wp2_with fail
      go_ret
      exact ⟨ret_int HR.out.symm, (Below.refl _ _).alloc (Nat.le_refl _) _⟩
end Go.Proofs.YtopnadilfjakiaaDoor
