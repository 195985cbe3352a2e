/-
  The checks of setups, the program's and the reference's.
-/
import Derived.Test.YtiooimfkobjpkaaGreatDoorSeM
import Derived.Test.YtiooimfkobjpkaaGreatDoorShelf
import Derived.Test.YtiooimfkobjpkaaGreatDoorSeK
namespace Go.Proofs.YtiooimfkobjpkaaGreatDoor
open Go.RowKit

/-- slices.Contains at the head of a slice that reads as strings. -/
theorem contains_any {base : Nat} {l : List ByteArray} {A : Option Addr} {c : Nat} (x : ByteArray) (n : Nat) (hn : n ≤ l.length) (hl : l.length ≤ 1000000) {w : World} (h : ReadsF base encS (.slice A l.length c) l w) (c' : Nat) :
    Calls Tryz.prog 66 #[.slice A n c', .string x] w fun e w' => e = .returned (.bool (has (l.take n) x)) ∧ w = w' := by
  rcases Nat.eq_zero_or_pos n with rfl | h0
  · refine (Tryz.slices_Contains_string_empty A c' x w).mono ?_
    rintro e w' ⟨rfl, rfl⟩
    refine ⟨?_, rfl⟩
    rw [List.take_zero]
    exact ret_bool (by rw [has_false.mpr (by simp)])
  · obtain ⟨A', c0, e, _, hr⟩ := h
    cases e
    rcases hr with rfl | ⟨g, rfl, _, hr⟩
    · simp at hn; omega
    refine (Tryz.slices_Contains_string g 0 n c' l x w hn (by omega) (fun j hj => ?_)).mono ?_
    · rw [Nat.zero_add, List.getD_eq_getElem?_getD, List.getElem?_eq_getElem hj]
      exact row_strg hr hj
    · rintro e w' ⟨rfl, rfl⟩
      exact ⟨rfl, rfl⟩

theorem seErr_drop {s : List ByteArray} {k : Nat} (h : k < s.length) : seErr (s.drop k) (s.take k) = if em s[k] = true then seErr (s.drop (k + 1)) (s.take (k + 1)) else if keyB s[k] = false then 5 else if has (s.take k) s[k] = true then 6 else seErr (s.drop (k + 1)) (s.take (k + 1)) := by
  rw [drop_at s h, seErr, List.take_succ_eq_append_getElem h]

end Go.Proofs.YtiooimfkobjpkaaGreatDoor
