/-
  A slice that reads as a row, in a block that is at or above a number.
-/
import Derived.Test.YtopnadilfjakiaaEq
namespace Go.Proofs.Ytopnadilfjakiaa
open Go.RowKit

def ReadsF (base : Nat) {α : Type} (enc : α → List Value) (v : Value) (l : List α) (w : World) : Prop :=
  ∃ A c, v = .slice A l.length c ∧ (l = [] ∨ ∃ g : Nat, A = some ⟨g, 0, none⟩ ∧ base ≤ g ∧ LineAt w g (l.flatMap enc))
theorem ReadsF.below {base : Nat} {α : Type} {enc : α → List Value} {v : Value} {l : List α} {w w' : World} (h : ReadsF base enc v l w) (hb : Below w.heap.size w w') : ReadsF base enc v l w' := by
  obtain ⟨A, c, e, h⟩ := h
  refine ⟨A, c, e, h.imp_right ?_⟩
  rintro ⟨g, e, h0, h⟩
  exact ⟨g, e, h0, h.below hb⟩
theorem ReadsF.reads {base : Nat} {α : Type} {enc : α → List Value} {v : Value} {l : List α} {w : World} (h : ReadsF base enc v l w) : Reads enc v l w := by
  obtain ⟨A, c, e, h⟩ := h
  refine ⟨A, c, e, h.imp_right ?_⟩
  rintro ⟨g, e, _, h⟩
  exact ⟨g, e, h⟩
theorem ReadsF.least {base b : Nat} {α : Type} {enc : α → List Value} {v : Value} {l : List α} {w : World} (h : ReadsF base enc v l w) (hb : b ≤ base) : ReadsF b enc v l w := by
  obtain ⟨A, c, e, h⟩ := h
  refine ⟨A, c, e, h.imp_right ?_⟩
  rintro ⟨g, e, h0, h⟩
  exact ⟨g, e, Nat.le_trans hb h0, h⟩
theorem ReadsF.far {base : Nat} {α : Type} {enc : α → List Value} {v : Value} {l : List α} {w : World} (h : ReadsF base enc v l w) {p : Addr} (hp : p.block < base) (u : Value) : ReadsF base enc v l (w.setCell p u) := by
  obtain ⟨A, c, e, h⟩ := h
  refine ⟨A, c, e, h.imp_right ?_⟩
  rintro ⟨g, e, h0, h⟩
  refine ⟨g, e, h0, ?_, fun j x hx => ?_⟩
  · have := h.1
    simpa [World.setCell] using this
  · exact (World.cell?_setCell_other _ _ _ _ (fun e => by have := congrArg Addr.block e; simp at this; omega)).trans (h.2 j x hx)
theorem readsF_own {α : Type} {enc : α → List Value} {v : Value} {l : List α} {w : World} {base : Nat} {T : TypeId} {size : Nat} (h : w.ownsRow base T size v l.length (l.flatMap enc)) : ReadsF base enc v l w := by
  obtain ⟨A, c, rfl, _⟩ := own_form h
  refine ⟨A, c, rfl, ?_⟩
  by_cases h0 : l.length = 0
  · exact .inl (List.length_eq_zero_iff.mp h0)
  · obtain ⟨g', _, hv, hb, hlt, _, _, hrd⟩ := own_read h (by omega)
    simp only [Value.slice.injEq, true_and] at hv
    exact .inr ⟨g', hv.1, hb, hlt, hrd⟩
end Go.Proofs.Ytopnadilfjakiaa
