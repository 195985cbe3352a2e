/-
  The walks of areas: those of bodies, and the pairs that are near.
-/
import Derived.Test.YtopnadilfjakiaaBod
import Derived.Test.YtopnadilfjakiaaGen0
import Derived.Deep.AppendLies
namespace Go.Proofs.Ytopnadilfjakiaa
open Go.RowKit

theorem str_info9 : (Try.prog.info? 9).map (fun i => (i.zero, i.size, i.bytes)) = some (some (.string ⟨#[]⟩), 1, 16) := by kernel_rfl
/-- Areas, as cells. -/
def flatA (l : List Ar) : List Value := l.flatMap Ar.cells
def encS (s : ByteArray) : List Value := [.string s]
def flatS (l : List ByteArray) : List Value := l.flatMap encS

/-- Something is appended to a row of one's own. -/
theorem below_app {B : Nat} {w0 W w' : World} {row : Option Nat} (hb : Below B w0 W) (hB : B ≤ W.heap.size) (hg : W.grownBy w' row) (hr : ∀ j, row = some j → B ≤ j) : Below B w0 w' := hb.grown hg hB hr

theorem own_below {w w' : World} {base : Nat} {e : TypeId} {size n : Nat} {v : Value} {xs : List Value} (h : w.ownsRow base e size v n xs) (hb : Below w.heap.size w w') : w'.ownsRow base e size v n xs := by
  refine ⟨h.1, h.2.imp_right ?_⟩
  rintro ⟨g, cap, cur, hv, hg, hc, rest⟩
  exact ⟨g, cap, cur, hv, hg, (hb.block _ (lt_of_blk hc)).trans hc, rest⟩
theorem own_lt {w : World} {base : Nat} {e : TypeId} {size n : Nat} {v : Value} {xs : List Value} (h : w.ownsRow base e size v n xs) : ∀ j, v.ownBlock = some j → j < w.heap.size := by
  intro j hj
  rcases h.2 with ⟨rfl, _⟩ | ⟨g, cap, cur, rfl, hb, hc, _⟩
  · simp [Value.ownBlock] at hj
  · simp [Value.ownBlock] at hj
    subst hj
    exact lt_of_blk hc
theorem blk5 {w : World} {g : Nat} {a b c d e : Value} {t : TypeId} (h : w.heap[g]? = some (.cells #[a, b, c, d, e] t (0, 0))) :
    w.cell? ⟨g, 0, none⟩ = some a ∧ w.cell? ⟨g, 1, none⟩ = some b ∧ w.cell? ⟨g, 2, none⟩ = some c ∧ w.cell? ⟨g, 3, none⟩ = some d ∧ w.cell? ⟨g, 4, none⟩ = some e :=
  ⟨by rw [cell_of_blk h]; rfl, by rw [cell_of_blk h]; rfl, by rw [cell_of_blk h]; rfl, by rw [cell_of_blk h]; rfl, by rw [cell_of_blk h]; rfl⟩
def namesOf (b : List Bo) (l : List Pl) : List ByteArray := (l.filterMap (nameBox b)).map Prod.fst
def areasOf (b : List Bo) (l : List Pl) : List Ar := (l.filterMap (nameBox b)).map Prod.snd

theorem namesOf_some {b : List Bo} {p : Pl} {a : Ar} (h : boxOf b p = some a) (l : List Pl) : namesOf b (l ++ [p]) = namesOf b l ++ [p.name] ∧ areasOf b (l ++ [p]) = areasOf b l ++ [a] := by
  have e : [p].filterMap (nameBox b) = [(p.name, a)] := by simp [nameBox, h]
  unfold namesOf areasOf
  rw [List.filterMap_append, e]
  simp
theorem namesOf_none {b : List Bo} {p : Pl} (h : boxOf b p = none) (l : List Pl) : namesOf b (l ++ [p]) = namesOf b l ∧ areasOf b (l ++ [p]) = areasOf b l := by
  have e : [p].filterMap (nameBox b) = [] := by simp [nameBox, h]
  unfold namesOf areasOf
  rw [List.filterMap_append, e]
  simp

theorem boOf_found {b : List Bo} {part : ByteArray} {i : Nat} (h : i < b.length) (hr : Rising Bo.part b) (he : bt b[i].part = bt part) : boOf b part = some b[i] := by
  unfold boOf
  rw [List.find?_eq_some_iff_getElem]
  refine ⟨by simpa using he, i, h, rfl, fun j hj => ?_⟩
  have := hr j i hj h
  rw [he] at this
  simp only [Bool.not_eq_eq_eq_not, Bool.not_true, decide_eq_false_iff_not]
  intro e
  rw [e] at this
  exact List.lt_irrefl _ this
theorem boOf_none {b : List Bo} {part : ByteArray} (h : ∀ x ∈ b, bt x.part ≠ bt part) : boOf b part = none := by
  unfold boOf
  rw [List.find?_eq_none]
  intro x hx
  simpa using h x hx

end Go.Proofs.Ytopnadilfjakiaa
