/-
  The changed placements: plain words.
-/
import Derived.Test.YtalconjnjaffkaaGreatDoorTxT
namespace Go.Proofs.YtalconjnjaffkaaGreatDoor
open Go.RowKit
set_option linter.unusedSimpArgs false
set_option linter.unusedVariables false

def findN (y : List Pl) (n : ByteArray) : Option Pl := y.find? (fun p => decide (p.name = n))
/-- The same but for the name. -/
def plB (a b : Pl) : Bool := (a.part.toList == b.part.toList) && (a.x == b.x) && (a.y == b.y) && (a.q == b.q)
def isNone : Option Pl → Bool
  | none => true
  | some _ => false
def otherThan (a : Pl) : Option Pl → Bool
  | none => false
  | some b => !plB a b
def onlyIn (x y : List Pl) : List ByteArray := (x.filter (fun a => isNone (findN y a.name))).map Pl.name
def differ (x y : List Pl) : List ByteArray := (x.filter (fun a => otherThan a (findN y a.name))).map Pl.name
abbrev Ris (l : List Pl) : Prop := l.Pairwise (fun a b => bt a.name < bt b.name)

theorem findN_none {y : List Pl} {n : ByteArray} (h : ∀ p ∈ y, p.name ≠ n) : findN y n = none := by
  unfold findN
  rw [List.find?_eq_none]
  intro p hp
  simpa using h p hp
theorem findN_cons_ne {b : Pl} {y : List Pl} {n : ByteArray} (h : b.name ≠ n) : findN (b :: y) n = findN y n := by
  unfold findN
  rw [List.find?_cons_of_neg (by simpa using h)]
theorem findN_cons_eq {b : Pl} {y : List Pl} {n : ByteArray} (h : b.name = n) : findN (b :: y) n = some b := by
  unfold findN
  rw [List.find?_cons_of_pos (by simpa using h)]
theorem ne_of_lt {a b : ByteArray} (h : bt a < bt b) : a ≠ b := fun e => by subst e; exact absurd h (List.lt_irrefl _)
theorem only_nil (x : List Pl) : onlyIn x [] = x.map Pl.name := by
  unfold onlyIn
  rw [List.filter_eq_self.mpr]
  intro a _; rfl
theorem only_nil' (y : List Pl) : onlyIn [] y = [] := rfl
theorem differ_nil (x : List Pl) : differ x [] = [] := by
  unfold differ
  rw [List.filter_eq_nil_iff.mpr]
  · rfl
  · intro a _; simp [findN, otherThan]
theorem differ_nil' (y : List Pl) : differ [] y = [] := rfl
theorem only_skip {b : Pl} {y : List Pl} : ∀ {x : List Pl}, (∀ p ∈ x, b.name ≠ p.name) → onlyIn x (b :: y) = onlyIn x y := by
  intro x h
  unfold onlyIn
  congr 1
  apply List.filter_congr
  intro a ha
  rw [findN_cons_ne (h a ha)]
theorem differ_skip {b : Pl} {y : List Pl} : ∀ {x : List Pl}, (∀ p ∈ x, b.name ≠ p.name) → differ x (b :: y) = differ x y := by
  intro x h
  unfold differ
  congr 1
  apply List.filter_congr
  intro a ha
  rw [findN_cons_ne (h a ha)]
theorem only_take {a : Pl} {x y : List Pl} (h : findN y a.name = none) : onlyIn (a :: x) y = a.name :: onlyIn x y := by
  unfold onlyIn
  rw [List.filter_cons_of_pos (by rw [h]; rfl)]; rfl
theorem only_drop {a b : Pl} {x y : List Pl} (h : findN y a.name = some b) : onlyIn (a :: x) y = onlyIn x y := by
  unfold onlyIn
  rw [List.filter_cons_of_neg (by rw [h]; simp [isNone])]
theorem differ_none {a : Pl} {x y : List Pl} (h : findN y a.name = none) : differ (a :: x) y = differ x y := by
  unfold differ
  rw [List.filter_cons_of_neg (by rw [h]; simp [otherThan])]
theorem differ_same {a b : Pl} {x y : List Pl} (h : findN y a.name = some b) (hb : plB a b = true) : differ (a :: x) y = differ x y := by
  unfold differ
  rw [List.filter_cons_of_neg (by rw [h]; simp [otherThan, hb])]
theorem differ_take {a b : Pl} {x y : List Pl} (h : findN y a.name = some b) (hb : plB a b = false) : differ (a :: x) y = a.name :: differ x y := by
  unfold differ
  rw [List.filter_cons_of_pos (by rw [h]; simp [otherThan, hb])]; rfl
theorem above {a : ByteArray} {b : Pl} {y : List Pl} (h : bt a < bt b.name) (hy : Ris (b :: y)) : ∀ p ∈ b :: y, bt a < bt p.name := by
  intro p hp
  rcases List.mem_cons.mp hp with rfl | hp
  · exact h
  · exact List.lt_trans h ((List.pairwise_cons.mp hy).1 p hp)
/-- The first name is less. -/
theorem step_lt {a b : Pl} {x y : List Pl} (h : bt a.name < bt b.name) (hx : Ris (a :: x)) (hy : Ris (b :: y)) :
    onlyIn (a :: x) (b :: y) = a.name :: onlyIn x (b :: y) ∧ onlyIn (b :: y) (a :: x) = onlyIn (b :: y) x ∧ differ (a :: x) (b :: y) = differ x (b :: y) := by
  have h1 : ∀ p ∈ b :: y, p.name ≠ a.name := fun p hp e => ne_of_lt (above h hy p hp) e.symm
  exact ⟨only_take (findN_none h1), only_skip (fun p hp e => h1 p hp e.symm), differ_none (findN_none h1)⟩
/-- The second name is less. -/
theorem step_gt {a b : Pl} {x y : List Pl} (h : bt b.name < bt a.name) (hx : Ris (a :: x)) (hy : Ris (b :: y)) :
    onlyIn (a :: x) (b :: y) = onlyIn (a :: x) y ∧ onlyIn (b :: y) (a :: x) = b.name :: onlyIn y (a :: x) ∧ differ (a :: x) (b :: y) = differ (a :: x) y := by
  have h1 : ∀ p ∈ a :: x, p.name ≠ b.name := fun p hp e => ne_of_lt (above h hx p hp) e.symm
  exact ⟨only_skip (fun p hp e => h1 p hp e.symm), only_take (findN_none h1), differ_skip (fun p hp e => h1 p hp e.symm)⟩
/-- The names are the same. -/
theorem step_eq {a b : Pl} {x y : List Pl} (h : b.name = a.name) (hx : Ris (a :: x)) (hy : Ris (b :: y)) :
    onlyIn (a :: x) (b :: y) = onlyIn x y ∧ onlyIn (b :: y) (a :: x) = onlyIn y x ∧ differ (a :: x) (b :: y) = if plB a b then differ x y else a.name :: differ x y := by
  have h1 : ∀ p ∈ x, b.name ≠ p.name := fun p hp => by
    have := (List.pairwise_cons.mp hx).1 p hp
    rw [h]; exact ne_of_lt this
  have h2 : ∀ p ∈ y, a.name ≠ p.name := fun p hp => by
    have := (List.pairwise_cons.mp hy).1 p hp
    rw [← h]; exact ne_of_lt this
  refine ⟨(only_drop (findN_cons_eq h)).trans (only_skip h1), (only_drop (findN_cons_eq h.symm)).trans (only_skip h2), ?_⟩
  cases hb : plB a b
  · rw [differ_take (findN_cons_eq h) hb, differ_skip h1]; rfl
  · rw [differ_same (findN_cons_eq h) hb, differ_skip h1]; rfl
theorem only_len (x y : List Pl) : (onlyIn x y).length ≤ x.length := by
  unfold onlyIn
  rw [List.length_map]
  exact List.length_filter_le _ _
theorem differ_len (x y : List Pl) : (differ x y).length ≤ x.length := by
  unfold differ
  rw [List.length_map]
  exact List.length_filter_le _ _
/-- Step by step through the first one. -/
theorem only_snoc (x y : List Pl) {k : Nat} (hk : k < x.length) : onlyIn (x.take (k + 1)) y = onlyIn (x.take k) y ++ (if isNone (findN y x[k].name) then [x[k].name] else []) := by
  unfold onlyIn
  rw [List.take_add_one, List.getElem?_eq_getElem hk, Option.toList_some, List.filter_append, List.map_append]
  congr 1
  cases h : isNone (findN y x[k].name)
  · simp [List.filter, h]
  · simp [List.filter, h]
theorem differ_snoc (x y : List Pl) {k : Nat} (hk : k < x.length) : differ (x.take (k + 1)) y = differ (x.take k) y ++ (if otherThan x[k] (findN y x[k].name) then [x[k].name] else []) := by
  unfold differ
  rw [List.take_add_one, List.getElem?_eq_getElem hk, Option.toList_some, List.filter_append, List.map_append]
  congr 1
  cases h : otherThan x[k] (findN y x[k].name)
  · simp [List.filter, h]
  · simp [List.filter, h]
end Go.Proofs.YtalconjnjaffkaaGreatDoor
