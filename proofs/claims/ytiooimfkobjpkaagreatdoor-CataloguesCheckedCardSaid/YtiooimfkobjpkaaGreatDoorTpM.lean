/-
  Points of tours: plain words.
-/
import Derived.Test.YtiooimfkobjpkaaGreatDoorTxL
import Derived.Test.YtiooimfkobjpkaaGreatDoorTpB
namespace Go.Proofs.YtiooimfkobjpkaaGreatDoor
open Go.RowKit
set_option linter.unusedSimpArgs false
set_option linter.unusedVariables false

/-! ### Texts of points -/
def ptW (p : Int × Int) : List ByteArray := [itB p.1, itB p.2]
def ptsL (l : List (Int × Int)) : List ByteArray := l.map (fun p => lineB (ptW p))
def ptsB (l : List (Int × Int)) : ByteArray := joinB (ptsL l) dS
theorem line2 (a b : ByteArray) : lineB [a, b] = a ++ ⟨#[32]⟩ ++ b ++ ⟨#[10]⟩ := by
  apply ba_eq
  unfold lineB
  simp only [bt_append, bt_joinB, List.map_cons, List.map_nil, Lib.join_cons, Lib.joinTail, List.flatten_cons, List.flatten_nil, List.append_assoc, List.append_nil]
theorem ptLine_size {p : Int × Int} (h : okPt p = true) : (lineB (ptW p)).size ≤ 44 := by
  obtain ⟨⟨x0, x1⟩, y0, y1⟩ := okPt_spec h
  have i1 := itB_size (n := p.1) (by omega) (by omega)
  have i2 := itB_size (n := p.2) (by omega) (by omega)
  unfold ptW
  rw [line2]
  simp only [size_append]
  have e2 : (⟨#[32]⟩ : ByteArray).size = 1 := rfl
  have e3 : (⟨#[10]⟩ : ByteArray).size = 1 := rfl
  omega
theorem ptsB_size {l : List (Int × Int)} (h : ∀ p ∈ l, okPt p = true) (hl : l.length ≤ 500) : (ptsB l).size ≤ 22000 := by
  unfold ptsB ptsL
  rw [joinB_size, List.map_map]
  have h2 := sum_le (l.map (ByteArray.size ∘ fun p => lineB (ptW p))) 44 (by
    intro x hx
    obtain ⟨p, hp, rfl⟩ := List.mem_map.mp hx
    exact ptLine_size (h p hp))
  rw [List.length_map] at h2
  omega
/-- The text of the first points. -/
def ptsK (l : List (Int × Int)) (k : Nat) : ByteArray := ptsB (l.take k)
theorem ptsK_zero (l : List (Int × Int)) : ptsK l 0 = dS := by
  unfold ptsK ptsB ptsL
  apply ba_eq
  rw [bt_joinB, show bt dS = [] from rfl, join_flat]
  simp
theorem ptsK_succ (l : List (Int × Int)) {k : Nat} (hk : k < l.length) : ptsK l (k + 1) = ptsK l k ++ lineB (ptW l[k]) := by
  unfold ptsK ptsB ptsL
  rw [List.take_add_one, List.getElem?_eq_getElem hk, Option.toList_some, List.map_append, List.map_cons, List.map_nil, joinB_snoc]
theorem ptsK_all (l : List (Int × Int)) : ptsK l l.length = ptsB l := by
  unfold ptsK
  rw [List.take_of_length_le (Nat.le_refl _)]
theorem ptsK_size {l : List (Int × Int)} (h : ∀ p ∈ l, okPt p = true) (hl : l.length ≤ 500) (k : Nat) : (ptsK l k).size ≤ 22000 :=
  ptsB_size (fun p hp => h p (List.mem_of_mem_take hp)) (by rw [List.length_take]; omega)
theorem ptsL_succ (l : List (Int × Int)) {k : Nat} (hk : k < l.length) : ptsL (l.take (k + 1)) = ptsL (l.take k) ++ [lineB (ptW l[k])] := by
  unfold ptsL
  rw [List.take_add_one, List.getElem?_eq_getElem hk, Option.toList_some, List.map_append, List.map_cons, List.map_nil]
/-! ### Points of texts -/
/-- A line of two numerals. -/
def takePt (_ : Nat) (st : List (Int × Int)) (ws : List ByteArray) : Option (List (Int × Int)) :=
  match ws with
  | [a, b] => if numsB 15 [a, b] = true then some (st ++ [(numI 15 a, numI 15 b)]) else none
  | _ => none
theorem takePt_len {i : Nat} {st : List (Int × Int)} {ws : List ByteArray} (h : ws.length ≠ 2) : takePt i st ws = none := by
  unfold takePt
  split
  · exact absurd rfl h
  · rfl
theorem takePt_bad {i : Nat} {st : List (Int × Int)} {ws : List ByteArray} (h : numsB 15 ws = false) : takePt i st ws = none := by
  unfold takePt
  split
  · rw [h]; rfl
  · rfl
theorem takePt_two {i : Nat} {st : List (Int × Int)} {a b : ByteArray} (h : numsB 15 [a, b] = true) : takePt i st [a, b] = some (st ++ [(numI 15 a, numI 15 b)]) := by
  simp only [takePt]
  rw [if_pos h]
def ptScan (text : ByteArray) : Except Nat (List (Int × Int)) := scanT (stepW takePt) text.size 0 [] text
def ptOut (text : ByteArray) : List (Int × Int) × Int × Int :=
  if 200000 < text.size then ([], 0, 2)
  else match ptScan text with
    | .error i => ([], i, 9)
    | .ok st => if ptsErr 500 st = 0 then (st, 0, 0) else ([], 0, ptsErr 500 st)
end Go.Proofs.YtiooimfkobjpkaaGreatDoor
