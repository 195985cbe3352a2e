/-
  Tours: plain words on orders, their errors and their lengths.
-/
import Derived.Test.YtbkbjljkfhahbaaTpB
namespace Go.Proofs.Ytbkbjljkfhahbaa
open Go.RowKit
set_option linter.unusedSimpArgs false
set_option linter.unusedVariables false

/-- An index in memory. -/
def encN (x : Int) : List Value := [.int .i64 x]
theorem flatN_map (l : List Int) : l.flatMap encN = l.map (Value.int .i64) := by
  induction l with
  | nil => rfl
  | cons x l ih => rw [List.flatMap_cons, ih]; rfl
theorem row_n {w : World} {g : Nat} {l : List Int} (h : LineAt w g (l.flatMap encN)) {k : Nat} (hk : k < l.length) : w.cell? ⟨g, k, none⟩ = some (.int .i64 l[k]) := by
  refine h.2 k _ ?_
  rw [flatN_map, List.getElem?_map, List.getElem?_eq_getElem hk]
  rfl
theorem readsN_own {w : World} {base : Nat} {v : Value} {l : List Int} {T : TypeId} (h : w.ownsRow base T 1 v l.length (l.map (Value.int .i64))) : Reads encN v l w := by
  refine reads_own (base := base) (T := T) (size := 1) ?_
  rw [flatN_map]
  exact h
theorem readsN_own' {w : World} {base : Nat} {v : Value} {l : List Int} {T : TypeId} {n : Nat} (h : w.ownsRow base T 1 v n (l.map (Value.int .i64))) (hn : n = l.length) : Reads encN v l w := by
  subst hn
  exact readsN_own h
theorem int_infoN : (Try.prog.info? 3).map (fun i => (i.zero, i.size, i.bytes)) = some (some (.int .i64 0), 1, 8) := by kernel_rfl

/-- The point of an index. -/
def ptAt (l : List (Int × Int)) (k : Int) : Int × Int := l.getD k.toNat (0, 0)
theorem ptAt_nat (l : List (Int × Int)) {k : Nat} (hk : k < l.length) : ptAt l k = l[k] := by
  unfold ptAt
  rw [show ((k : Int)).toNat = k from rfl, List.getD_eq_getElem?_getD, List.getElem?_eq_getElem hk]
  rfl
theorem okPt_zero : okPt (0, 0) = true := by decide
theorem ptAt_ok {l : List (Int × Int)} (h : ∀ p ∈ l, okPt p = true) (k : Int) : okPt (ptAt l k) = true := by
  unfold ptAt
  rw [List.getD_eq_getElem?_getD]
  cases e : l[k.toNat]? with
  | none => exact okPt_zero
  | some p => exact h p (List.mem_of_getElem? e)
theorem apart_comm (a b : Int × Int) : apart a b = apart b a := by unfold apart; omega

/-- How long the rest of a tour is. -/
def lenFrom (s : Int × Int) (l : List (Int × Int)) : Int × Int → List Int → Int
  | a, [] => apart a s
  | a, k :: r => apart a (ptAt l k) + lenFrom s l (ptAt l k) r
def lenOf (s : Int × Int) (l : List (Int × Int)) (o : List Int) : Int := lenFrom s l s o
theorem lenFrom_bd {s : Int × Int} {l : List (Int × Int)} (hs : okPt s = true) (hl : ∀ p ∈ l, okPt p = true) : ∀ (o : List Int) (a : Int × Int), okPt a = true → 0 ≤ lenFrom s l a o ∧ lenFrom s l a o ≤ (o.length + 1) * 1000000
  | [], a, ha => by have := apart_bd ha hs; unfold lenFrom; simp; omega
  | k :: r, a, ha => by
    have h1 := apart_bd ha (ptAt_ok hl k)
    have h2 := lenFrom_bd hs hl r (ptAt l k) (ptAt_ok hl k)
    unfold lenFrom
    rw [List.length_cons]
    push_cast
    omega
/-- Where the head is behind the first so many of an order. -/
def atOf (s : Int × Int) (l : List (Int × Int)) (o : List Int) : Int × Int := match o.getLast? with | none => s | some k => ptAt l k
theorem atOf_nil (s : Int × Int) (l : List (Int × Int)) : atOf s l [] = s := rfl
theorem atOf_snoc (s : Int × Int) (l : List (Int × Int)) (o : List Int) (k : Int) : atOf s l (o ++ [k]) = ptAt l k := by
  unfold atOf
  rw [List.getLast?_append]
  rfl
theorem atOf_ok {s : Int × Int} {l : List (Int × Int)} (hs : okPt s = true) (hl : ∀ p ∈ l, okPt p = true) (o : List Int) : okPt (atOf s l o) = true := by
  unfold atOf
  split
  · exact hs
  · exact ptAt_ok hl _

/-! ### Errors -/
/-- What is wrong with a start and points. -/
def tErr (most : Int) (s : Int × Int) (l : List (Int × Int)) : Int := if okPt s = false then 1 else ptsErr most l
theorem tErr_ok {most : Int} {s : Int × Int} {l : List (Int × Int)} (h : tErr most s l = 0) : okPt s = true ∧ (l.length : Int) ≤ most ∧ ∀ p ∈ l, okPt p = true := by
  unfold tErr at h
  split at h
  · cases h
  · rename_i h1
    exact ⟨by simpa using h1, ptsErr_ok h⟩
/-- What is wrong with an order of n points, from an index on: those before are seen. -/
def ordE (n : Nat) : List Int → List Int → Int
  | _, [] => 0
  | seen, k :: r => if 0 ≤ k ∧ k ≤ (n : Int) - 1 then (if seen.contains k = true then 6 else ordE n (seen ++ [k]) r) else 1
def ordErr (n : Nat) (o : List Int) : Int := if o.length = n then ordE n [] o else 3
/-- An order of n points. -/
structure Ord (n : Nat) (o : List Int) : Prop where
  len : o.length = n
  rng : ∀ k ∈ o, 0 ≤ k ∧ k < n
theorem ordE_rng {n : Nat} : ∀ (o seen : List Int), ordE n seen o = 0 → ∀ k ∈ o, 0 ≤ k ∧ k < n
  | [], _, _, k, hk => by cases hk
  | x :: r, seen, h, k, hk => by
    unfold ordE at h
    split at h
    · rename_i h1
      split at h
      · cases h
      · rcases List.mem_cons.mp hk with rfl | hk
        · omega
        · exact ordE_rng r _ h k hk
    · cases h
theorem ordErr_ok {n : Nat} {o : List Int} (h : ordErr n o = 0) : Ord n o := by
  unfold ordErr at h
  split at h
  · rename_i h1
    exact ⟨h1, ordE_rng _ _ h⟩
  · cases h
theorem ordE_drop {n : Nat} {o : List Int} {k : Nat} (hk : k < o.length) : ordE n (o.take k) (o.drop k) = if 0 ≤ o[k] ∧ o[k] ≤ (n : Int) - 1 then (if (o.take k).contains o[k] = true then 6 else ordE n (o.take (k + 1)) (o.drop (k + 1))) else 1 := by
  rw [drop_at o hk]
  show (if _ then (if _ then _ else ordE n (o.take k ++ [o[k]]) (o.drop (k + 1))) else _) = _
  rw [List.take_append_getElem hk]
/-- The first error of some. -/
def errsO : List Int → Int
  | [] => 0
  | e :: l => if e = 0 then errsO l else e
/-- What is wrong with a start, points and an order. -/
def tourErr (s : Int × Int) (l : List (Int × Int)) (o : List Int) : Int := if tErr 500 s l = 0 then ordErr l.length o else tErr 500 s l
theorem tourErr_or (s : Int × Int) (l : List (Int × Int)) (o : List Int) : errsO [tErr 500 s l, ordErr l.length o] = tourErr s l o := by
  unfold tourErr
  simp only [errsO]
  split
  · split
    · rename_i h; rw [h]
    · rfl
  · rfl
theorem tErr_or (most : Int) (s : Int × Int) (l : List (Int × Int)) : errsO [ptsE [s], ptsErr most l] = tErr most s l := by
  simp only [errsO]
  unfold ptsE tErr
  rw [List.all_cons, List.all_nil, Bool.and_true]
  cases okPt s
  · rfl
  · rw [if_pos rfl, if_pos rfl, if_neg (by simp : ¬ (true = false))]
    split
    · rename_i h; rw [h]
    · rfl
end Go.Proofs.Ytbkbjljkfhahbaa
