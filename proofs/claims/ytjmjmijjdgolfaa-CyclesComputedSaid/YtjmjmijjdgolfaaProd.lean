/-
  The walk of the check of products.
-/
import Derived.Test.YtjmjmijjdgolfaaWord
import Derived.Test.YtjmjmijjdgolfaaFid
namespace Go.Proofs.Ytjmjmijjdgolfaa
open Go.RowKit

structure Pl where
  name : ByteArray
  part : ByteArray
  x : Int
  y : Int
  q : Int

def Pl.cells (p : Pl) : List Value := [.string p.name, .string p.part, .int .i64 p.x, .int .i64 p.y, .int .i64 p.q]
def flatP (l : List Pl) : List Value := l.flatMap Pl.cells
theorem flatP_len (l : List Pl) : (flatP l).length = l.length * 5 := by
  induction l with
  | nil => rfl
  | cons p l ih => simp only [flatP, List.flatMap_cons, List.length_append] at ih ⊢; simp [ih, Pl.cells]; omega
theorem flatP_append (a b : List Pl) : flatP (a ++ b) = flatP a ++ flatP b := List.flatMap_append
theorem flatP_at (l : List Pl) : ∀ (k : Nat) (h : k < l.length) (j : Nat), j < 5 → (flatP l)[k * 5 + j]? = l[k].cells[j]? := by
  induction l with
  | nil => intro k h; simp at h
  | cons p l ih =>
    intro k h j hj
    have e : flatP (p :: l) = p.cells ++ flatP l := rfl
    have hc : p.cells.length = 5 := rfl
    cases k with
    | zero => rw [e, List.getElem?_append_left (by omega)]; simp
    | succ k =>
      have := ih k (by simpa using h) j hj
      rw [e, List.getElem?_append_right (by omega), show (k + 1) * 5 + j - p.cells.length = k * 5 + j by omega, this]
      rfl
theorem flatP_one (l : List Pl) : ∀ u ∈ flatP l, u.oneCell' = true := by
  intro u hu
  simp only [flatP, List.mem_flatMap] at hu
  obtain ⟨p, _, hp⟩ := hu
  simp [Pl.cells] at hp
  rcases hp with rfl | rfl | rfl | rfl | rfl <;> rfl

/-- A row of cells at a block's beginning. -/
def LineAt (w : World) (g : Nat) (l : List Value) : Prop := g < w.heap.size ∧ ∀ j u, l[j]? = some u → w.cell? ⟨g, j, none⟩ = some u
theorem LineAt.below {w w' : World} {g : Nat} {l : List Value} (h : LineAt w g l) (hb : Below w.heap.size w w') : LineAt w' g l :=
  ⟨Nat.lt_of_lt_of_le h.1 hb.size, fun j u hu => (hb.cell (p := ⟨g, j, none⟩) h.1).trans (h.2 j u hu)⟩
/-- Placements that come in. -/
def PlAt (w : World) (A : Option Addr) (l : List Pl) : Prop := l = [] ∨ ∃ g : Nat, A = some ⟨g, 0, none⟩ ∧ LineAt w g (flatP l)
theorem PlAt.below {w w' : World} {A : Option Addr} {l : List Pl} (h : PlAt w A l) (hb : Below w.heap.size w w') : PlAt w' A l := by
  rcases h with h | ⟨g, e, h⟩
  · exact .inl h
  · exact .inr ⟨g, e, h.below hb⟩
theorem row_pl {w : World} {g : Nat} {l : List Pl} (h : LineAt w g (flatP l)) {k : Nat} (hk : k < l.length) :
    w.cell? ⟨g, k * 5, none⟩ = some (.string l[k].name) ∧ w.cell? ⟨g, k * 5 + 1, none⟩ = some (.string l[k].part) ∧ w.cell? ⟨g, k * 5 + 2, none⟩ = some (.int .i64 l[k].x) ∧
    w.cell? ⟨g, k * 5 + 3, none⟩ = some (.int .i64 l[k].y) ∧ w.cell? ⟨g, k * 5 + 4, none⟩ = some (.int .i64 l[k].q) :=
  ⟨h.2 _ _ (flatP_at l k hk 0 (by omega)), h.2 _ _ (flatP_at l k hk 1 (by omega)), h.2 _ _ (flatP_at l k hk 2 (by omega)), h.2 _ _ (flatP_at l k hk 3 (by omega)), h.2 _ _ (flatP_at l k hk 4 (by omega))⟩

def inR (n lo hi : Int) : Bool := decide (lo ≤ n) && decide (n ≤ hi)
theorem withinR (n lo hi : Int) (w : World) : Calls Try.prog 68 #[.int .i64 n, .int .i64 lo, .int .i64 hi] w fun e w' => e = .returned (.bool (inR n lo hi)) ∧ w = w' := within_any n lo hi w
theorem refinR (n lo hi : Int) (w : World) : Calls Try.prog 61 #[.int .i64 n, .int .i64 lo, .int .i64 hi] w fun e w' => e = .returned (.bool (inR n lo hi)) ∧ w = w' := in_any n lo hi w

def leS (a b : ByteArray) : Bool := Op.bytesLess a.toList b.toList || (a.toList == b.toList)
def plOk (W H : Int) (p : Pl) : Bool := inR p.x 0 W && inR p.y 0 H && inR p.q 0 3
/-- The error of placements. -/
def plErr (W H : Int) : List Pl → Option ByteArray → Int
  | [], _ => 0
  | p :: l, prev => if (keyB p.name && keyB p.part) = false then 5 else if prev.any (leS p.name) = true then 7 else if plOk W H p = false then 1 else plErr W H l (some p.name)
/-- The error of a product. -/
def prodErr (key : ByteArray) (W H : Int) (l : List Pl) : Int :=
  if keyB key = false then 5 else if (inR W 1 500000 && inR H 1 500000) = false then 1 else if 1000 < l.length then 2 else plErr W H l none
def prevOf (l : List Pl) : Nat → Option ByteArray
  | 0 => none
  | k + 1 => l[k]?.map Pl.name

theorem drop_at {α : Type} (l : List α) {k : Nat} (h : k < l.length) : l.drop k = l[k] :: l.drop (k + 1) := List.drop_eq_getElem_cons h

abbrev prod (key : ByteArray) (W H : Int) (A : Option Addr) (n c : Nat) : Value := .agg #[.string key, .int .i64 W, .int .i64 H, .slice A n c]

end Go.Proofs.Ytjmjmijjdgolfaa
