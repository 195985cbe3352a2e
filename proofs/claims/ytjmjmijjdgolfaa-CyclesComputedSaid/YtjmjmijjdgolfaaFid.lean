/-
  The walks of the checks of fiducials.
-/
import Derived.Test.YtjmjmijjdgolfaaPt
namespace Go.Proofs.Ytjmjmijjdgolfaa
open Go.RowKit

/-- Points, as cells. -/
def flat (l : List (Int × Int)) : List Value := l.flatMap fun p => [.int .i64 p.1, .int .i64 p.2]
theorem flat_len (l : List (Int × Int)) : (flat l).length = l.length * 2 := by
  induction l with
  | nil => rfl
  | cons p l ih => simp only [flat, List.flatMap_cons, List.length_append] at ih ⊢; simp [ih]; omega
theorem flat_append (a b : List (Int × Int)) : flat (a ++ b) = flat a ++ flat b := List.flatMap_append
theorem flat_at (l : List (Int × Int)) : ∀ (k : Nat) (h : k < l.length), (flat l)[k * 2]? = some (.int .i64 l[k].1) ∧ (flat l)[k * 2 + 1]? = some (.int .i64 l[k].2) := by
  induction l with
  | nil => intro k h; simp at h
  | cons p l ih =>
    intro k h
    cases k with
    | zero => simp [flat]
    | succ k =>
      have := ih k (by simpa using h)
      have e : flat (p :: l) = [.int .i64 p.1, .int .i64 p.2] ++ flat l := rfl
      rw [e, List.getElem?_append_right (by simp; omega), List.getElem?_append_right (by simp; omega)]
      simpa [show (k + 1) * 2 - 2 = k * 2 by omega, show (k + 1) * 2 + 1 - 2 = k * 2 + 1 by omega] using this
theorem flat_one (l : List (Int × Int)) : ∀ u ∈ flat l, u.oneCell' = true := by
  intro u hu
  simp only [flat, List.mem_flatMap] at hu
  obtain ⟨p, _, hp⟩ := hu
  simp at hp
  rcases hp with rfl | rfl <;> rfl

def ok (p : Int × Int) : Bool := crd p.1 && crd p.2
/-- The error of fiducials. -/
def fidErr (n0 n1 m0 m1 : Int × Int) (more : List (Int × Int)) : Int :=
  if ([n0, n1, m0, m1] ++ more).all ok then (if n0 = n1 ∨ m0 = m1 then 16 else 0) else 1

def two (p q : Int × Int) : Value := .agg #[.int .i64 p.1, .int .i64 p.2, .int .i64 q.1, .int .i64 q.2]

/-- A slice of points that comes in: none, or some. -/
def PtsAt (w : World) (A : Option Addr) (c : Nat) (l : List (Int × Int)) : Prop :=
  (A = none ∧ c = 0 ∧ l = []) ∨ ∃ ad, A = some ad ∧ ad.block < w.heap.size ∧ ∀ j u, (flat l)[j]? = some u → w.cell? (ad.add j) = some u

/-- The points that are looked at lie in a row. -/
def LieAt (w : World) (g : Nat) (l : List (Int × Int)) : Prop := g < w.heap.size ∧ ∀ j u, (flat l)[j]? = some u → w.cell? ⟨g, j, none⟩ = some u
theorem LieAt.below {w w' : World} {g : Nat} {l : List (Int × Int)} (h : LieAt w g l) (hb : Below w.heap.size w w') : LieAt w' g l :=
  ⟨Nat.lt_of_lt_of_le h.1 hb.size, fun j u hu => (hb.cell (p := ⟨g, j, none⟩) h.1).trans (h.2 j u hu)⟩
theorem LieAt.at_ {w : World} {g : Nat} {l : List (Int × Int)} (h : LieAt w g l) {k : Nat} (hk : k < l.length) :
    w.cell? ⟨g, k * 2, none⟩ = some (.int .i64 l[k].1) ∧ w.cell? ⟨g, k * 2 + 1, none⟩ = some (.int .i64 l[k].2) :=
  ⟨h.2 _ _ (flat_at l k hk).1, h.2 _ _ (flat_at l k hk).2⟩

theorem blk_new (W : World) (o : Obj) {g : Nat} (hg : W.heap.size = g) : (W.alloc o).heap[g]? = some o := by subst hg; exact heap_alloc_new W o
theorem all_bad (al : List (Int × Int)) (k : Nat) (hk : k < al.length) (h : ok al[k] = false) : al.all ok = false := by
  rw [List.all_eq_false]
  exact ⟨al[k], List.getElem_mem hk, by rw [h]; simp⟩
theorem blk4 {w : World} {g : Nat} {a b c d : Value} {t : TypeId} (h : w.heap[g]? = some (.cells #[a, b, c, d] t (0, 0))) :
    w.cell? ⟨g, 0, none⟩ = some a ∧ w.cell? ⟨g, 1, none⟩ = some b ∧ w.cell? ⟨g, 2, none⟩ = some c ∧ w.cell? ⟨g, 3, none⟩ = some d :=
  ⟨by rw [cell_of_blk h]; rfl, by rw [cell_of_blk h]; rfl, by rw [cell_of_blk h]; rfl, by rw [cell_of_blk h]; rfl⟩

theorem incrd_any (n : Int) (w : World) : Calls Try.prog 61 #[.int .i64 n, .int .i64 (-500000), .int .i64 500000] w fun e w' => e = .returned (.bool (crd n)) ∧ w = w' := in_any n _ _ w

end Go.Proofs.Ytjmjmijjdgolfaa
