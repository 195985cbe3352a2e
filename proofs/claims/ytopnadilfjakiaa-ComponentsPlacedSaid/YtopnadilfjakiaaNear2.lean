/-
  The walk of the pairs that are near, whatever is done at each.
-/
import Derived.Test.YtopnadilfjakiaaNear
namespace Go.Proofs.Ytopnadilfjakiaa
open Go.RowKit

/-- What a function value that collects pairs has: its variable, and the row behind it. -/
structure ClI (E T vb base : Nat) (enc : Nat × Nat → List Value) (d : List (Nat × Nat)) (v : Value) (W : World) : Prop where
  var : W.heap[vb]? = some (.cells #[v] T (0, 0))
  row : W.ownsRow base E 2 v d.length (d.flatMap enc)
  lt : vb < base
theorem ClI.below {E T vb base : Nat} {enc : Nat × Nat → List Value} {d : List (Nat × Nat)} {v : Value} {W W' : World} (h : ClI E T vb base enc d v W) (hb : Below W.heap.size W W') : ClI E T vb base enc d v W' :=
  ⟨blk_below hb h.var, own_below h.row hb, h.lt⟩
/-- What one call of it does. -/
def ClPost (E T vb base : Nat) (enc : Nat × Nat → List Value) (d : List (Nat × Nat)) (v : Value) (i j : Nat) (W : World) (e : Ending) (W' : World) : Prop :=
  e = .returned (.tuple #[]) ∧ ∃ v', ClI E T vb base enc (d ++ [(i, j)]) v' W' ∧ W.heap.size ≤ W'.heap.size ∧ (W'.os = W.os ∧ W'.tape = W.tape ∧ W'.output = W.output) ∧
    (∀ k, k < W.heap.size → k ≠ vb → v.ownBlock ≠ some k → W'.heap[k]? = W.heap[k]?) ∧ (v'.ownBlock = v.ownBlock ∨ ∃ k, W.heap.size ≤ k ∧ v'.ownBlock = some k)

def dA : Ar := ⟨0, 0, 0, 0⟩
def rowIdx (g : Int) (L : List Ar) (i j : Nat) : List (Nat × Nat) := ((List.range' (i + 1) (j - (i + 1))).filter fun k => nearA g (L.getD i dA) (L.getD k dA)).map fun k => (i, k)
def nearIdx (g : Int) (L : List Ar) (i : Nat) : List (Nat × Nat) := (List.range i).flatMap fun k => rowIdx g L k L.length
theorem rowIdx_start (g : Int) (L : List Ar) (i : Nat) : rowIdx g L i (i + 1) = [] := by simp [rowIdx]
theorem rowIdx_next (g : Int) (L : List Ar) {i j : Nat} (h : i < j) : rowIdx g L i (j + 1) = rowIdx g L i j ++ (if nearA g (L.getD i dA) (L.getD j dA) then [(i, j)] else []) := by
  unfold rowIdx
  rw [show j + 1 - (i + 1) = j - (i + 1) + 1 by omega, List.range'_concat, List.filter_append, List.map_append, show i + 1 + 1 * (j - (i + 1)) = j by omega]
  cases h2 : nearA g (L.getD i dA) (L.getD j dA) <;> simp only [List.filter_cons, List.filter_nil, h2, List.map_nil, List.map_cons, if_true, Bool.false_eq_true, if_false]
theorem nearIdx_next (g : Int) (L : List Ar) (i : Nat) : nearIdx g L (i + 1) = nearIdx g L i ++ rowIdx g L i L.length := by
  unfold nearIdx
  rw [List.range_succ, List.flatMap_append]
  simp
theorem rowIdx_len (g : Int) (L : List Ar) (i j : Nat) : (rowIdx g L i j).length ≤ j := by
  unfold rowIdx
  rw [List.length_map]
  exact Nat.le_trans (List.length_filter_le _ _) (by rw [List.length_range']; omega)
theorem nearIdx_len (g : Int) (L : List Ar) (i : Nat) : (nearIdx g L i).length ≤ i * L.length := by
  induction i with
  | zero => simp [nearIdx]
  | succ i ih =>
    rw [nearIdx_next, List.length_append, Nat.succ_mul]
    have := rowIdx_len g L i L.length
    omega

def AreasAt (w : World) (A : Option Addr) (L : List Ar) : Prop := L = [] ∨ ∃ g : Nat, A = some ⟨g, 0, none⟩ ∧ LineAt w g (flatA L)
theorem row_ar {w : World} {g : Nat} {L : List Ar} (h : LineAt w g (flatA L)) {k : Nat} (hk : k < L.length) :
    w.cell? ⟨g, k * 4, none⟩ = some (.int .i64 L[k].xf) ∧ w.cell? ⟨g, k * 4 + 1, none⟩ = some (.int .i64 L[k].xt) ∧ w.cell? ⟨g, k * 4 + 2, none⟩ = some (.int .i64 L[k].yf) ∧ w.cell? ⟨g, k * 4 + 3, none⟩ = some (.int .i64 L[k].yt) := by
  have e := fun j (hj : j < 4) => flatK_at Ar.cells 4 (fun _ => rfl) L k hk j hj
  exact ⟨h.2 _ _ (e 0 (by omega)), h.2 _ _ (e 1 (by omega)), h.2 _ _ (e 2 (by omega)), h.2 _ _ (e 3 (by omega))⟩
def arB (a : Ar) : Prop := (-10000000 ≤ a.xf ∧ a.xf ≤ 10000000) ∧ (-10000000 ≤ a.xt ∧ a.xt ≤ 10000000) ∧ (-10000000 ≤ a.yf ∧ a.yf ≤ 10000000) ∧ (-10000000 ≤ a.yt ∧ a.yt ≤ 10000000)

/-- The state at the heads of both loops. -/
def NearSt (E T vb : Nat) (enc : Nat × Nat → List Value) (w0 : World) (d : List (Nat × Nat)) (W : World) : Prop :=
  ∃ v, ClI E T vb w0.heap.size enc d v W ∧ Kept vb w0 W
end Go.Proofs.Ytopnadilfjakiaa
