/-
  The program writes a product.
-/
import Derived.Test.YtiooimfkobjpkaaGreatDoorTxL
import Derived.Test.YtiooimfkobjpkaaGreatDoorRg
namespace Go.Proofs.YtiooimfkobjpkaaGreatDoor
open Go.RowKit
set_option linter.unusedSimpArgs false
set_option linter.unusedVariables false

theorem str_infoT : (Tryz.prog.info? 9).map (fun i => (i.zero, i.size, i.bytes)) = some (some (.string ⟨#[]⟩), 1, 16) := by kernel_rfl

theorem strs_blk {w : World} {g : Nat} {ws : List ByteArray} {T : TypeId} {n : Nat} (h : w.heap[g]? = some (.cells (ws.map Value.string).toArray T (0, 0))) (hn : n = ws.length) : StrsAt (.slice (some ⟨g, 0, none⟩) n n) ws w := by
  subst hn
  refine ⟨_, _, rfl, Nat.le_refl _, .inr ⟨g, 0, rfl, lt_of_blk h, fun j hj => ?_⟩⟩
  rw [cell_of_blk h]
  simp [hj]
theorem strs_own {w : World} {base : Nat} {T : TypeId} {v : Value} {ws : List ByteArray} {n : Nat} (h : w.ownsRow base T 1 v n (ws.map Value.string)) (hn : n = ws.length) : StrsAt v ws w := by
  subst hn
  rcases h.2 with ⟨rfl, h0⟩ | ⟨g, cap, cur, rfl, hb, hg, h1, h2, h3, h4⟩
  · have : ws = [] := List.length_eq_zero_iff.mp h0
    subst this
    exact ⟨none, 0, rfl, Nat.le_refl _, .inl rfl⟩
  · refine ⟨_, cap, rfl, h1, .inr ⟨g, 0, rfl, lt_of_blk hg, fun j hj => ?_⟩⟩
    rw [cell_of_blk hg, Nat.zero_add]
    have := congrArg (fun z => z[j]?) h4
    simp only [Nat.mul_one, List.getElem?_take, List.getElem?_map, List.getElem?_eq_getElem hj, Option.map_some] at this
    rw [if_pos hj] at this
    simpa using this
theorem own_one {w : World} {base g : Nat} {T : TypeId} {v : Value} (h : w.heap[g]? = some (.cells #[v] T (0, 0))) (hb : base ≤ g) : w.ownsRow base T 1 (.slice (some ⟨g, 0, none⟩) 1 1) 1 [v] :=
  ⟨rfl, .inr ⟨g, 1, _, rfl, hb, h, Nat.le_refl _, by unfold maxLen; omega, rfl, rfl⟩⟩
theorem blk5p {w : World} {g : Nat} {a b c d e : Value} {t : TypeId} (h : w.heap[g]? = some (.cells #[a, b, c, d, e] t (0, 0))) : w.cell? ⟨g, 0, none⟩ = some a ∧ w.cell? ⟨g, 1, none⟩ = some b ∧ w.cell? ⟨g, 2, none⟩ = some c ∧ w.cell? ⟨g, 3, none⟩ = some d ∧ w.cell? ⟨g, 4, none⟩ = some e :=
  ⟨cell_of_blk h 0, cell_of_blk h 1, cell_of_blk h 2, cell_of_blk h 3, cell_of_blk h 4⟩
theorem textL_succ (key : ByteArray) (W H : Int) (l : List Pl) {k : Nat} (hk : k < l.length) : textL key W H (l.take (k + 1)) = textL key W H (l.take k) ++ [lineB (placeW l[k])] := by
  unfold textL
  rw [List.take_add_one, List.getElem?_eq_getElem hk, Option.toList_some, List.map_append, List.map_cons, List.map_nil, ← List.cons_append]
theorem line_len {ws : List ByteArray} {n : Nat} (h : (lineB ws).size ≤ n) : (Lib.join (ws.map bt) [32]).length ≤ n := by
  unfold lineB at h
  rw [size_append, ← bt_size, bt_joinB] at h
  have : bt (⟨#[32]⟩ : ByteArray) = [32] := rfl
  rw [this] at h
  omega

end Go.Proofs.YtiooimfkobjpkaaGreatDoor
