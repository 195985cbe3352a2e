/-
  Machines and needs in memory.
-/
import Derived.Test.YtjmjmijjdgolfaaLcM
namespace Go.Proofs.Ytjmjmijjdgolfaa
open Go.RowKit
set_option linter.unusedSimpArgs false
set_option linter.unusedVariables false

def encD (n : Nd) : List Value := [.string n.part, .int .i64 n.many]
theorem row_d {w : World} {g : Nat} {l : List Nd} (h : LineAt w g (l.flatMap encD)) {k : Nat} (hk : k < l.length) :
    w.cell? ⟨g, k * 2, none⟩ = some (.string l[k].part) ∧ w.cell? ⟨g, k * 2 + 1, none⟩ = some (.int .i64 l[k].many) := by
  have e := fun j (hj : j < 2) => flatK_at encD 2 (fun _ => rfl) l k hk j hj
  exact ⟨h.2 _ _ (e 0 (by omega)), h.2 _ _ (e 1 (by omega))⟩
/-- Machine m stands from cell i of block g on, and its parts read as they should. -/
def McAt (base g i : Nat) (m : Mc) (w : World) : Prop :=
  w.cell? ⟨g, i, none⟩ = some (.string m.key) ∧ w.cell? ⟨g, i + 1, none⟩ = some (.int .i64 m.each) ∧ w.cell? ⟨g, i + 2, none⟩ = some (.int .i64 m.fixed) ∧ w.cell? ⟨g, i + 3, none⟩ = some (.int .i64 m.feed) ∧
  ∃ u, w.cell? ⟨g, i + 4, none⟩ = some u ∧ ReadsF base encS u m.can w
theorem McAt.below {base g i : Nat} {m : Mc} {w w' : World} (hg : g < w.heap.size) (h : McAt base g i m w) (hb : Below w.heap.size w w') : McAt base g i m w' := by
  obtain ⟨h0, h1, h2, h3, u, h4, h5⟩ := h
  exact ⟨(hb.cell (p := ⟨g, _, none⟩) hg).trans h0, (hb.cell (p := ⟨g, _, none⟩) hg).trans h1, (hb.cell (p := ⟨g, _, none⟩) hg).trans h2, (hb.cell (p := ⟨g, _, none⟩) hg).trans h3, u, (hb.cell (p := ⟨g, _, none⟩) hg).trans h4, h5.below hb⟩
def MsF (base : Nat) (v : Value) (ms : List Mc) (w : World) : Prop :=
  ∃ A c, v = .slice A ms.length c ∧ ms.length ≤ c ∧ (ms = [] ∨ ∃ g : Nat, A = some ⟨g, 0, none⟩ ∧ g < w.heap.size ∧ ∀ j (h : j < ms.length), McAt base g (j * 5) ms[j] w)
theorem MsF.below {base : Nat} {v : Value} {ms : List Mc} {w w' : World} (h : MsF base v ms w) (hb : Below w.heap.size w w') : MsF base v ms w' := by
  obtain ⟨A, c, e, hc, h⟩ := h
  refine ⟨A, c, e, hc, h.imp_right ?_⟩
  rintro ⟨g, e, h1, h⟩
  exact ⟨g, e, Nat.lt_of_lt_of_le h1 hb.size, fun j hj => (h j hj).below h1 hb⟩
theorem MsF.take {base : Nat} {A : Option Addr} {c : Nat} {ms : List Mc} {w : World} (h : MsF base (.slice A ms.length c) ms w) (i : Nat) (hi : i ≤ ms.length) : MsF base (.slice A i c) (ms.take i) w := by
  obtain ⟨A', c', e, hc, h⟩ := h
  cases e
  have hl : (ms.take i).length = i := by rw [List.length_take]; omega
  refine ⟨A, c, by rw [hl], by omega, ?_⟩
  rcases h with rfl | ⟨g, rfl, h1, h⟩
  · left; simp
  · refine .inr ⟨g, rfl, h1, fun j hj => ?_⟩
    rw [List.getElem_take]
    exact h j (by omega)
end Go.Proofs.Ytjmjmijjdgolfaa
