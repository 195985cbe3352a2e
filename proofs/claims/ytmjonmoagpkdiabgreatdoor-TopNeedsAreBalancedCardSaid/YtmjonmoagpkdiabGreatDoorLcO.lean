/-
  The maker of needs.
-/
import Derived.Test.YtmjonmoagpkdiabGreatDoorLmB
import Derived.Test.YtmjonmoagpkdiabGreatDoorLmA
import Derived.Test.YtmjonmoagpkdiabGreatDoorRg
namespace Go.Proofs.YtmjonmoagpkdiabGreatDoor
open Go.RowKit
set_option linter.unusedSimpArgs false
set_option linter.unusedVariables false

theorem nd_info : (Tryz.prog.info? 36).map (fun i => (i.zero, i.size, i.bytes)) = some (some (.agg #[.string ⟨#[]⟩, .int .i64 0]), 2, 24) := by kernel_rfl
theorem nd_typ (x : Nd) : (encD x).length = 2 := rfl
theorem nd_str0 (s : ByteArray) (x : Nd) : ∃ y, (encD x).set 0 (.string s) = encD y := ⟨{ x with part := s }, rfl⟩
theorem nd_int1 (s : Int) (x : Nd) : ∃ y, (encD x).set 1 (.int .i64 s) = encD y := ⟨{ x with many := s }, rfl⟩
theorem nd_row {T k sb b g len cap base n i : Nat} {W : World} (h : RowI encD T k sb b g len cap base n W) (hk : k = 2) (hi : i < len) :
    ∃ (s1 : ByteArray) (x : Int), W.cell? ⟨g, i * 2, none⟩ = some (.string s1) ∧ W.cell? ⟨g, i * 2 + 1, none⟩ = some (.int .i64 x) := by
  subst hk
  obtain ⟨p, hp⟩ := h.cell (fun _ => rfl) hi
  exact ⟨p.part, p.many, hp 0 (by omega), hp 1 (by omega)⟩
/-- Needs that a stream makes. -/
def NedOf (sb b : Nat) (w : World) (e : Ending) (w' : World) : Prop :=
  ∃ (v : Value) (l : List Nd), e = .returned v ∧ l.length ≤ 5 ∧ w'.ownsRow w.heap.size 36 2 v l.length (l.flatMap encD) ∧ Took sb b w w'
def NSt (B sb b : Nat) (w0 : World) (v : Value) (l : List Nd) (W : World) : Prop := W.ownsRow (B + 1) 36 2 v l.length (l.flatMap encD) ∧ Took sb b w0 W

end Go.Proofs.YtmjonmoagpkdiabGreatDoor
