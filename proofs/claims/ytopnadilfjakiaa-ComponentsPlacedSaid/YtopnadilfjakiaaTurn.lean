/-
  The walks of the functions that turn a point, and of the one that chooses among them.
-/
import Derived.Test.YtopnadilfjakiaaSpot
namespace Go.Proofs.Ytopnadilfjakiaa
open Go.RowKit

set_option maxHeartbeats 2000000 in
theorem turn1_any (x y W H : Int) (hz : Nat) (w : World) (hx : 0 ≤ x ∧ x ≤ 500000) (hy : 0 ≤ y ∧ y ≤ 500000) (hw : 1 ≤ W ∧ W ≤ 500000) (hh : 1 ≤ H ∧ H ≤ 500000) (h1 : w.cell? ⟨hz, 1, none⟩ = some (.int .i64 W)) (h2 : w.cell? ⟨hz, 2, none⟩ = some (.int .i64 H)) :
    Calls Try.prog 68 #[.int .i64 x, .int .i64 y, .pointer (some ⟨hz, 0, none⟩)] w fun e w' => e = .returned (.tuple #[.int .i64 (H - y), .int .i64 x]) ∧ Below w.heap.size w w' := by
  go_enter Try.func68, Try.ntmps68
  go_wp2_with fail
  refine bodyPost_ret (v := .tuple #[.int .i64 (H - y), .int .i64 x]) (by unfold results; simp only [Try.results68]; go_simp) rfl ?_
  exact ⟨rfl, Below.refl _ _⟩
set_option maxHeartbeats 2000000 in
theorem turn2_any (x y W H : Int) (hz : Nat) (w : World) (hx : 0 ≤ x ∧ x ≤ 500000) (hy : 0 ≤ y ∧ y ≤ 500000) (hw : 1 ≤ W ∧ W ≤ 500000) (hh : 1 ≤ H ∧ H ≤ 500000) (h1 : w.cell? ⟨hz, 1, none⟩ = some (.int .i64 W)) (h2 : w.cell? ⟨hz, 2, none⟩ = some (.int .i64 H)) :
    Calls Try.prog 69 #[.int .i64 x, .int .i64 y, .pointer (some ⟨hz, 0, none⟩)] w fun e w' => e = .returned (.tuple #[.int .i64 (W - x), .int .i64 (H - y)]) ∧ Below w.heap.size w w' := by
  go_enter Try.func69, Try.ntmps69
  go_wp2_with fail
  go_quiet (fail)
  go_wp2_with fail
  refine bodyPost_ret (v := .tuple #[.int .i64 (W - x), .int .i64 (H - y)]) (by unfold results; simp only [Try.results69]; go_simp) rfl ?_
  exact ⟨rfl, (Below.refl _ _).drawN _⟩
set_option maxHeartbeats 2000000 in
theorem turn3_any (x y W H : Int) (hz : Nat) (w : World) (hx : 0 ≤ x ∧ x ≤ 500000) (hy : 0 ≤ y ∧ y ≤ 500000) (hw : 1 ≤ W ∧ W ≤ 500000) (hh : 1 ≤ H ∧ H ≤ 500000) (h1 : w.cell? ⟨hz, 1, none⟩ = some (.int .i64 W)) (h2 : w.cell? ⟨hz, 2, none⟩ = some (.int .i64 H)) :
    Calls Try.prog 70 #[.int .i64 x, .int .i64 y, .pointer (some ⟨hz, 0, none⟩)] w fun e w' => e = .returned (.tuple #[.int .i64 y, .int .i64 (W - x)]) ∧ Below w.heap.size w w' := by
  go_enter Try.func70, Try.ntmps70
  go_wp2_with fail
  go_quiet (fail)
  go_wp2_with fail
  refine bodyPost_ret (v := .tuple #[.int .i64 y, .int .i64 (W - x)]) (by unfold results; simp only [Try.results70]; go_simp) rfl ?_
  exact ⟨rfl, (Below.refl _ _).drawN _⟩
theorem turn4_any (x y : Int) (w : World) :
    Calls Try.prog 71 #[.int .i64 x, .int .i64 y] w fun e w' => e = .returned (.tuple #[.int .i64 x, .int .i64 y]) ∧ Below w.heap.size w w' := by
  go_enter Try.func71, Try.ntmps71
  go_wp2_with fail
  refine bodyPost_ret (v := .tuple #[.int .i64 x, .int .i64 y]) (by unfold results; simp only [Try.results71]; go_simp) rfl ?_
  exact ⟨rfl, Below.refl _ _⟩

/-- The function that turns a point by some quarters. -/
def turnV (hz : Nat) : Nat → Value
  | 1 => .func (.func 68) #[] #[.pointer (some ⟨hz, 0, none⟩)]
  | 2 => .func (.func 69) #[] #[.pointer (some ⟨hz, 0, none⟩)]
  | 3 => .func (.func 70) #[] #[.pointer (some ⟨hz, 0, none⟩)]
  | _ => .func (.func 71) #[] #[]
set_option maxHeartbeats 2000000 in
theorem turning_any (key : ByteArray) (W H : Int) (A : Option Addr) (n c : Nat) (q : Nat) (hq : q ≤ 3) (w : World) :
    Calls Try.prog 48 #[prod key W H A n c, .int .i64 q] w fun e w' => e = .returned (turnV w.heap.size q) ∧ w' = w.alloc (Obj.cells #[.string key, .int .i64 W, .int .i64 H, .slice A n c] 28) := by
  have : q = 0 ∨ q = 1 ∨ q = 2 ∨ q = 3 := by omega
  rcases this with rfl | rfl | rfl | rfl
  · go_enter Try.func48, Try.ntmps48
    go_wp2_with fail
    go_ret
    exact ⟨rfl, rfl⟩
  · go_enter Try.func48, Try.ntmps48
    go_wp2_with fail
    go_ret
    exact ⟨rfl, rfl⟩
  · go_enter Try.func48, Try.ntmps48
    go_wp2_with fail
    go_ret
    exact ⟨rfl, rfl⟩
  · go_enter Try.func48, Try.ntmps48
    go_wp2_with fail
    go_ret
    exact ⟨rfl, rfl⟩
end Go.Proofs.Ytopnadilfjakiaa
