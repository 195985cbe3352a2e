/-
  The equality of two products that are the same.
-/
import Derived.Test.YtalconjnjaffkaaGreatDoorTxK
namespace Go.Proofs.YtalconjnjaffkaaGreatDoor
open Go.RowKit
set_option linter.unusedSimpArgs false
set_option linter.unusedVariables false

set_option maxHeartbeats 2000000 in
theorem equalPl_any (l : List Pl) (hl : l.length ≤ 2000000) (A1 A2 : Option Addr) (c1 c2 : Nat) (w : World) (h1 : PlAt w A1 l) (h2 : PlAt w A2 l) :
    Calls Tryz.prog 95 #[.slice A1 l.length c1, .slice A2 l.length c2] w fun e w' => e = .returned (.bool true) ∧ Below w.heap.size w w' := by
  go_enter Tryz.func95, Tryz.ntmps95
  go_wp2_with fail
  go_loopw [13] (fun kk wr => ∃ k : Nat, k ≤ l.length ∧ kk = .int .i64 k ∧ Hid (Below w.heap.size w wr)) (fun kk _ => l.length - (intOf kk).toNat)
  case atStart => exact ⟨0, by omega, rfl, Below.refl _ _⟩
  case round =>
    obtain ⟨k, hk, rfl, HB⟩ := hrel
    by_cases hlt : k < l.length
    · obtain ⟨p, hp⟩ : ∃ p, l[k] = p := ⟨_, rfl⟩
      rcases h1 with rfl | ⟨g1, rfl, r1⟩
      · simp at hlt
      rcases h2 with rfl | ⟨g2, rfl, r2⟩
      · simp at hlt
      obtain ⟨a0, a1, a2, a3, a4⟩ := row_pl (r1.below HB.out) hlt
      obtain ⟨b0, b1, b2, b3, b4⟩ := row_pl (r2.below HB.out) hlt
      rw [hp] at a0 a1 a2 a3 a4 b0 b1 b2 b3 b4
      have R1 := Lib.hid r1
      have R2 := Lib.hid r2
      clear hp r1 r2
      obtain ⟨nm, pt, x, y, q⟩ := p
      dsimp only at a0 a1 a2 a3 a4 b0 b1 b2 b3 b4
      have i1 : (0 : Int) ≤ (k : Int) := by omega
      have i2 : (k : Int) < (l.length : Int) := by omega
      go_wp2_with fail
      go_quiet (fail)
      go_wp2_with fail
      go_roundw
      case rel => exact ⟨k + 1, by omega, by go_num, HB.out.drawN _⟩
      case measure => simp [intOf]; omega
    · go_wp2_with fail
      go_ret
      exact ⟨rfl, HB.out⟩

set_option maxHeartbeats 2000000 in
theorem sameProd_any (p : Pd) (hl : p.pls.length ≤ 2000000) (v1 v2 : Value) (w : World) (h1 : PdVal v1 p w) (h2 : PdVal v2 p w) :
    Calls Tryz.prog 27 #[v1, v2] w fun e w' => e = .returned (.bool true) ∧ Below w.heap.size w w' := by
  obtain ⟨A1, c1, rfl, h1, hc1⟩ := h1
  obtain ⟨A2, c2, rfl, h2, hc2⟩ := h2
  obtain ⟨key, W, H, l⟩ := p
  have CE := Lib.hid (fun (u : World) (h1 : PlAt u A1 l) (h2 : PlAt u A2 l) => equalPl_any l hl A1 A2 c1 c2 u h1 h2)
  have HH := Lib.hid (And.intro h1 h2)
  have HB : Hid (Below w.heap.size w ((w.alloc (.cells #[.string key, .int .i64 W, .int .i64 H, .slice A1 l.length c1] 44)).alloc (.cells #[.string key, .int .i64 W, .int .i64 H, .slice A2 l.length c2] 44))) := ((Below.refl _ _).alloc (Nat.le_refl _) _).alloc (by simp) _
  clear h1 h2
  go_enter Tryz.func27, Tryz.ntmps27
  go_wp2_with fail
  refine (CE.out _ (HH.out.1.below HB.out) (HH.out.2.below HB.out)).mono ?_
  rintro e w1 ⟨rfl, b1⟩
  have HF := Lib.hid (HB.out.then_below b1 HB.out.size)
  clear b1
  go_wp2_with fail
  go_ret
  exact ⟨rfl, HF.out⟩
end Go.Proofs.YtalconjnjaffkaaGreatDoor
