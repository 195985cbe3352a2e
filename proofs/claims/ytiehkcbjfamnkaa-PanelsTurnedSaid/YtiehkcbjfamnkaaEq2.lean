/-
  The walks of equality of equal slices of numbers, of pairs of numbers and of slots, and of equality of equal panels.
-/
import Derived.Test.YtiehkcbjfamnkaaPanV
import Derived.ChangeKeysEq
namespace Go.Proofs.Ytiehkcbjfamnkaa
open Go.RowKit

theorem run_equalIn_two (w : World) (d : Nat) (x y : Int) : (Op.equalIn (d + 1 + 1) 75 (.agg #[.int .i64 x, .int .i64 y]) (.agg #[.int .i64 x, .int .i64 y])).run Try.prog w = .ok true w := by
  obtain ⟨i0, hi0, _⟩ := info_parts int_info
  have hc : Try.prog.cellsOf 3 = 1 := by kernel_rfl
  have hu : Try.prog.underlying 3 = some (.int .i64) := by kernel_rfl
  have hp : ∀ u : Value, u = .int .i64 x ∨ u = .int .i64 y → (Op.equalIn (d + 1) 3 u u).run Try.prog w = .ok true w := by
    rintro u (rfl | rfl) <;> rw [run_equalIn_int w d _ _ _ _ _ hu] <;> simp
  have h0 : (part 3 #[.int .i64 x, .int .i64 y] 0).run Try.prog w = .ok (.int .i64 x) w := by go_simp
  have h1 : (part 3 #[.int .i64 x, .int .i64 y] 1).run Try.prog w = .ok (.int .i64 y) w := by go_simp
  rw [run_equalIn_array w (d + 1) (n := 2) (e := 3) _ _ (by kernel_rfl) hi0, hc]
  show (Op.eqItems (d + 1) 3 1 _ _ [0, 1]).run _ _ = _
  simp [Op.eqItems, h0, h1, hp]
attribute [local go_sem] run_equalIn_two

set_option maxHeartbeats 2000000 in
theorem equalNat_any (l : List Nat) (hl : l.length ≤ 2000000) (v1 v2 : Value) (w : World) (h1 : Reads natC v1 l w) (h2 : Reads natC v2 l w) :
    Calls Try.prog 33 #[v1, v2] w fun e w' => e = .returned (.bool true) ∧ Below w.heap.size w w' := by
  obtain ⟨A1, c1, rfl, h1⟩ := h1
  obtain ⟨A2, c2, rfl, h2⟩ := h2
  go_enter Try.func33, Try.ntmps33
  go_wp2_with fail
  go_loopw [13] (fun kk wr => ∃ k : Nat, k ≤ l.length ∧ kk = .int .i64 k ∧ Hid (Below w.heap.size w wr)) (fun kk _ => l.length - (intOf kk).toNat)
  case atStart => exact ⟨0, by omega, rfl, Below.refl _ _⟩
  case round =>
    obtain ⟨k, hk, rfl, HB⟩ := hrel
    by_cases hlt : k < l.length
    · obtain ⟨p, hp⟩ : ∃ p, l[k] = p := ⟨_, rfl⟩
      rcases h1 with rfl | ⟨g1, rfl, r1⟩
      · simp at hlt
      rcases h2 with rfl | ⟨g2, rfl, r2⟩
      · simp at hlt
      have e := flatK_at natC 1 (fun _ => rfl) l k hlt 0 (by omega)
      rw [hp, Nat.mul_one, Nat.add_zero] at e
      have a0 : wr.cell? ⟨g1, k, none⟩ = some (.int .i64 p) := (r1.below HB.out).2 _ _ e
      have b0 : wr.cell? ⟨g2, k, none⟩ = some (.int .i64 p) := (r2.below HB.out).2 _ _ e
      have R1 := Lib.hid r1
      have R2 := Lib.hid r2
      clear e hp r1 r2
      have i1 : (0 : Int) ≤ (k : Int) := by omega
      have i2 : (k : Int) < (l.length : Int) := by omega
      go_wp2_with fail
      go_quiet (fail)
      go_wp2_with fail
      go_roundw
      case rel => exact ⟨k + 1, by omega, by go_num, HB.out.drawN _⟩
      case measure => simp [intOf]; omega
    · go_wp2_with fail
      go_ret
      exact ⟨rfl, HB.out⟩

set_option maxHeartbeats 2000000 in
theorem equalTwo_any (l : List (Nat × Nat)) (hl : l.length ≤ 2000000) (v1 v2 : Value) (w : World) (h1 : Reads natP v1 l w) (h2 : Reads natP v2 l w) :
    Calls Try.prog 34 #[v1, v2] w fun e w' => e = .returned (.bool true) ∧ Below w.heap.size w w' := by
  obtain ⟨A1, c1, rfl, h1⟩ := h1
  obtain ⟨A2, c2, rfl, h2⟩ := h2
  go_enter Try.func34, Try.ntmps34
  go_wp2_with fail
  go_loopw [13] (fun kk wr => ∃ k : Nat, k ≤ l.length ∧ kk = .int .i64 k ∧ Hid (Below w.heap.size w wr)) (fun kk _ => l.length - (intOf kk).toNat)
  case atStart => exact ⟨0, by omega, rfl, Below.refl _ _⟩
  case round =>
    obtain ⟨k, hk, rfl, HB⟩ := hrel
    by_cases hlt : k < l.length
    · obtain ⟨p, hp⟩ : ∃ p, l[k] = p := ⟨_, rfl⟩
      rcases h1 with rfl | ⟨g1, rfl, r1⟩
      · simp at hlt
      rcases h2 with rfl | ⟨g2, rfl, r2⟩
      · simp at hlt
      have e := fun j (hj : j < 2) => flatK_at natP 2 (fun _ => rfl) l k hlt j hj
      rw [hp] at e
      obtain ⟨x, y⟩ := p
      have a0 : wr.cell? ⟨g1, k * 2, none⟩ = some (.int .i64 x) := (r1.below HB.out).2 _ _ (e 0 (by omega))
      have a1 : wr.cell? ⟨g1, k * 2 + 1, none⟩ = some (.int .i64 y) := (r1.below HB.out).2 _ _ (e 1 (by omega))
      have b0 : wr.cell? ⟨g2, k * 2, none⟩ = some (.int .i64 x) := (r2.below HB.out).2 _ _ (e 0 (by omega))
      have b1 : wr.cell? ⟨g2, k * 2 + 1, none⟩ = some (.int .i64 y) := (r2.below HB.out).2 _ _ (e 1 (by omega))
      have R1 := Lib.hid r1
      have R2 := Lib.hid r2
      clear e hp r1 r2
      have i1 : (0 : Int) ≤ (k : Int) := by omega
      have i2 : (k : Int) < (l.length : Int) := by omega
      go_wp2_with fail
      go_quiet (fail)
      go_wp2_with fail
      go_roundw
      case rel => exact ⟨k + 1, by omega, by go_num, HB.out.drawN _⟩
      case measure => simp [intOf]; omega
    · go_wp2_with fail
      go_ret
      exact ⟨rfl, HB.out⟩

set_option maxHeartbeats 2000000 in
theorem equalSl_any (l : List Sl) (hl : l.length ≤ 2000000) (v1 v2 : Value) (w : World) (h1 : Reads Sl.cells v1 l w) (h2 : Reads Sl.cells v2 l w) :
    Calls Try.prog 77 #[v1, v2] w fun e w' => e = .returned (.bool true) ∧ Below w.heap.size w w' := by
  obtain ⟨A1, c1, rfl, h1⟩ := h1
  obtain ⟨A2, c2, rfl, h2⟩ := h2
  go_enter Try.func77, Try.ntmps77
  go_wp2_with fail
  go_loopw [13] (fun kk wr => ∃ k : Nat, k ≤ l.length ∧ kk = .int .i64 k ∧ Hid (Below w.heap.size w wr)) (fun kk _ => l.length - (intOf kk).toNat)
  case atStart => exact ⟨0, by omega, rfl, Below.refl _ _⟩
  case round =>
    obtain ⟨k, hk, rfl, HB⟩ := hrel
    by_cases hlt : k < l.length
    · obtain ⟨p, hp⟩ : ∃ p, l[k] = p := ⟨_, rfl⟩
      rcases h1 with rfl | ⟨g1, rfl, r1⟩
      · simp at hlt
      rcases h2 with rfl | ⟨g2, rfl, r2⟩
      · simp at hlt
      obtain ⟨a0, a1, a2, a3⟩ := row_sl (r1.below HB.out) hlt
      obtain ⟨b0, b1, b2, b3⟩ := row_sl (r2.below HB.out) hlt
      rw [hp] at a0 a1 a2 a3 b0 b1 b2 b3
      have R1 := Lib.hid r1
      have R2 := Lib.hid r2
      clear hp r1 r2
      obtain ⟨x, y, q, sk⟩ := p
      dsimp only at a0 a1 a2 a3 b0 b1 b2 b3
      have i1 : (0 : Int) ≤ (k : Int) := by omega
      have i2 : (k : Int) < (l.length : Int) := by omega
      go_wp2_with fail
      go_quiet (fail)
      go_wp2_with fail
      go_roundw
      case rel => exact ⟨k + 1, by omega, by go_num, HB.out.drawN _⟩
      case measure => simp [intOf]; omega
    · go_wp2_with fail
      go_ret
      exact ⟨rfl, HB.out⟩

set_option maxHeartbeats 2000000 in
theorem samePanel_any (PW PH : Int) (A1 A2 : Option Addr) (c1 c2 : Nat) (l : List Sl) (hl : l.length ≤ 2000000) (w : World) (h1 : Reads Sl.cells (.slice A1 l.length c1) l w) (h2 : Reads Sl.cells (.slice A2 l.length c2) l w) :
    Calls Try.prog 35 #[pan PW PH A1 l.length c1, pan PW PH A2 l.length c2] w fun e w' => e = .returned (.bool true) ∧ Below w.heap.size w w' := by
  have H1 := Lib.hid h1
  have H2 := Lib.hid h2
  clear h1 h2
  go_enter Try.func35, Try.ntmps35
  go_wp2_with fail
  have hb : Below w.heap.size w ((w.alloc (Obj.cells #[.int .i64 PW, .int .i64 PH, .slice A1 l.length c1] 32)).alloc (Obj.cells #[.int .i64 PW, .int .i64 PH, .slice A2 l.length c2] 32)) := ((Below.refl _ _).alloc (Nat.le_refl _) _).alloc (by simp) _
  refine (equalSl_any l hl _ _ _ (H1.out.below hb) (H2.out.below hb)).mono ?_
  rintro e w1 ⟨rfl, b1⟩
  have HB := Lib.hid (hb.then_below b1 hb.size)
  clear b1 hb
  go_wp2_with fail
  go_ret
  exact ⟨rfl, HB.out⟩
end Go.Proofs.Ytiehkcbjfamnkaa
