/-
  The walks of equality of equal slices of spots and of needs.
-/
import Derived.Test.YtopnadilfjakiaaSpot
namespace Go.Proofs.Ytopnadilfjakiaa
open Go.RowKit

set_option maxHeartbeats 2000000 in
theorem equalSp_any (l : List Sp) (hl : l.length ≤ 2000000) (v1 v2 : Value) (w : World) (h1 : Reads Sp.cells v1 l w) (h2 : Reads Sp.cells v2 l w) :
    Calls Try.prog 22 #[v1, v2] w fun e w' => e = .returned (.bool true) ∧ Below w.heap.size w w' := by
  obtain ⟨A1, c1, rfl, h1⟩ := h1
  obtain ⟨A2, c2, rfl, h2⟩ := h2
  go_enter Try.func22, Try.ntmps22
  go_wp2_with fail
  go_loopw [13] (fun kk wr => ∃ k : Nat, k ≤ l.length ∧ kk = .int .i64 k ∧ Hid (Below w.heap.size w wr)) (fun kk _ => l.length - (intOf kk).toNat)
  case atStart => exact ⟨0, by omega, rfl, Below.refl _ _⟩
  case round =>
    obtain ⟨k, hk, rfl, HB⟩ := hrel
    by_cases hlt : k < l.length
    · obtain ⟨p, hp⟩ : ∃ p, l[k] = p := ⟨_, rfl⟩
      rcases h1 with rfl | ⟨g1, rfl, r1⟩
      · simp at hlt
      rcases h2 with rfl | ⟨g2, rfl, r2⟩
      · simp at hlt
      have e := fun j (hj : j < 5) => flatK_at Sp.cells 5 (fun _ => rfl) l k hlt j hj
      rw [hp] at e
      obtain ⟨x0, x1, x2, x3, x4⟩ := p
      have a0 : wr.cell? ⟨g1, k * 5, none⟩ = some (.int .i64 x0) := (r1.below HB.out).2 _ _ (e 0 (by omega))
      have a1 : wr.cell? ⟨g1, k * 5 + 1, none⟩ = some (.string x1) := (r1.below HB.out).2 _ _ (e 1 (by omega))
      have a2 : wr.cell? ⟨g1, k * 5 + 2, none⟩ = some (.int .i64 x2) := (r1.below HB.out).2 _ _ (e 2 (by omega))
      have a3 : wr.cell? ⟨g1, k * 5 + 3, none⟩ = some (.int .i64 x3) := (r1.below HB.out).2 _ _ (e 3 (by omega))
      have a4 : wr.cell? ⟨g1, k * 5 + 4, none⟩ = some (.int .i64 x4) := (r1.below HB.out).2 _ _ (e 4 (by omega))
      have b0 : wr.cell? ⟨g2, k * 5, none⟩ = some (.int .i64 x0) := (r2.below HB.out).2 _ _ (e 0 (by omega))
      have b1 : wr.cell? ⟨g2, k * 5 + 1, none⟩ = some (.string x1) := (r2.below HB.out).2 _ _ (e 1 (by omega))
      have b2 : wr.cell? ⟨g2, k * 5 + 2, none⟩ = some (.int .i64 x2) := (r2.below HB.out).2 _ _ (e 2 (by omega))
      have b3 : wr.cell? ⟨g2, k * 5 + 3, none⟩ = some (.int .i64 x3) := (r2.below HB.out).2 _ _ (e 3 (by omega))
      have b4 : wr.cell? ⟨g2, k * 5 + 4, none⟩ = some (.int .i64 x4) := (r2.below HB.out).2 _ _ (e 4 (by omega))
      have R1 := Lib.hid r1
      have R2 := Lib.hid r2
      clear e hp r1 r2
      have i1 : (0 : Int) ≤ (k : Int) := by omega
      have i2 : (k : Int) < (l.length : Int) := by omega
      go_wp2_with fail
      go_quiet (fail)
      go_wp2_with fail
      go_roundw
      case rel => exact ⟨k + 1, by omega, by go_num, HB.out.drawN _⟩
      case measure => simp [intOf]; omega
    · go_wp2_with fail
      go_ret
      exact ⟨rfl, HB.out⟩

def encNd (x : List UInt8 × Int) : List Value := [encStr x.1, .int .i64 x.2]
set_option maxHeartbeats 2000000 in
theorem equalNeed_any (l : List (List UInt8 × Int)) (hl : l.length ≤ 2000000) (v1 v2 : Value) (w : World) (h1 : Reads encNd v1 l w) (h2 : Reads encNd v2 l w) :
    Calls Try.prog 21 #[v1, v2] w fun e w' => e = .returned (.bool true) ∧ Below w.heap.size w w' := by
  obtain ⟨A1, c1, rfl, h1⟩ := h1
  obtain ⟨A2, c2, rfl, h2⟩ := h2
  go_enter Try.func21, Try.ntmps21
  go_wp2_with fail
  go_loopw [13] (fun kk wr => ∃ k : Nat, k ≤ l.length ∧ kk = .int .i64 k ∧ Hid (Below w.heap.size w wr)) (fun kk _ => l.length - (intOf kk).toNat)
  case atStart => exact ⟨0, by omega, rfl, Below.refl _ _⟩
  case round =>
    obtain ⟨k, hk, rfl, HB⟩ := hrel
    by_cases hlt : k < l.length
    · obtain ⟨p, hp⟩ : ∃ p, l[k] = p := ⟨_, rfl⟩
      rcases h1 with rfl | ⟨g1, rfl, r1⟩
      · simp at hlt
      rcases h2 with rfl | ⟨g2, rfl, r2⟩
      · simp at hlt
      have e := fun j (hj : j < 2) => flatK_at encNd 2 (fun _ => rfl) l k hlt j hj
      rw [hp] at e
      obtain ⟨x0, x1⟩ := p
      obtain ⟨sb, hsb⟩ : ∃ b, encStr x0 = .string b := ⟨_, rfl⟩
      have a0 : wr.cell? ⟨g1, k * 2, none⟩ = some (encStr x0) := (r1.below HB.out).2 _ _ (e 0 (by omega))
      have a1 : wr.cell? ⟨g1, k * 2 + 1, none⟩ = some (.int .i64 x1) := (r1.below HB.out).2 _ _ (e 1 (by omega))
      have b0 : wr.cell? ⟨g2, k * 2, none⟩ = some (encStr x0) := (r2.below HB.out).2 _ _ (e 0 (by omega))
      have b1 : wr.cell? ⟨g2, k * 2 + 1, none⟩ = some (.int .i64 x1) := (r2.below HB.out).2 _ _ (e 1 (by omega))
      rw [hsb] at a0 b0
      have R1 := Lib.hid r1
      have R2 := Lib.hid r2
      clear e hp hsb r1 r2
      have i1 : (0 : Int) ≤ (k : Int) := by omega
      have i2 : (k : Int) < (l.length : Int) := by omega
      go_wp2_with fail
      go_quiet (fail)
      go_wp2_with fail
      go_roundw
      case rel => exact ⟨k + 1, by omega, by go_num, HB.out.drawN _⟩
      case measure => simp [intOf]; omega
    · go_wp2_with fail
      go_ret
      exact ⟨rfl, HB.out⟩

end Go.Proofs.Ytopnadilfjakiaa
