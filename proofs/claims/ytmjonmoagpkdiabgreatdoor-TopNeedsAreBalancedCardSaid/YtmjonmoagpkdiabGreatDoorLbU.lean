/-
  Bits of sets: how many a set has, the lowest one.
-/
import Derived.Test.YtmjonmoagpkdiabGreatDoorLbT
import Derived.Test.YtmjonmoagpkdiabGreatDoorLmI
namespace Go.Proofs.YtmjonmoagpkdiabGreatDoor
open Go.RowKit
set_option linter.unusedSimpArgs false
set_option linter.unusedVariables false

def o1 (x : Int) : Int := IntKind.u64.wrap (bits BinOp.and IntKind.u64 (x / 2) 6148914691236517205 + bits BinOp.and IntKind.u64 x 6148914691236517205)
def o2 (y : Int) : Int := IntKind.u64.wrap (bits BinOp.and IntKind.u64 (y / 4) 3689348814741910323 + bits BinOp.and IntKind.u64 y 3689348814741910323)
def o3 (y : Int) : Int := bits BinOp.and IntKind.u64 (IntKind.u64.wrap (y / 16 + y)) 1085102592571150095
def o4 (y : Int) : Int := IntKind.u64.wrap (y + y / 256)
def o5 (y : Int) : Int := IntKind.u64.wrap (y + y / 65536)
def o6 (y : Int) : Int := IntKind.u64.wrap (y + y / 4294967296)
def o7 (y : Int) : Int := bits BinOp.and IntKind.i64 (wrap64 y) 127
def oAll (x : Int) : Int := o7 (o6 (o5 (o4 (o3 (o2 (o1 x))))))
theorem oAll_pop : ∀ x : Nat, x < 4096 → oAll x = (popS 12 x : Int) := by
  have h : ((List.range 4096).all fun x => decide (oAll (x : Int) = (popS 12 x : Int))) = true := by decide +kernel
  intro x hx
  exact of_decide_eq_true (List.all_eq_true.mp h x (List.mem_range.mpr hx))

set_option maxRecDepth 100000 in
set_option maxHeartbeats 4000000 in
theorem onesCount64_any (x : Nat) (hx : x < 4096) (w : World) :
    Calls Tryz.prog 113 #[.int .u64 x] w fun e w' => e = .returned (.int .i64 (popS 12 x)) ∧ w' = w := by
  have H := oAll_pop x hx
  have H2 : Hid (oAll x = (popS 12 x : Int)) := H
  generalize (popS 12 x : Int) = P at *
  clear H
  go_enter Tryz.func113, Tryz.ntmps113
  go_wp2_with fail
  go_ret
  exact ⟨congrArg (fun z => Ending.returned (.int .i64 z)) H2.out, rfl⟩
theorem popS_more : ∀ (L s : Nat), s < 2 ^ L → ∀ d, popS (L + d) s = popS L s
  | 0, s, h, 0 => rfl
  | 0, s, h, d + 1 => by
    obtain rfl : s = 0 := by simpa using h
    have := popS_more 0 0 (by simp) d
    rw [Nat.zero_add] at this
    rw [Nat.zero_add]
    show (if 0 % 2 = 1 then 1 else 0) + popS d (0 / 2) = 0
    rw [Nat.zero_div, this]
    rfl
  | L + 1, s, h, d => by
    rw [show L + 1 + d = L + d + 1 by omega, popS, popS, popS_more L (s / 2) (by rw [Nat.pow_succ] at h; omega) d]
set_option maxHeartbeats 1000000 in
theorem onesCount_any (x : Nat) (hx : x < 4096) (w : World) :
    Calls Tryz.prog 92 #[.int .u64 x] w fun e w' => e = .returned (.int .i64 (popS 12 x)) ∧ w' = w := by
  have C := Lib.hid (onesCount64_any x hx w)
  go_enter Tryz.func92, Tryz.ntmps92
  go_wp2_with fail
  refine C.out.mono ?_
  rintro e w2 ⟨rfl, rfl⟩
  go_wp2_with fail
  go_ret
  exact ⟨rfl, rfl⟩
theorem sumS_low (f : Nat → Int) : ∀ (L s : Nat), s < 2 ^ L → 0 < s → sumS f L s = sumS f L (s &&& (s - 1)) + f (Lib.ctzFrom L s)
  | 0, s, h, h0 => by simp at h; omega
  | L + 1, s, h, h0 => by
    rw [Nat.pow_succ] at h
    rw [sumS, sumS, Lib.ctzFrom]
    by_cases h1 : s % 2 = 1
    · have e1 : s &&& (s - 1) = 2 * (s / 2) := by
        apply Nat.eq_of_testBit_eq
        intro i
        rw [Nat.testBit_and]
        cases i with
        | zero =>
          rw [Nat.testBit_zero, Nat.testBit_zero, Nat.testBit_zero]
          have : (s - 1) % 2 = 0 := by omega
          simp [this]
        | succ i =>
          rw [Nat.testBit_succ, Nat.testBit_succ, Nat.testBit_succ, show (s - 1) / 2 = s / 2 by omega, show 2 * (s / 2) / 2 = s / 2 by omega, Bool.and_self]
      rw [if_pos h1, if_pos h1, e1, if_neg (by omega), show 2 * (s / 2) / 2 = s / 2 by omega]
      omega
    · have e1 : s &&& (s - 1) = 2 * (s / 2 &&& (s / 2 - 1)) := by
        apply Nat.eq_of_testBit_eq
        intro i
        rw [Nat.testBit_and]
        cases i with
        | zero =>
          rw [Nat.testBit_zero, Nat.testBit_zero, Nat.testBit_zero]
          have : s % 2 = 0 := by omega
          simp [this]
        | succ i =>
          rw [Nat.testBit_succ, Nat.testBit_succ, Nat.testBit_succ, show (s - 1) / 2 = s / 2 - 1 by omega, show ∀ z, 2 * z / 2 = z from fun z => by omega, Nat.testBit_and]
      rw [if_neg h1, if_neg h1, e1, if_neg (by omega), show ∀ z, 2 * z / 2 = z from fun z => by omega, sumS_low (fun i => f (i + 1)) L (s / 2) (by omega) (by omega)]
      rw [show 1 + Lib.ctzFrom L (s / 2) = Lib.ctzFrom L (s / 2) + 1 by omega]
      omega
theorem ctz_more : ∀ (L s : Nat), 0 < s → s < 2 ^ L → ∀ d, Lib.ctzFrom (L + d) s = Lib.ctzFrom L s
  | 0, s, h0, h, d => by simp at h; omega
  | L + 1, s, h0, h, d => by
    rw [Nat.pow_succ] at h
    rw [show L + 1 + d = L + d + 1 by omega, Lib.ctzFrom, Lib.ctzFrom]
    split
    · rfl
    · rw [ctz_more L (s / 2) (by omega) (by omega) d]
theorem ctz_lt {L s : Nat} (h0 : 0 < s) (h : s < 2 ^ L) : Lib.ctzFrom L s < L := by
  obtain ⟨_, _, h⟩ := Lib.ctzFrom_spec L s h0 h
  exact h
/-- The table that the lowest bit is looked up in lies in its variable. -/
def Tz (w : World) : Prop := 1 < w.heap.size ∧ TabAt 1 Lib.deBruijn64tab w
theorem Tz.below {w w' : World} (h : Tz w) (hb : Below w.heap.size w w') : Tz w' := ⟨Nat.lt_of_lt_of_le h.1 hb.size, fun j hj => (hb.cell (p := ⟨1, j, none⟩) h.1).trans (h.2 j hj)⟩
theorem trail_any (L x : Nat) (h0 : 0 < x) (hx : x < 2 ^ L) (hL : L ≤ 12) {w : World} (h : Tz w) :
    Calls Tryz.prog 91 #[.int .u64 x] w fun e w' => e = .returned (.int .i64 (Lib.ctzFrom L x)) ∧ w' = w := by
  have h2 : (2 : Nat) ^ L ≤ 2 ^ 12 := Nat.pow_le_pow_right (by omega) hL
  have e : Lib.ctz 64 x = Lib.ctzFrom L x := by
    unfold Lib.ctz
    rw [if_neg (by omega)]
    have := ctz_more L x h0 hx (64 - L)
    rwa [show L + (64 - L) = 64 by omega] at this
  have C := Tryz.bits_TrailingZeros x (by have : (2:Nat) ^ 12 = 4096 := rfl; omega) w (fun _ => h.2)
  rw [e] at C
  exact C
end Go.Proofs.YtmjonmoagpkdiabGreatDoor
