/-
  The walk of keys.
-/
import Derived.Test.YtjmjmijjdgolfaaPt
namespace Go.Proofs.Ytjmjmijjdgolfaa
open Go.RowKit

def smallB (b : Int) : Bool := decide (97 ≤ b) && decide (b ≤ 122)
def digitB (b : Int) : Bool := decide (48 ≤ b) && decide (b ≤ 57)
def keyByte (b : Int) : Bool := smallB b || digitB b || !(b != 45) || !(b != 95)
/-- A key. -/
def keyL : List UInt8 → Bool
  | [] => false
  | b :: l => decide (l.length + 1 ≤ 40) && smallB b.toNat && (b :: l).all fun x => keyByte x.toNat
def keyB (s : ByteArray) : Bool := keyL s.data.toList

set_option maxHeartbeats 400000 in
theorem small_any (n : Int) (w : World) : Calls Try.prog 93 #[.int .u8 n] w fun e w' => e = .returned (.bool (smallB n)) ∧ w = w' := by
  by_cases h : 97 ≤ n <;> by_cases h2 : n ≤ 122
  all_goals
    go_enter Try.func93, Try.ntmps93
    go_wp2
    go_ret
    exact ⟨by simp [smallB, h, h2], rfl⟩
set_option maxHeartbeats 400000 in
theorem digit_any (n : Int) (w : World) : Calls Try.prog 94 #[.int .u8 n] w fun e w' => e = .returned (.bool (digitB n)) ∧ w = w' := by
  by_cases h : 48 ≤ n <;> by_cases h2 : n ≤ 57
  all_goals
    go_enter Try.func94, Try.ntmps94
    go_wp2
    go_ret
    exact ⟨by simp [digitB, h, h2], rfl⟩

theorem keyB_empty (s : ByteArray) (h : s.size = 0) : keyB s = false := by
  unfold keyB
  rw [show s.data.toList = [] by have : s.data.toList.length = 0 := by simpa using h
                                 exact List.length_eq_zero_iff.mp this]
  rfl
theorem keyB_some (s : ByteArray) (h : 0 < s.size) : keyB s = (decide (s.size ≤ 40) && smallB ((s[0]'h).toNat : Int) && s.data.toList.all fun x => keyByte x.toNat) := by
  have e : s.data.toList = s[0] :: s.data.toList.tail := by
    obtain ⟨⟨l⟩⟩ := s
    cases l with
    | nil => simp [ByteArray.size] at h
    | cons a l => rfl
  have hl : s.data.toList.length = s.size := by simp
  unfold keyB
  rw [e] at hl ⊢
  simp only [keyL]
  rw [show s.data.toList.tail.length + 1 = s.size by simpa using hl]
theorem keyB_all (s : ByteArray) : (s.data.toList.all fun x => keyByte x.toNat) = true ↔ ∀ i (h : i < s.size), keyByte ((s[i]'h).toNat : Int) = true := by
  rw [List.all_eq_true]
  constructor
  · intro h i hi
    exact h _ (by obtain ⟨d⟩ := s; show d[i]'hi ∈ d.toList; simp)
  · intro h x hx
    obtain ⟨j, hj, rfl⟩ := List.getElem_of_mem hx
    exact h j (by simpa using hj)

set_option maxHeartbeats 1000000 in
theorem key_any (s : ByteArray) (w : World) : Calls Try.prog 67 #[.string s] w fun e w' => e = .returned (.bool (keyB s)) ∧ w = w' := by
  by_cases h0 : s.size = 0
  · have HK := Lib.hid (keyB_empty s h0)
    go_enter Try.func67, Try.ntmps67
    go_wp2_with fail
    go_ret
    exact ⟨ret_bool HK.out.symm, rfl⟩
  have hp : 0 < s.size := by omega
  have HK := Lib.hid (keyB_some s hp)
  by_cases h40 : s.size ≤ 40
  rotate_left
  · have HB : Hid (keyB s = false) := HK.out.trans (by simp [h40])
    go_enter Try.func67, Try.ntmps67
    go_wp2_with fail
    go_ret
    exact ⟨ret_bool HB.out.symm, rfl⟩
  obtain ⟨b0, hb0⟩ : ∃ b : Int, ((s[0]'hp).toNat : Int) = b := ⟨_, rfl⟩
  have e1 : ((s.size : Int) == 0) = false := beq_eq_false_iff_ne.mpr (by omega)
  have e2 : decide (40 < (s.size : Int)) = false := decide_eq_false (by omega)
  cases hsm : smallB b0
  · have HB : Hid (keyB s = false) := HK.out.trans (by simp [hb0, hsm])
    go_enter Try.func67, Try.ntmps67
    go_wp2_with fail
    refine (small_any _ _).mono ?_
    rintro e w' ⟨rfl, rfl⟩
    go_wp2_with fail
    go_ret
    exact ⟨ret_bool HB.out.symm, rfl⟩
  have HB : Hid (keyB s = s.data.toList.all fun x => keyByte x.toNat) := HK.out.trans (by simp [h40, hb0, hsm])
  clear HK
  go_enter Try.func67, Try.ntmps67
  go_wp2_with fail
  refine (small_any _ _).mono ?_
  rintro e w' ⟨rfl, rfl⟩
  go_wp2_with fail
  clear hsm hb0 e1 e2
  go_loopw [20] (fun kk wr => ∃ k : Nat, k ≤ s.size ∧ kk = .int .i64 k ∧ w = wr ∧ Hid (∀ j (h : j < s.size), j < k → keyByte ((s[j]'h).toNat : Int) = true)) (fun kk _ => s.size - (intOf kk).toNat)
  case atStart => exact ⟨0, by omega, rfl, rfl, fun j _ h => by omega⟩
  case round =>
    obtain ⟨k, hk, rfl, rfl, HO⟩ := hrel
    by_cases hlt : k < s.size
    · obtain ⟨b, hb⟩ : ∃ b : Int, ((s[k]'hlt).toNat : Int) = b := ⟨_, rfl⟩
      have HBB := Lib.hid hb
      cases h1 : smallB b <;> cases h2 : digitB b <;> cases h3 : (b != 45) <;> cases h4 : (b != 95)
      case false.false.true.true =>
        have HBAD : Hid (keyB s = false) := by
          refine HB.out.trans ?_
          rw [Bool.eq_false_iff]
          intro hc
          have := (keyB_all s).mp hc k hlt
          rw [HBB.out] at this
          unfold keyByte at this
          rw [h1, h2, h3, h4] at this
          cases this
        go_wp2_with fail
        repeat (refine (small_any _ _).mono ?_; rintro e w' ⟨rfl, rfl⟩; go_wp2_with fail)
        repeat (refine (digit_any _ _).mono ?_; rintro e w' ⟨rfl, rfl⟩; go_wp2_with fail)
        go_ret
        exact ⟨ret_bool HBAD.out.symm, rfl⟩
      all_goals
        have HGOOD : Hid (keyByte b = true) := by show keyByte b = true; unfold keyByte; rw [h1, h2, h3, h4]; rfl
        go_wp2_with fail
        repeat (refine (small_any _ _).mono ?_; rintro e w' ⟨rfl, rfl⟩; go_wp2_with fail)
        repeat (refine (digit_any _ _).mono ?_; rintro e w' ⟨rfl, rfl⟩; go_wp2_with fail)
        go_roundw
        case rel => exact ⟨k + 1, by omega, by go_num, by trivial, fun j h hj => by
          by_cases e : j = k
          · subst e; rw [HBB.out]; exact HGOOD.out
          · exact HO.out j h (by omega)⟩
        case measure => simp [intOf]; omega
    · have HALL : Hid (keyB s = true) := by
        refine HB.out.trans ((keyB_all s).mpr fun i hi => HO.out i hi (by omega))
      go_wp2_with fail
      go_ret
      exact ⟨ret_bool HALL.out.symm, rfl⟩
end Go.Proofs.Ytjmjmijjdgolfaa
