/-
  The walks of the functions on points: the program's, and the reference's.
-/
import Derived.Test.YtjmjmijjdgolfaaBase
namespace Go.Proofs.Ytjmjmijjdgolfaa
open Go.RowKit

theorem _root_.Go.RowKit.Below.drawN {B : Nat} {a w : World} (h : Below B a w) (n : Nat) : Below B a (w.drewN n) := { os := h.os, tape := h.tape, output := h.output, size := h.size, block := h.block }
/-- What a later part leaves alone below its own beginning is left alone below an earlier one. -/
theorem _root_.Go.RowKit.Below.then_below {B : Nat} {a b w : World} (h : Below B a b) (k : Below b.heap.size b w) (hB : B ≤ b.heap.size := by simp) : Below B a w := h.trans (k.mono hB)
theorem _root_.Go.RowKit.Below.ext {a b w : World} (h : Below a.heap.size a b) (k : Below b.heap.size b w) : Below a.heap.size a w := h.trans (k.mono h.size)
theorem blk_below {a w : World} (h : Below a.heap.size a w) {g : Nat} {o : Obj} (hg : a.heap[g]? = some o) : w.heap[g]? = some o := (h.block g (lt_of_blk hg)).trans hg

abbrev i (n : Int) : Value := .int .i64 n

set_option maxHeartbeats 400000 in
theorem within_any (n lo hi : Int) (w : World) :
    Calls Try.prog 68 #[.int .i64 n, .int .i64 lo, .int .i64 hi] w fun e w' => e = .returned (.bool (decide (lo ≤ n) && decide (n ≤ hi))) ∧ w = w' := by
  by_cases h : lo ≤ n <;> by_cases h2 : n ≤ hi
  all_goals
    go_enter Try.func68, Try.ntmps68
    go_wp2
    go_ret
    exact ⟨by simp [h, h2], rfl⟩
set_option maxHeartbeats 400000 in
theorem in_any (n lo hi : Int) (w : World) :
    Calls Try.prog 61 #[.int .i64 n, .int .i64 lo, .int .i64 hi] w fun e w' => e = .returned (.bool (decide (lo ≤ n) && decide (n ≤ hi))) ∧ w = w' := by
  by_cases h : lo ≤ n <;> by_cases h2 : n ≤ hi
  all_goals
    go_enter Try.func61, Try.ntmps61
    go_wp2
    go_ret
    exact ⟨by simp [h, h2], rfl⟩
/-- A coordinate. -/
def crd (n : Int) : Bool := decide (-500000 ≤ n) && decide (n ≤ 500000)
theorem crd_spec {n : Int} (h : crd n = true) : -500000 ≤ n ∧ n ≤ 500000 := by simpa [crd] using h
/-- A difference of coordinates. -/
def dif (n : Int) : Prop := -1000000 ≤ n ∧ n ≤ 1000000

theorem tdiv_of_neg {a b : Int} (hb : 1 ≤ b) (h : a.tmod b < 0) : a.tdiv b - 1 = a / b := by
  have h1 := Int.emod_nonneg a (show b ≠ 0 by omega)
  rw [Int.tmod_eq_emod] at h
  rw [Int.tdiv_eq_ediv]
  split at h
  · omega
  · rw [if_neg ‹_›, Int.sign_eq_one_of_pos (by omega)]; omega
theorem tdiv_of_pos {a b : Int} (hb : 1 ≤ b) (h : ¬ a.tmod b < 0) : a.tdiv b = a / b := by
  have h2 := Int.emod_lt_of_pos a (show 0 < b by omega)
  rw [Int.tmod_eq_emod] at h
  rw [Int.tdiv_eq_ediv]
  split at h
  · rw [if_pos ‹_›]; omega
  · have := Int.natAbs_of_nonneg (show 0 ≤ b by omega)
    omega
theorem div_bd {a b B : Int} (hb : 1 ≤ b) (h1 : -B ≤ a) (h2 : a ≤ B) (hB : 0 ≤ B) : -B ≤ a / b ∧ a / b ≤ B := by
  constructor
  · rw [Int.le_ediv_iff_mul_le (by omega)]
    have h3 : 0 ≤ B * (b - 1) := Int.mul_nonneg hB (by omega)
    have h4 : B * (b - 1) = B * b - B := by rw [Int.mul_sub, Int.mul_one]
    rw [Int.neg_mul]
    omega
  · rcases Int.le_total 0 a with h | h
    · exact Int.le_trans (Int.ediv_le_self _ h) h2
    · have h3 : a / b < 1 := by
        rw [Int.ediv_lt_iff_lt_mul (by omega)]
        omega
      omega

/-- Rounded to the nearest integer, halves up. -/
def near (n b : Int) : Int := (2 * n + b) / (2 * b)

theorem near_split (n b : Int) (hb : 1 ≤ b) : near n b = (2 * (n % b) + b) / (2 * b) + n / b := by
  unfold near
  have h := Int.mul_ediv_add_emod n b
  have e : 2 * n + b = (2 * (n % b) + b) + (2 * b) * (n / b) := by
    rw [Int.mul_assoc]; omega
  rw [e, Int.add_mul_ediv_left _ _ (by omega)]
theorem near_up {n b : Int} (hb : 1 ≤ b) (h : n % b ≥ b - n % b) : n / b + 1 = near n b := by
  have h1 := Int.emod_lt_of_pos n (show 0 < b by omega)
  rw [near_split n b hb]
  have e : 2 * (n % b) + b = (2 * (n % b) - b) + (2 * b) * 1 := by omega
  have z : (2 * (n % b) - b) / (2 * b) = 0 := Int.ediv_eq_zero_of_lt (by omega) (by omega)
  rw [e, Int.add_mul_ediv_left _ _ (by omega), z]
  omega
theorem near_dn {n b : Int} (hb : 1 ≤ b) (h : ¬ n % b ≥ b - n % b) : n / b = near n b := by
  have h1 := Int.emod_nonneg n (show b ≠ 0 by omega)
  have z : (2 * (n % b) + b) / (2 * b) = 0 := Int.ediv_eq_zero_of_lt (by omega) (by omega)
  rw [near_split n b hb, z]
  omega

/-- A fraction in lowest terms. -/
def low (a b : Int) : Value := .agg #[.int .i64 (a / Int.gcd a b), .int .i64 (b / Int.gcd a b)]

theorem gcd_step (c r : Int) : Int.gcd r (c % r) = Int.gcd c r := by
  have h := Int.gcd_add_mul_right_right r (c % r) (c / r)
  rw [show c % r + c / r * r = c from by rw [Int.add_comm, Int.mul_comm]; exact Int.mul_ediv_add_emod c r] at h
  rw [← h, Int.gcd_comm]

end Go.Proofs.Ytjmjmijjdgolfaa
