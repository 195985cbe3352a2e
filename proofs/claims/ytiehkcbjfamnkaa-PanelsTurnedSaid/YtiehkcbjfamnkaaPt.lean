/-
  The walks of the functions on points: the program's, and the reference's.
-/
import Derived.Test.YtiehkcbjfamnkaaBase
namespace Go.Proofs.Ytiehkcbjfamnkaa
open Go.RowKit

theorem _root_.Go.RowKit.Below.drawN {B : Nat} {a w : World} (h : Below B a w) (n : Nat) : Below B a (w.drewN n) := { os := h.os, tape := h.tape, output := h.output, size := h.size, block := h.block }
/-- What a later part leaves alone below its own beginning is left alone below an earlier one. -/
theorem _root_.Go.RowKit.Below.then_below {B : Nat} {a b w : World} (h : Below B a b) (k : Below b.heap.size b w) (hB : B ≤ b.heap.size := by simp) : Below B a w := h.trans (k.mono hB)
theorem _root_.Go.RowKit.Below.ext {a b w : World} (h : Below a.heap.size a b) (k : Below b.heap.size b w) : Below a.heap.size a w := h.trans (k.mono h.size)
theorem blk_below {a w : World} (h : Below a.heap.size a w) {g : Nat} {o : Obj} (hg : a.heap[g]? = some o) : w.heap[g]? = some o := (h.block g (lt_of_blk hg)).trans hg

abbrev i (n : Int) : Value := .int .i64 n

set_option maxHeartbeats 400000 in
theorem within_any (n lo hi : Int) (w : World) :
    Calls Try.prog 69 #[.int .i64 n, .int .i64 lo, .int .i64 hi] w fun e w' => e = .returned (.bool (decide (lo ≤ n) && decide (n ≤ hi))) ∧ w = w' := by
  by_cases h : lo ≤ n <;> by_cases h2 : n ≤ hi
  all_goals
    go_enter Try.func69, Try.ntmps69
    go_wp2
    go_ret
    exact ⟨by simp [h, h2], rfl⟩
set_option maxHeartbeats 400000 in
theorem in_any (n lo hi : Int) (w : World) :
    Calls Try.prog 61 #[.int .i64 n, .int .i64 lo, .int .i64 hi] w fun e w' => e = .returned (.bool (decide (lo ≤ n) && decide (n ≤ hi))) ∧ w = w' := by
  by_cases h : lo ≤ n <;> by_cases h2 : n ≤ hi
  all_goals
    go_enter Try.func61, Try.ntmps61
    go_wp2
    go_ret
    exact ⟨by simp [h, h2], rfl⟩
/-- A coordinate. -/
def crd (n : Int) : Bool := decide (-500000 ≤ n) && decide (n ≤ 500000)
theorem crd_spec {n : Int} (h : crd n = true) : -500000 ≤ n ∧ n ≤ 500000 := by simpa [crd] using h
set_option maxHeartbeats 400000 in
theorem vcoord_any (n : Int) (w : World) : Calls Try.prog 110 #[.int .i64 n] w fun e w' => e = .returned (.bool (crd n)) ∧ w = w' := by
  go_enter Try.func110, Try.ntmps110
  go_wp2_with fail
  refine (within_any _ _ _ _).mono ?_
  rintro e w' ⟨rfl, rfl⟩
  go_wp2_with fail
  go_ret
  exact ⟨rfl, rfl⟩

/-- A difference of coordinates. -/
def dif (n : Int) : Prop := -1000000 ≤ n ∧ n ≤ 1000000

set_option maxHeartbeats 400000 in
theorem minus_any (a b c d : Int) (w : World) (h1 : -500000 ≤ a ∧ a ≤ 500000) (h2 : -500000 ≤ b ∧ b ≤ 500000) (h3 : -500000 ≤ c ∧ c ≤ 500000) (h4 : -500000 ≤ d ∧ d ≤ 500000) :
    Calls Try.prog 85 #[.agg #[.int .i64 a, .int .i64 b], .agg #[.int .i64 c, .int .i64 d]] w fun e w' => e = .returned (.agg #[.int .i64 (a - c), .int .i64 (b - d)]) ∧ Below w.heap.size w w' := by
  obtain ⟨_, _⟩ := h1; obtain ⟨_, _⟩ := h2; obtain ⟨_, _⟩ := h3; obtain ⟨_, _⟩ := h4
  go_enter Try.func85, Try.ntmps85
  go_wp2
  refine bodyPost_ret (v := .agg #[.int .i64 (a - c), .int .i64 (b - d)]) (by simp [results, Try.results85, go_sem]) rfl ⟨rfl, ?_⟩
  exact (((Below.refl _ _).alloc (Nat.le_refl _) _).alloc (by simp) _).alloc (by simp; omega) _
set_option maxHeartbeats 400000 in
theorem mirrored_any (a b : Int) (w : World) (h2 : -1000000 ≤ b ∧ b ≤ 1000000) :
    Calls Try.prog 112 #[.agg #[.int .i64 a, .int .i64 b]] w fun e w' => e = .returned (.agg #[.int .i64 a, .int .i64 (-b)]) ∧ Below w.heap.size w w' := by
  obtain ⟨_, _⟩ := h2
  go_enter Try.func112, Try.ntmps112
  go_wp2
  refine bodyPost_ret (v := .agg #[.int .i64 a, .int .i64 (-b)]) (by simp [results, Try.results112, go_sem]) rfl ⟨rfl, ?_⟩
  exact (((Below.refl _ _).alloc (Nat.le_refl _) _).alloc (by simp) _)
set_option maxHeartbeats 400000 in
/-- The products are in range where they are used: told by the caller. -/
theorem times_any (a b c d : Int) (w : World) (h1 : -4000000000000000000 ≤ a * c ∧ a * c ≤ 4000000000000000000) (h2 : -4000000000000000000 ≤ b * d ∧ b * d ≤ 4000000000000000000)
    (h3 : -4000000000000000000 ≤ a * d ∧ a * d ≤ 4000000000000000000) (h4 : -4000000000000000000 ≤ b * c ∧ b * c ≤ 4000000000000000000) :
    Calls Try.prog 111 #[.agg #[.int .i64 a, .int .i64 b], .agg #[.int .i64 c, .int .i64 d]] w fun e w' => e = .returned (.agg #[.int .i64 (a * c - b * d), .int .i64 (a * d + b * c)]) ∧ Below w.heap.size w w' := by
  obtain ⟨_, _⟩ := h1; obtain ⟨_, _⟩ := h2; obtain ⟨_, _⟩ := h3; obtain ⟨_, _⟩ := h4
  go_enter Try.func111, Try.ntmps111
  go_wp2
  refine bodyPost_ret (v := .agg #[.int .i64 (a * c - b * d), .int .i64 (a * d + b * c)]) (by simp [results, Try.results111, go_sem]) rfl ⟨rfl, ?_⟩
  exact (((Below.refl _ _).alloc (Nat.le_refl _) _).alloc (by simp) _).alloc (by simp; omega) _
set_option maxHeartbeats 400000 in
theorem square_any (a b : Int) (w : World) (h1 : 0 ≤ a * a ∧ a * a ≤ 1000000000000) (h2 : 0 ≤ b * b ∧ b * b ≤ 1000000000000) :
    Calls Try.prog 87 #[.agg #[.int .i64 a, .int .i64 b]] w fun e w' => e = .returned (.int .i64 (a * a + b * b)) ∧ Below w.heap.size w w' := by
  obtain ⟨_, _⟩ := h1; obtain ⟨_, _⟩ := h2
  go_enter Try.func87, Try.ntmps87
  go_wp2
  go_ret
  exact ⟨rfl, (Below.refl _ _).alloc (Nat.le_refl _) _⟩
theorem tdiv_of_neg {a b : Int} (hb : 1 ≤ b) (h : a.tmod b < 0) : a.tdiv b - 1 = a / b := by
  have h1 := Int.emod_nonneg a (show b ≠ 0 by omega)
  rw [Int.tmod_eq_emod] at h
  rw [Int.tdiv_eq_ediv]
  split at h
  · omega
  · rw [if_neg ‹_›, Int.sign_eq_one_of_pos (by omega)]; omega
theorem tdiv_of_pos {a b : Int} (hb : 1 ≤ b) (h : ¬ a.tmod b < 0) : a.tdiv b = a / b := by
  have h2 := Int.emod_lt_of_pos a (show 0 < b by omega)
  rw [Int.tmod_eq_emod] at h
  rw [Int.tdiv_eq_ediv]
  split at h
  · rw [if_pos ‹_›]; omega
  · have := Int.natAbs_of_nonneg (show 0 ≤ b by omega)
    omega
theorem div_bd {a b B : Int} (hb : 1 ≤ b) (h1 : -B ≤ a) (h2 : a ≤ B) (hB : 0 ≤ B) : -B ≤ a / b ∧ a / b ≤ B := by
  constructor
  · rw [Int.le_ediv_iff_mul_le (by omega)]
    have h3 : 0 ≤ B * (b - 1) := Int.mul_nonneg hB (by omega)
    have h4 : B * (b - 1) = B * b - B := by rw [Int.mul_sub, Int.mul_one]
    rw [Int.neg_mul]
    omega
  · rcases Int.le_total 0 a with h | h
    · exact Int.le_trans (Int.ediv_le_self _ h) h2
    · have h3 : a / b < 1 := by
        rw [Int.ediv_lt_iff_lt_mul (by omega)]
        omega
      omega

set_option maxHeartbeats 400000 in
theorem floor_any (a b : Int) (w : World) (hb : 1 ≤ b) (hb' : b ≤ 9000000000000000000) (ha : -9000000000000000000 ≤ a) (ha' : a ≤ 9000000000000000000) :
    Calls Try.prog 89 #[.int .i64 a, .int .i64 b] w fun e w' => e = .returned (.int .i64 (a / b)) ∧ w = w' := by
  obtain ⟨d1, d2⟩ := div_bd hb ha ha' (by omega)
  by_cases h : a.tmod b < 0
  · have hd := tdiv_of_neg hb h
    have hl : -9000000000000000001 ≤ a.tdiv b := by omega
    have hu : a.tdiv b ≤ 9000000000000000001 := by omega
    have HD := Lib.hid hd
    clear hd d1 d2
    go_enter Try.func89, Try.ntmps89
    go_wp2
    go_ret
    exact ⟨ret_int HD.out, rfl⟩
  · have hd := tdiv_of_pos hb h
    have HD := Lib.hid hd
    clear hd d1 d2
    go_enter Try.func89, Try.ntmps89
    go_wp2
    go_ret
    exact ⟨ret_int HD.out, rfl⟩

/-- Rounded to the nearest integer, halves up. -/
def near (n b : Int) : Int := (2 * n + b) / (2 * b)

theorem near_split (n b : Int) (hb : 1 ≤ b) : near n b = (2 * (n % b) + b) / (2 * b) + n / b := by
  unfold near
  have h := Int.mul_ediv_add_emod n b
  have e : 2 * n + b = (2 * (n % b) + b) + (2 * b) * (n / b) := by
    rw [Int.mul_assoc]; omega
  rw [e, Int.add_mul_ediv_left _ _ (by omega)]
theorem near_up {n b : Int} (hb : 1 ≤ b) (h : n % b ≥ b - n % b) : n / b + 1 = near n b := by
  have h1 := Int.emod_lt_of_pos n (show 0 < b by omega)
  rw [near_split n b hb]
  have e : 2 * (n % b) + b = (2 * (n % b) - b) + (2 * b) * 1 := by omega
  have z : (2 * (n % b) - b) / (2 * b) = 0 := Int.ediv_eq_zero_of_lt (by omega) (by omega)
  rw [e, Int.add_mul_ediv_left _ _ (by omega), z]
  omega
theorem near_dn {n b : Int} (hb : 1 ≤ b) (h : ¬ n % b ≥ b - n % b) : n / b = near n b := by
  have h1 := Int.emod_nonneg n (show b ≠ 0 by omega)
  have z : (2 * (n % b) + b) / (2 * b) = 0 := Int.ediv_eq_zero_of_lt (by omega) (by omega)
  rw [near_split n b hb, z]
  omega

set_option maxHeartbeats 400000 in
theorem nearest_any (n b : Int) (w : World) (hb : 1 ≤ b) (hb' : b ≤ 4000000000000000000) (ha : -4000000000000000000 ≤ n) (ha' : n ≤ 4000000000000000000) :
    Calls Try.prog 114 #[.int .i64 n, .int .i64 b] w fun e w' => e = .returned (.int .i64 (near n b)) ∧ Below w.heap.size w w' := by
  obtain ⟨d1, d2⟩ := div_bd hb ha ha' (by omega)
  have m1 := Int.emod_nonneg n (show b ≠ 0 by omega)
  have m2 := Int.emod_lt_of_pos n (show 0 < b by omega)
  by_cases h : n.tmod b < 0
  · have hd := tdiv_of_neg hb h
    have hm := tmod_neg hb h
    by_cases hu : n % b ≥ b - n % b
    · have hn := near_up hb hu
      go_enter Try.func114, Try.ntmps114
      go_wp2_with fail
      go_quiet (fail)
      go_wp2_with fail
      go_ret
      exact ⟨rfl, (Below.refl _ _).drawN _⟩
    · have hn := near_dn hb hu
      go_enter Try.func114, Try.ntmps114
      go_wp2_with fail
      go_quiet (fail)
      go_wp2_with fail
      go_ret
      exact ⟨rfl, (Below.refl _ _).drawN _⟩
  · have hd := tdiv_of_pos hb h
    have hm := tmod_pos hb h
    by_cases hu : n % b ≥ b - n % b
    · have hn := near_up hb hu
      go_enter Try.func114, Try.ntmps114
      go_wp2_with fail
      go_quiet (fail)
      go_wp2_with fail
      go_ret
      exact ⟨rfl, (Below.refl _ _).drawN _⟩
    · have hn := near_dn hb hu
      go_enter Try.func114, Try.ntmps114
      go_wp2_with fail
      go_quiet (fail)
      go_wp2_with fail
      go_ret
      exact ⟨rfl, (Below.refl _ _).drawN _⟩

set_option maxHeartbeats 400000 in
theorem cby_any (n c : Int) (a : Addr) (w : World) (hc : w.cell? a = some (.int .i64 c)) (h1 : 1 ≤ c) (h2 : c ≤ 2000000000000) (h3 : -4000000000000000000 ≤ n) (h4 : n ≤ 4000000000000000000) :
    Calls Try.prog 88 #[.int .i64 n, .pointer (some a)] w fun e w' => e = .returned (.int .i64 (near n c)) ∧ w = w' := by
  have hn : near n c = (2 * n + c) / (2 * c) := rfl
  have HN := Lib.hid hn
  clear hn
  go_enter Try.func88, Try.ntmps88
  go_wp2_with fail
  refine (floor_any _ _ _ (by omega) (by omega) (by omega) (by omega)).mono ?_
  rintro e w' ⟨rfl, rfl⟩
  go_wp2_with fail
  go_ret
  exact ⟨ret_int HN.out.symm, rfl⟩

/-- A fraction in lowest terms. -/
def low (a b : Int) : Value := .agg #[.int .i64 (a / Int.gcd a b), .int .i64 (b / Int.gcd a b)]

theorem gcd_step (c r : Int) : Int.gcd r (c % r) = Int.gcd c r := by
  have h := Int.gcd_add_mul_right_right r (c % r) (c / r)
  rw [show c % r + c / r * r = c from by rw [Int.add_comm, Int.mul_comm]; exact Int.mul_ediv_add_emod c r] at h
  rw [← h, Int.gcd_comm]

set_option maxHeartbeats 400000 in
theorem lowest_any (a b : Int) (w : World) (ha : 0 ≤ a) (ha' : a ≤ 4000000000000000000) (hb : 1 ≤ b) (hb' : b ≤ 4000000000000000000) :
    Calls Try.prog 86 #[.int .i64 a, .int .i64 b] w fun e w' => e = .returned (low a b) ∧ Below w.heap.size w w' := by
  go_enter Try.func86, Try.ntmps86
  go_wp2_with fail
  go_loopw [5, 6] (fun c r wr => ∃ x y : Int, c = .int .i64 x ∧ r = .int .i64 y ∧ 0 ≤ x ∧ 0 ≤ y ∧ x ≤ 4000000000000000000 ∧ y ≤ 4000000000000000000 ∧ Hid (Int.gcd x y = Int.gcd a b) ∧
      Hid (1 ≤ x + y) ∧ Below w.heap.size w wr ∧ wr.cell? ⟨w.heap.size, 0, none⟩ = some (.int .i64 0) ∧ wr.cell? ⟨w.heap.size, 1, none⟩ = some (.int .i64 0) ∧ wr.frozen? ⟨w.heap.size, 0, none⟩ = false ∧ wr.frozen? ⟨w.heap.size, 1, none⟩ = false ∧ w.heap.size < wr.heap.size) (fun _ r _ => (intOf r).toNat)
  case atStart => exact ⟨b, a, rfl, rfl, by omega, ha, hb', ha', Int.gcd_comm _ _, by show 1 ≤ b + a; omega, (Below.refl _ _).alloc (Nat.le_refl _) _, by go_simp, by go_simp, by go_simp, by go_simp, by simp⟩
  case round =>
    obtain ⟨x, y, rfl, rfl, hx, hy, hx', hy', HG, HS, hbl, c0, c1, f0, f1, hsz⟩ := hrel
    by_cases hz : y = 0
    · subst hz
      have h1 : 1 ≤ x := by have := HS.out; omega
      have hg : (Int.gcd a b : Int) = x := by
        have := HG.out
        rw [Int.gcd_zero_right] at this
        omega
      have HGG := Lib.hid hg
      clear hg
      go_wp2_with fail
      go_region
      go_wp2_with fail
      refine bodyPost_ret (v := .agg #[.int .i64 (a / x), .int .i64 (b / x)]) (by unfold results; simp only [Try.results86]; go_simp) rfl ⟨by rw [low, HGG.out], ?_⟩
      exact ((hbl.setCell (Nat.le_refl _) _).setCell (Nat.le_refl _) _).drew
    · have h1 : 1 ≤ y := by omega
      have m1 := Int.emod_nonneg x (show y ≠ 0 by omega)
      have m2 := Int.emod_lt_of_pos x (show 0 < y by omega)
      go_wp2_with fail
      go_quiet (fail)
      go_wp2_with fail
      go_roundw
      case rel => exact ⟨y, x % y, rfl, rfl, hy, m1, hy', by omega, (gcd_step x y).trans HG.out, by show 1 ≤ y + x % y; omega, hbl.drawN _, by go_simp, by go_simp, by go_simp, by go_simp, by simpa using hsz⟩
      case measure => simp [intOf]; omega

set_option maxHeartbeats 400000 in
theorem divisor_any (a b : Int) (w : World) (ha : 0 ≤ a) (ha' : a ≤ 4000000000000000000) (hb : 1 ≤ b) (hb' : b ≤ 4000000000000000000) :
    Calls Try.prog 115 #[.int .i64 a, .int .i64 b] w fun e w' => e = .returned (.int .i64 (Int.gcd a b)) ∧ Below w.heap.size w w' := by
  go_enter Try.func115, Try.ntmps115
  go_wp2_with fail
  go_loopw [0, 1] (fun c r wr => ∃ x y : Int, c = .int .i64 x ∧ r = .int .i64 y ∧ 0 ≤ x ∧ 0 ≤ y ∧ x ≤ 4000000000000000000 ∧ y ≤ 4000000000000000000 ∧ Hid (Int.gcd x y = Int.gcd a b) ∧
      Hid (1 ≤ x + y) ∧ Below w.heap.size w wr) (fun _ r _ => (intOf r).toNat)
  case atStart => exact ⟨a, b, rfl, rfl, ha, by omega, ha', hb', rfl, by show 1 ≤ a + b; omega, Below.refl _ _⟩
  case round =>
    obtain ⟨x, y, rfl, rfl, hx, hy, hx', hy', HG, HS, hbl⟩ := hrel
    by_cases hz : y = 0
    · subst hz
      have h1 : 1 ≤ x := by have := HS.out; omega
      have hg : (Int.gcd a b : Int) = x := by
        have := HG.out
        rw [Int.gcd_zero_right] at this
        omega
      have HGG := Lib.hid hg
      clear hg
      go_wp2_with fail
      go_ret
      exact ⟨ret_int HGG.out.symm, hbl⟩
    · have h1 : 1 ≤ y := by omega
      have m1 := Int.emod_nonneg x (show y ≠ 0 by omega)
      have m2 := Int.emod_lt_of_pos x (show 0 < y by omega)
      go_wp2_with fail
      go_quiet (fail)
      go_wp2_with fail
      go_roundw
      case rel => exact ⟨y, x % y, rfl, rfl, hy, m1, hy', by omega, (gcd_step x y).trans HG.out, by show 1 ≤ y + x % y; omega, hbl.drawN _⟩
      case measure => simp [intOf]; omega

set_option maxHeartbeats 400000 in
theorem qlowest_any (a b : Int) (w : World) (ha : 0 ≤ a) (ha' : a ≤ 4000000000000000000) (hb : 1 ≤ b) (hb' : b ≤ 4000000000000000000) :
    Calls Try.prog 91 #[.int .i64 a, .int .i64 b] w fun e w' => e = .returned (low a b) ∧ Below w.heap.size w w' := by
  have hg : 1 ≤ (Int.gcd a b : Int) := by
    have : 0 < Int.gcd a b := Int.gcd_pos_of_ne_zero_right _ (by omega)
    omega
  have hl : low a b = .agg #[.int .i64 (a / Int.gcd a b), .int .i64 (b / Int.gcd a b)] := rfl
  have hd := fun W => divisor_any a b W ha ha' hb hb'
  generalize (Int.gcd a b : Int) = x at *
  have HL := Lib.hid hl
  have HD := Lib.hid hd
  clear hl hd
  go_enter Try.func91, Try.ntmps91
  go_wp2_with fail
  refine (HD.out _).mono ?_
  rintro e w1 ⟨rfl, b1⟩
  have k1 := blk_below b1 (heap_alloc_new w _)
  obtain ⟨c0, c1, f0, f1⟩ := blk2 k1
  have K1 := Lib.hid k1
  clear k1
  go_wp2_with fail
  go_region
  go_wp2_with fail
  refine bodyPost_ret (v := .agg #[.int .i64 (a / x), .int .i64 (b / x)]) (by unfold results; simp only [Try.results91]; go_simp) rfl ⟨by rw [HL.out], ?_⟩
  exact ((((Below.refl _ _).alloc (Nat.le_refl _) _).then_below b1).setCell (Nat.le_refl _) _ |>.setCell (Nat.le_refl _) _).drew
end Go.Proofs.Ytiehkcbjfamnkaa
