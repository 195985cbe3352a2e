/-
  The checks of points: the program's, and the reference's.
-/
import Derived.Test.YtiooimfkobjpkaaGreatDoorTpA
namespace Go.Proofs.YtiooimfkobjpkaaGreatDoor
open Go.RowKit
set_option linter.unusedSimpArgs false
set_option linter.unusedVariables false

def okPt (p : Int × Int) : Bool := crd p.1 && crd p.2
theorem okPt_spec {p : Int × Int} (h : okPt p = true) : (-500000 ≤ p.1 ∧ p.1 ≤ 500000) ∧ (-500000 ≤ p.2 ∧ p.2 ≤ 500000) := by
  unfold okPt at h
  rw [Bool.and_eq_true] at h
  exact ⟨crd_spec h.1, crd_spec h.2⟩
theorem row_pt {w : World} {g : Nat} {l : List (Int × Int)} (h : LineAt w g (l.flatMap encP)) {k : Nat} (hk : k < l.length) :
    w.cell? ⟨g, k * 2, none⟩ = some (.int .i64 l[k].1) ∧ w.cell? ⟨g, k * 2 + 1, none⟩ = some (.int .i64 l[k].2) := by
  have e := fun j (hj : j < 2) => flatK_at encP 2 (fun _ => rfl) l k hk j hj
  exact ⟨h.2 _ _ (e 0 (by omega)), h.2 _ _ (e 1 (by omega))⟩
theorem flatPt_len (l : List (Int × Int)) : (l.flatMap encP).length = l.length * 2 := by
  induction l with
  | nil => rfl
  | cons x l ih => rw [List.flatMap_cons, List.length_append, ih, List.length_cons]; simp [encP]; omega
/-- What is wrong with points, of which there may be so many. -/
def ptsE (l : List (Int × Int)) : Int := if l.all okPt = true then 0 else 1
def ptsErr (most : Int) (l : List (Int × Int)) : Int := if most < (l.length : Int) then 2 else ptsE l
theorem ptsErr_ok {most : Int} {l : List (Int × Int)} (h : ptsErr most l = 0) : (l.length : Int) ≤ most ∧ ∀ p ∈ l, okPt p = true := by
  unfold ptsErr ptsE at h
  split at h
  · cases h
  split at h
  · rename_i h1 h2
    exact ⟨by omega, fun p hp => List.all_eq_true.mp h2 p hp⟩
  · cases h
/-- How far it is. -/
def apart (a b : Int × Int) : Int := max (a.1 - b.1) (max (b.1 - a.1) (max (a.2 - b.2) (b.2 - a.2)))
theorem apart_bd {a b : Int × Int} (ha : okPt a = true) (hb : okPt b = true) : 0 ≤ apart a b ∧ apart a b ≤ 1000000 := by
  obtain ⟨h1, h2⟩ := okPt_spec ha
  obtain ⟨h3, h4⟩ := okPt_spec hb
  unfold apart
  omega
theorem max_if (x y : Int) : (if x < y then y else x) = max x y := by
  split <;> omega
theorem run_max_int4 {P : Program} (w : World) (ts : Array TypeId) (t : TypeId) (k k' k'' k3 : IntKind) (x y z u : Int) : (Builtin.max_ ts t #[.int k x, .int k' y, .int k'' z, .int k3 u]).run P w = .ok (.int k (max (max (max x y) z) u)) w := by
  rw [← max_if, ← max_if, ← max_if]
  simp [Builtin.max_, Builtin.max2]
attribute [local go_sem] run_max_int4

/-- The index of the first point that is beyond, or -1. -/
def bIdx : List (Int × Int) → Nat → Int
  | [], _ => -1
  | p :: l, k => if okPt p = false then k else bIdx l (k + 1)
theorem bIdx_spec (l : List (Int × Int)) : ∀ k, decide (0 ≤ bIdx l k) = !(l.all okPt) := by
  induction l with
  | nil => intro k; rfl
  | cons p l ih =>
    intro k
    unfold bIdx
    rw [List.all_cons]
    cases h : okPt p
    · simp
    · simp only [Bool.true_and]
      rw [if_neg (by simp)]
      exact ih _

/-! ### The reference's -/
set_option maxHeartbeats 400000 in
theorem in1_any (n lo hi : Int) (w : World) : Calls Tryz.prog 22 #[.int .i64 n, .int .i64 lo, .int .i64 hi] w fun e w' => e = .returned (.bool (decide (lo ≤ n) && decide (n ≤ hi))) ∧ w = w' := by
  by_cases h1 : lo ≤ n <;> by_cases h2 : n ≤ hi
  all_goals
    go_enter Tryz.func22, Tryz.ntmps22
    go_wp2
    go_ret
    exact ⟨by simp [h1, h2], rfl⟩
theorem ptsE_drop (l : List (Int × Int)) {k : Nat} (hk : k < l.length) : ptsE (l.drop k) = if okPt l[k] = false then 1 else ptsE (l.drop (k + 1)) := by
  rw [drop_at l hk]
  unfold ptsE
  rw [List.all_cons]
  cases okPt l[k]
  · rfl
  · rw [Bool.true_and, if_neg (by simp : ¬ (true = false))]
/-! ### Distances -/
/-- What Distance returns. -/
def distE (a b : Int × Int) : Int := if okPt a = true ∧ okPt b = true then 0 else 1
def distV (a b : Int × Int) : Int := if okPt a = true ∧ okPt b = true then apart a b else 0
theorem distE_ptsE (a b : Int × Int) : ptsE [a, b] = distE a b := by
  unfold ptsE distE
  rw [List.all_cons, List.all_cons, List.all_nil]
  cases okPt a <;> cases okPt b <;> rfl
end Go.Proofs.YtiooimfkobjpkaaGreatDoor
