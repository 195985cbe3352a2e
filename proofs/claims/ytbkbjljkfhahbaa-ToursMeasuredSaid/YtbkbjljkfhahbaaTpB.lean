/-
  The checks of points: the program's, and the reference's.
-/
import Derived.Test.YtbkbjljkfhahbaaTpA
namespace Go.Proofs.Ytbkbjljkfhahbaa
open Go.RowKit
set_option linter.unusedSimpArgs false
set_option linter.unusedVariables false

def okPt (p : Int × Int) : Bool := crd p.1 && crd p.2
theorem okPt_spec {p : Int × Int} (h : okPt p = true) : (-500000 ≤ p.1 ∧ p.1 ≤ 500000) ∧ (-500000 ≤ p.2 ∧ p.2 ≤ 500000) := by
  unfold okPt at h
  rw [Bool.and_eq_true] at h
  exact ⟨crd_spec h.1, crd_spec h.2⟩
theorem row_pt {w : World} {g : Nat} {l : List (Int × Int)} (h : LineAt w g (l.flatMap encP)) {k : Nat} (hk : k < l.length) :
    w.cell? ⟨g, k * 2, none⟩ = some (.int .i64 l[k].1) ∧ w.cell? ⟨g, k * 2 + 1, none⟩ = some (.int .i64 l[k].2) := by
  have e := fun j (hj : j < 2) => flatK_at encP 2 (fun _ => rfl) l k hk j hj
  exact ⟨h.2 _ _ (e 0 (by omega)), h.2 _ _ (e 1 (by omega))⟩
theorem flatPt_len (l : List (Int × Int)) : (l.flatMap encP).length = l.length * 2 := by
  induction l with
  | nil => rfl
  | cons x l ih => rw [List.flatMap_cons, List.length_append, ih, List.length_cons]; simp [encP]; omega
/-- What is wrong with points, of which there may be so many. -/
def ptsE (l : List (Int × Int)) : Int := if l.all okPt = true then 0 else 1
def ptsErr (most : Int) (l : List (Int × Int)) : Int := if most < (l.length : Int) then 2 else ptsE l
theorem ptsErr_ok {most : Int} {l : List (Int × Int)} (h : ptsErr most l = 0) : (l.length : Int) ≤ most ∧ ∀ p ∈ l, okPt p = true := by
  unfold ptsErr ptsE at h
  split at h
  · cases h
  split at h
  · rename_i h1 h2
    exact ⟨by omega, fun p hp => List.all_eq_true.mp h2 p hp⟩
  · cases h
/-- How far it is. -/
def apart (a b : Int × Int) : Int := max (a.1 - b.1) (max (b.1 - a.1) (max (a.2 - b.2) (b.2 - a.2)))
theorem apart_bd {a b : Int × Int} (ha : okPt a = true) (hb : okPt b = true) : 0 ≤ apart a b ∧ apart a b ≤ 1000000 := by
  obtain ⟨h1, h2⟩ := okPt_spec ha
  obtain ⟨h3, h4⟩ := okPt_spec hb
  unfold apart
  omega
theorem max_if (x y : Int) : (if x < y then y else x) = max x y := by
  split <;> omega
theorem run_max_int4 {P : Program} (w : World) (ts : Array TypeId) (t : TypeId) (k k' k'' k3 : IntKind) (x y z u : Int) : (Builtin.max_ ts t #[.int k x, .int k' y, .int k'' z, .int k3 u]).run P w = .ok (.int k (max (max (max x y) z) u)) w := by
  rw [← max_if, ← max_if, ← max_if]
  simp [Builtin.max_, Builtin.max2]
attribute [local go_sem] run_max_int4

/-- The index of the first point that is beyond, or -1. -/
def bIdx : List (Int × Int) → Nat → Int
  | [], _ => -1
  | p :: l, k => if okPt p = false then k else bIdx l (k + 1)
theorem bIdx_spec (l : List (Int × Int)) : ∀ k, decide (0 ≤ bIdx l k) = !(l.all okPt) := by
  induction l with
  | nil => intro k; rfl
  | cons p l ih =>
    intro k
    unfold bIdx
    rw [List.all_cons]
    cases h : okPt p
    · simp
    · simp only [Bool.true_and]
      rw [if_neg (by simp)]
      exact ih _

set_option maxHeartbeats 400000 in
theorem beyond_any (x y : Int) (w : World) : Calls Try.prog 52 #[.agg #[.int .i64 x, .int .i64 y]] w fun e w' => e = .returned (.bool (!okPt (x, y))) ∧ Below w.heap.size w w' := by
  have CW := Lib.hid (fun n W => within_any n (-500000) 500000 W)
  have HO : Hid (okPt (x, y) = (crd x && crd y)) := rfl
  have HX : Hid ((decide (-500000 ≤ x) && decide (x ≤ 500000)) = crd x) := rfl
  have HY : Hid ((decide (-500000 ≤ y) && decide (y ≤ 500000)) = crd y) := rfl
  generalize okPt (x, y) = b at *
  cases hx : crd x
  · have HF : Hid (b = false) := HO.out.trans (by rw [hx]; rfl)
    have CX := Lib.hid (fun W => CW.out x W)
    rw [HX.out, hx] at CX
    clear hx HX HO CW
    go_enter Try.func52, Try.ntmps52
    go_wp2_with fail
    refine (CX.out _).mono ?_
    rintro e w' ⟨rfl, rfl⟩
    go_wp2_with fail
    go_ret
    exact ⟨by rw [HF.out]; rfl, (Below.refl _ _).alloc (Nat.le_refl _) _⟩
  · have HF : Hid (b = crd y) := HO.out.trans (by rw [hx]; rfl)
    have CX := Lib.hid (fun W => CW.out x W)
    rw [HX.out, hx] at CX
    have CY := Lib.hid (fun W => CW.out y W)
    rw [HY.out] at CY
    generalize crd y = c at *
    clear hx HX HO CW HY
    cases c
    all_goals
      go_enter Try.func52, Try.ntmps52
      go_wp2_with fail
      refine (CX.out _).mono ?_
      rintro e w' ⟨rfl, rfl⟩
      go_wp2_with fail
      refine (CY.out _).mono ?_
      rintro e w' ⟨rfl, rfl⟩
      go_wp2_with fail
      go_ret
      exact ⟨by rw [HF.out]; rfl, (Below.refl _ _).alloc (Nat.le_refl _) _⟩

set_option maxHeartbeats 1000000 in
theorem indexB_any (l : List (Int × Int)) (hl : l.length ≤ 1000000) {v : Value} {w : World} (h : Reads encP v l w) :
    Calls Try.prog 58 #[v, .func (.func 52) #[] #[]] w fun e w' => e = .returned (.int .i64 (bIdx l 0)) ∧ Below w.heap.size w w' := by
  have HH := Lib.hid h
  obtain ⟨A, c, rfl, _⟩ := h
  go_enter Try.func58, Try.ntmps58
  go_wp2_with fail
  go_loopw [8] (fun kk wr => ∃ k : Nat, k ≤ l.length ∧ kk = .int .i64 k ∧ Hid (bIdx l 0 = bIdx (l.drop k) k) ∧ Hid (Below w.heap.size w wr)) (fun kk _ => l.length - (intOf kk).toNat)
  case atStart => exact ⟨0, by omega, rfl, by simp [Hid], Below.refl _ _⟩
  case round =>
    obtain ⟨k, hk, rfl, HI, HB⟩ := hrel
    by_cases hlt : k < l.length
    · obtain ⟨p, hp⟩ : ∃ p, l[k] = p := ⟨_, rfl⟩
      obtain ⟨A', c', e, hr⟩ := HH.out.below HB.out
      cases e
      rcases hr with rfl | ⟨g, rfl, hrow⟩
      · simp at hlt
      obtain ⟨q0, q1⟩ := row_pt hrow hlt
      rw [hp] at q0 q1
      have HR := Lib.hid hrow
      have hI : bIdx l 0 = if okPt p = false then (k : Int) else bIdx (l.drop (k + 1)) (k + 1) := HI.out.trans (by rw [drop_at l hlt, hp]; rfl)
      have HI2 := Lib.hid hI
      clear hrow hp hI HI
      obtain ⟨x, y⟩ := p
      dsimp only at q0 q1
      have CP := Lib.hid (fun W' => beyond_any x y W')
      generalize okPt (x, y) = b at *
      have i1 : (0 : Int) ≤ (k : Int) := by omega
      have i2 : (k : Int) < (l.length : Int) := by omega
      go_wp2_with fail
      refine (CP.out _).mono ?_
      rintro e w2 ⟨rfl, b2⟩
      have HB2 := Lib.hid (HB.out.then_below b2 HB.out.size)
      clear b2 q0 q1 HB CP
      cases b
      · have HF : Hid (bIdx l 0 = k) := HI2.out.trans (if_pos rfl)
        clear HI2
        go_wp2_with fail
        go_ret
        exact ⟨ret_int HF.out.symm, HB2.out⟩
      · have HF : Hid (bIdx l 0 = bIdx (l.drop (k + 1)) (k + 1)) := HI2.out.trans (if_neg (by simp))
        clear HI2
        go_wp2_with fail
        go_roundw
        case rel => exact ⟨k + 1, by omega, by go_num, HF, HB2⟩
        case measure => simp [intOf]; omega
    · have HF : Hid (bIdx l 0 = -1) := HI.out.trans (by rw [List.drop_eq_nil_of_le (by omega)]; rfl)
      go_wp2_with fail
      go_ret
      exact ⟨ret_int HF.out.symm, HB.out⟩
theorem containsB_any (l : List (Int × Int)) (hl : l.length ≤ 1000000) {v : Value} {w : World} (h : Reads encP v l w) :
    Calls Try.prog 57 #[v, .func (.func 52) #[] #[]] w fun e w' => e = .returned (.bool (!(l.all okPt))) ∧ Below w.heap.size w w' := by
  have CI := Lib.hid (indexB_any l hl h)
  have HS := Lib.hid (bIdx_spec l 0)
  obtain ⟨A, c, rfl, _⟩ := h
  generalize bIdx l 0 = i at *
  go_enter Try.func57, Try.ntmps57
  go_wp2_with fail
  refine CI.out.mono ?_
  rintro e w2 ⟨rfl, b2⟩
  have HB := Lib.hid b2
  clear b2
  go_wp2_with fail
  go_ret
  exact ⟨ret_bool HS.out, HB.out⟩
set_option maxHeartbeats 1000000 in
theorem checkPoints_any (l : List (Int × Int)) (hl : l.length ≤ 1000000) (most : Int) {v : Value} {w : World} (h : Reads encP v l w) :
    Calls Try.prog 53 #[v, .int .i64 most] w fun e w' => e = .returned (.int .i64 (ptsErr most l)) ∧ Below w.heap.size w w' := by
  have CC := Lib.hid (containsB_any l hl h)
  have HP : Hid (ptsErr most l = if most < (l.length : Int) then 2 else if l.all okPt = true then 0 else 1) := rfl
  obtain ⟨A, c, rfl, _⟩ := h
  generalize l.all okPt = b at *
  generalize ptsErr most l = E at *
  by_cases hm : most < (l.length : Int)
  · have HF : Hid (E = 2) := HP.out.trans (if_pos hm)
    clear HP CC
    go_enter Try.func53, Try.ntmps53
    go_wp2_with fail
    go_ret
    exact ⟨ret_int HF.out.symm, Below.refl _ _⟩
  · have HF := Lib.hid (HP.out.trans (if_neg hm))
    clear HP
    cases b
    · have HF2 : Hid (E = 1) := HF.out.trans (if_neg (by simp))
      clear HF
      go_enter Try.func53, Try.ntmps53
      go_wp2_with fail
      refine CC.out.mono ?_
      rintro e w2 ⟨rfl, b2⟩
      have HB := Lib.hid b2
      clear b2
      go_wp2_with fail
      go_ret
      exact ⟨ret_int HF2.out.symm, HB.out⟩
    · have HF2 : Hid (E = 0) := HF.out.trans (if_pos rfl)
      clear HF
      go_enter Try.func53, Try.ntmps53
      go_wp2_with fail
      refine CC.out.mono ?_
      rintro e w2 ⟨rfl, b2⟩
      have HB := Lib.hid b2
      clear b2
      go_wp2_with fail
      go_ret
      exact ⟨ret_int HF2.out.symm, HB.out⟩

/-! ### The reference's -/
set_option maxHeartbeats 400000 in
theorem in1_any (n lo hi : Int) (w : World) : Calls Try.prog 30 #[.int .i64 n, .int .i64 lo, .int .i64 hi] w fun e w' => e = .returned (.bool (decide (lo ≤ n) && decide (n ≤ hi))) ∧ w = w' := by
  by_cases h1 : lo ≤ n <;> by_cases h2 : n ≤ hi
  all_goals
    go_enter Try.func30, Try.ntmps30
    go_wp2
    go_ret
    exact ⟨by simp [h1, h2], rfl⟩
theorem ptsE_drop (l : List (Int × Int)) {k : Nat} (hk : k < l.length) : ptsE (l.drop k) = if okPt l[k] = false then 1 else ptsE (l.drop (k + 1)) := by
  rw [drop_at l hk]
  unfold ptsE
  rw [List.all_cons]
  cases okPt l[k]
  · rfl
  · rw [Bool.true_and, if_neg (by simp : ¬ (true = false))]
set_option maxHeartbeats 2000000 in
theorem pointFault_any (l : List (Int × Int)) (hl : l.length ≤ 1000000) {v : Value} {w : World} (h : Reads encP v l w) :
    Calls Try.prog 28 #[v] w fun e w' => e = .returned (.int .i64 (ptsE l)) ∧ Below w.heap.size w w' := by
  have HH := Lib.hid h
  obtain ⟨A, c, rfl, _⟩ := h
  go_enter Try.func28, Try.ntmps28
  go_wp2_with fail
  go_loopw [7] (fun kk wr => ∃ k : Nat, k ≤ l.length ∧ kk = .int .i64 k ∧ Hid (ptsE l = ptsE (l.drop k)) ∧ Hid (Below w.heap.size w wr)) (fun kk _ => l.length - (intOf kk).toNat)
  case atStart => exact ⟨0, by omega, rfl, by simp [Hid], Below.refl _ _⟩
  case round =>
    obtain ⟨k, hk, rfl, HI, HB⟩ := hrel
    by_cases hlt : k < l.length
    · obtain ⟨p, hp⟩ : ∃ p, l[k] = p := ⟨_, rfl⟩
      obtain ⟨A', c', e, hr⟩ := HH.out.below HB.out
      cases e
      rcases hr with rfl | ⟨g, rfl, hrow⟩
      · simp at hlt
      obtain ⟨q0, q1⟩ := row_pt hrow hlt
      rw [hp] at q0 q1
      have HR := Lib.hid hrow
      have hI : ptsE l = if okPt p = false then 1 else ptsE (l.drop (k + 1)) := HI.out.trans (by rw [ptsE_drop l hlt, hp])
      have HI2 := Lib.hid hI
      clear hrow hp hI HI
      obtain ⟨x, y⟩ := p
      dsimp only at q0 q1
      have CX := Lib.hid (fun W => in1_any x (-500000) 500000 W)
      have CY := Lib.hid (fun W => in1_any y (-500000) 500000 W)
      rw [show (decide (-500000 ≤ x) && decide (x ≤ 500000)) = crd x from rfl] at CX
      rw [show (decide (-500000 ≤ y) && decide (y ≤ 500000)) = crd y from rfl] at CY
      rw [show okPt (x, y) = (crd x && crd y) from rfl] at HI2
      generalize crd x = bx at *
      generalize crd y = by' at *
      have i1 : (0 : Int) ≤ (k : Int) := by omega
      have i2 : (k : Int) < (l.length : Int) := by omega
      have HB2 := Lib.hid (HB.out.alloc HB.out.size (.cells #[.int .i64 x, .int .i64 y] 27))
      cases bx
      · have HF : Hid (ptsE l = 1) := HI2.out.trans (if_pos rfl)
        go_wp2_with fail
        refine (CX.out _).mono ?_
        rintro e w2 ⟨rfl, rfl⟩
        go_wp2_with fail
        go_ret
        exact ⟨ret_int HF.out.symm, HB2.out⟩
      cases by'
      · have HF : Hid (ptsE l = 1) := HI2.out.trans (if_pos rfl)
        go_wp2_with fail
        refine (CX.out _).mono ?_
        rintro e w2 ⟨rfl, rfl⟩
        go_wp2_with fail
        refine (CY.out _).mono ?_
        rintro e w2 ⟨rfl, rfl⟩
        go_wp2_with fail
        go_ret
        exact ⟨ret_int HF.out.symm, HB2.out⟩
      · have HF : Hid (ptsE l = ptsE (l.drop (k + 1))) := HI2.out.trans (if_neg (by simp))
        go_wp2_with fail
        refine (CX.out _).mono ?_
        rintro e w2 ⟨rfl, rfl⟩
        go_wp2_with fail
        refine (CY.out _).mono ?_
        rintro e w2 ⟨rfl, rfl⟩
        go_wp2_with fail
        go_roundw
        case rel => exact ⟨k + 1, by omega, by go_num, HF, HB2⟩
        case measure => simp [intOf]; omega
    · have HF : Hid (ptsE l = 0) := HI.out.trans (by rw [List.drop_eq_nil_of_le (by omega)]; rfl)
      go_wp2_with fail
      go_ret
      exact ⟨ret_int HF.out.symm, HB.out⟩
set_option maxHeartbeats 1000000 in
theorem pointsFault1_any (l : List (Int × Int)) (hl : l.length ≤ 1000000) (most : Int) {v : Value} {w : World} (h : Reads encP v l w) :
    Calls Try.prog 29 #[v, .int .i64 most] w fun e w' => e = .returned (.int .i64 (ptsErr most l)) ∧ Below w.heap.size w w' := by
  have CC := Lib.hid (pointFault_any l hl h)
  have HP : Hid (ptsErr most l = if most < (l.length : Int) then 2 else ptsE l) := rfl
  obtain ⟨A, c, rfl, _⟩ := h
  generalize ptsErr most l = E at *
  by_cases hm : most < (l.length : Int)
  · have HF : Hid (E = 2) := HP.out.trans (if_pos hm)
    clear HP CC
    go_enter Try.func29, Try.ntmps29
    go_wp2_with fail
    go_ret
    exact ⟨ret_int HF.out.symm, Below.refl _ _⟩
  · have HF := Lib.hid (HP.out.trans (if_neg hm))
    clear HP
    generalize ptsE l = E2 at *
    go_enter Try.func29, Try.ntmps29
    go_wp2_with fail
    refine CC.out.mono ?_
    rintro e w2 ⟨rfl, b2⟩
    have HB := Lib.hid b2
    clear b2
    go_wp2_with fail
    go_ret
    exact ⟨ret_int HF.out.symm, HB.out⟩

/-! ### Distances -/
set_option maxHeartbeats 1000000 in
theorem distance_any (a b : Int × Int) (ha : okPt a = true) (hb : okPt b = true) (w : World) :
    Calls Try.prog 48 #[.agg #[.int .i64 a.1, .int .i64 a.2], .agg #[.int .i64 b.1, .int .i64 b.2]] w fun e w' => e = .returned (.int .i64 (apart a b)) ∧ Below w.heap.size w w' := by
  obtain ⟨⟨h1, h2⟩, h3, h4⟩ := okPt_spec ha
  obtain ⟨⟨h5, h6⟩, h7, h8⟩ := okPt_spec hb
  have HA : Hid (apart a b = max (a.1 - b.1) (max (b.1 - a.1) (max (a.2 - b.2) (b.2 - a.2)))) := rfl
  generalize apart a b = r at *
  obtain ⟨a1, a2⟩ := a
  obtain ⟨b1, b2⟩ := b
  dsimp only at *
  clear ha hb
  go_enter Try.func48, Try.ntmps48
  go_wp2_with fail
  go_ret
  exact ⟨ret_int HA.out.symm, ((Below.refl _ _).alloc (Nat.le_refl _) _).alloc (by simp) _⟩
set_option maxHeartbeats 1000000 in
theorem apart_any (a b : Int × Int) (ha : okPt a = true) (hb : okPt b = true) (w : World) :
    Calls Try.prog 35 #[.agg #[.int .i64 a.1, .int .i64 a.2], .agg #[.int .i64 b.1, .int .i64 b.2]] w fun e w' => e = .returned (.int .i64 (apart a b)) ∧ Below w.heap.size w w' := by
  obtain ⟨⟨h1, h2⟩, h3, h4⟩ := okPt_spec ha
  obtain ⟨⟨h5, h6⟩, h7, h8⟩ := okPt_spec hb
  have HA : Hid (apart a b = max (a.1 - b.1) (max (b.1 - a.1) (max (a.2 - b.2) (b.2 - a.2)))) := rfl
  generalize apart a b = r at *
  obtain ⟨a1, a2⟩ := a
  obtain ⟨b1, b2⟩ := b
  dsimp only at *
  clear ha hb
  go_enter Try.func35, Try.ntmps35
  go_wp2_with fail
  go_ret
  exact ⟨ret_int HA.out.symm, ((Below.refl _ _).alloc (Nat.le_refl _) _).alloc (by simp) _⟩
/-- What Distance returns. -/
def distE (a b : Int × Int) : Int := if okPt a = true ∧ okPt b = true then 0 else 1
def distV (a b : Int × Int) : Int := if okPt a = true ∧ okPt b = true then apart a b else 0
theorem distE_ptsE (a b : Int × Int) : ptsE [a, b] = distE a b := by
  unfold ptsE distE
  rw [List.all_cons, List.all_cons, List.all_nil]
  cases okPt a <;> cases okPt b <;> rfl
set_option maxHeartbeats 1000000 in
theorem distanceE_any (a b : Int × Int) (w : World) :
    Calls Try.prog 41 #[.agg #[.int .i64 a.1, .int .i64 a.2], .agg #[.int .i64 b.1, .int .i64 b.2]] w fun e w' => e = .returned (.tuple #[.int .i64 (distV a b), .int .i64 (distE a b)]) ∧ Below w.heap.size w w' := by
  have CA := Lib.hid (fun W => beyond_any a.1 a.2 W)
  have CB := Lib.hid (fun W => beyond_any b.1 b.2 W)
  rw [show okPt (a.1, a.2) = okPt a from rfl] at CA
  rw [show okPt (b.1, b.2) = okPt b from rfl] at CB
  have CD := Lib.hid (fun ha hb W => distance_any a b ha hb W)
  have H0 : Hid (Below w.heap.size w ((w.alloc (.cells #[.int .i64 a.1, .int .i64 a.2] 27)).alloc (.cells #[.int .i64 b.1, .int .i64 b.2] 27)) ∧ ((w.alloc (.cells #[.int .i64 a.1, .int .i64 a.2] 27)).alloc (.cells #[.int .i64 b.1, .int .i64 b.2] 27)).heap[w.heap.size]? = some (.cells #[.int .i64 a.1, .int .i64 a.2] 27 (0, 0)) ∧ ((w.alloc (.cells #[.int .i64 a.1, .int .i64 a.2] 27)).alloc (.cells #[.int .i64 b.1, .int .i64 b.2] 27)).heap[w.heap.size + 1]? = some (.cells #[.int .i64 b.1, .int .i64 b.2] 27 (0, 0))) :=
    ⟨((Below.refl w.heap.size w).alloc (Nat.le_refl _) _).alloc (by simp) _, blk_alloc (blk_new w _ rfl) _, blk_new _ _ (by simp)⟩
  cases ha : okPt a
  · have HV : Hid (distV a b = 0 ∧ distE a b = 1) := ⟨if_neg (by rw [ha]; simp), if_neg (by rw [ha]; simp)⟩
    rw [ha] at CA
    generalize distV a b = V at *
    generalize distE a b = E at *
    obtain ⟨a1, a2⟩ := a
    obtain ⟨y1, y2⟩ := b
    dsimp only at *
    clear ha CB CD
    go_enter Try.func41, Try.ntmps41
    go_wp2_with fail
    refine (CA.out _).mono ?_
    rintro e w2 ⟨rfl, b2⟩
    have HB := Lib.hid (H0.out.1.then_below b2 H0.out.1.size)
    clear b2 CA H0
    go_wp2_with fail
    refine bodyPost_ret (v := .tuple #[.int .i64 0, .int .i64 1]) (by unfold results; simp only [Try.results41]; go_simp) rfl ⟨by rw [HV.out.1, HV.out.2], HB.out⟩
  cases hb : okPt b
  · have HV : Hid (distV a b = 0 ∧ distE a b = 1) := ⟨if_neg (by rw [hb]; simp), if_neg (by rw [hb]; simp)⟩
    rw [ha] at CA
    rw [hb] at CB
    generalize distV a b = V at *
    generalize distE a b = E at *
    obtain ⟨a1, a2⟩ := a
    obtain ⟨y1, y2⟩ := b
    dsimp only at *
    clear ha hb CD
    go_enter Try.func41, Try.ntmps41
    go_wp2_with fail
    refine (CA.out _).mono ?_
    rintro e w2 ⟨rfl, b2⟩
    obtain ⟨c0, c1, _, _⟩ := blk2 (blk_below b2 H0.out.2.2)
    have hgl := lt_of_blk (blk_below b2 H0.out.2.2)
    have HB := Lib.hid (H0.out.1.then_below b2 H0.out.1.size)
    clear b2 CA H0
    go_wp2_with fail
    refine (CB.out _).mono ?_
    rintro e w3 ⟨rfl, b3⟩
    have HB3 := Lib.hid (HB.out.then_below b3 HB.out.size)
    clear b3 c0 c1 CB
    go_wp2_with fail
    refine bodyPost_ret (v := .tuple #[.int .i64 0, .int .i64 1]) (by unfold results; simp only [Try.results41]; go_simp) rfl ⟨by rw [HV.out.1, HV.out.2], HB3.out⟩
  · have HV : Hid (distV a b = apart a b ∧ distE a b = 0) := ⟨if_pos ⟨ha, hb⟩, if_pos ⟨ha, hb⟩⟩
    have CD2 := Lib.hid (CD.out ha hb)
    rw [ha] at CA
    rw [hb] at CB
    generalize distV a b = V at *
    generalize distE a b = E at *
    generalize apart a b = R at *
    obtain ⟨a1, a2⟩ := a
    obtain ⟨y1, y2⟩ := b
    dsimp only at *
    clear ha hb CD
    go_enter Try.func41, Try.ntmps41
    go_wp2_with fail
    refine (CA.out _).mono ?_
    rintro e w2 ⟨rfl, b2⟩
    have H2 : Hid (Below w.heap.size w w2 ∧ w2.heap[w.heap.size]? = some (.cells #[.int .i64 a1, .int .i64 a2] 27 (0, 0)) ∧ w2.heap[w.heap.size + 1]? = some (.cells #[.int .i64 y1, .int .i64 y2] 27 (0, 0))) := ⟨H0.out.1.then_below b2 H0.out.1.size, blk_below b2 H0.out.2.1, blk_below b2 H0.out.2.2⟩
    obtain ⟨c0, c1, _, _⟩ := blk2 H2.out.2.2
    have hgl := lt_of_blk H2.out.2.2
    clear b2 CA H0
    go_wp2_with fail
    refine (CB.out _).mono ?_
    rintro e w3 ⟨rfl, b3⟩
    have H3 : Hid (Below w.heap.size w w3 ∧ w3.heap[w.heap.size]? = some (.cells #[.int .i64 a1, .int .i64 a2] 27 (0, 0)) ∧ w3.heap[w.heap.size + 1]? = some (.cells #[.int .i64 y1, .int .i64 y2] 27 (0, 0))) := ⟨H2.out.1.then_below b3 H2.out.1.size, blk_below b3 H2.out.2.1, blk_below b3 H2.out.2.2⟩
    clear b3 c0 c1 CB H2
    obtain ⟨c0, c1, _, _⟩ := blk2 H3.out.2.2
    obtain ⟨d0, d1, _, _⟩ := blk2 H3.out.2.1
    have hgl3 := lt_of_blk H3.out.2.2
    have hgl4 := lt_of_blk H3.out.2.1
    go_wp2_with fail
    refine (CD2.out _).mono ?_
    rintro e w4 ⟨rfl, b4⟩
    have HB4 := Lib.hid (H3.out.1.then_below b4 H3.out.1.size)
    clear b4 c0 c1 d0 d1 CD2
    go_wp2_with fail
    refine bodyPost_ret (v := .tuple #[.int .i64 R, .int .i64 0]) (by unfold results; simp only [Try.results41]; go_simp) rfl ⟨by rw [HV.out.1, HV.out.2], HB4.out⟩
set_option maxHeartbeats 1000000 in
theorem toured_any (w : World) : Calls Try.prog 21 #[] w fun e w' => e = .returned (.bool true) ∧ Below w.heap.size w w' := by
  have CD := Lib.hid (distanceE_any (1, 1) (4, 3) w)
  rw [show distV (1, 1) (4, 3) = 3 from by decide, show distE (1, 1) (4, 3) = 0 from by decide] at CD
  dsimp only at CD
  go_enter Try.func21, Try.ntmps21
  go_wp2_with fail
  refine CD.out.mono ?_
  rintro e w2 ⟨rfl, b2⟩
  have HB := Lib.hid b2
  clear b2
  go_wp2_with fail
  go_ret
  exact ⟨rfl, HB.out⟩
end Go.Proofs.Ytbkbjljkfhahbaa
