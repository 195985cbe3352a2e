/-
  The walk of the reference's PlacementAt.
-/
import Derived.Test.YtopnadilfjakiaaSpot
namespace Go.Proofs.Ytopnadilfjakiaa
open Go.RowKit

set_option maxRecDepth 100000 in
set_option maxHeartbeats 4000000 in
theorem placeIs_any (p : Pl) (nm : ByteArray) (hz : Nat) (w : World) (h : w.cell? ⟨hz, 0, none⟩ = some (.string nm)) (hl : hz < w.heap.size) :
    Calls Try.prog 36 #[.agg #[.string p.name, .string p.part, .int .i64 p.x, .int .i64 p.y, .int .i64 p.q], .pointer (some ⟨hz, 0, none⟩)] w fun e w' => e = .returned (.bool (p.name.toList == nm.toList)) ∧ Below w.heap.size w w' := by
  go_enter Try.func36, Try.ntmps36
  go_wp2_with fail
  go_ret
  exact ⟨rfl, (Below.refl _ _).alloc (Nat.le_refl _) _⟩

/-- The index of the first placement of a name, or -1. -/
def plIdx (nm : ByteArray) : List Pl → Nat → Int
  | [], _ => -1
  | p :: l, k => if (p.name.toList == nm.toList) = true then k else plIdx nm l (k + 1)

set_option maxRecDepth 100000 in
set_option maxHeartbeats 4000000 in
theorem indexPl_any (A : Option Addr) (c : Nat) (l : List Pl) (hl : l.length ≤ 4611686018427387904) (nm : ByteArray) (hz : Nat) (w : World) (hA : PlAt w A l) (h : w.cell? ⟨hz, 0, none⟩ = some (.string nm)) (hlz : hz < w.heap.size) :
    Calls Try.prog 35 #[.slice A l.length c, .func (.func 36) #[] #[.pointer (some ⟨hz, 0, none⟩)]] w fun e w' => e = .returned (.int .i64 (plIdx nm l 0)) ∧ Below w.heap.size w w' := by
  have HH := Lib.hid (And.intro h hlz)
  clear h hlz
  go_enter Try.func35, Try.ntmps35
  go_wp2_with fail
  go_loopw [8] (fun kk wr => ∃ k : Nat, k ≤ l.length ∧ kk = .int .i64 k ∧ Hid (plIdx nm l 0 = plIdx nm (l.drop k) k) ∧ Hid (Below w.heap.size w wr)) (fun kk _ => l.length - (intOf kk).toNat)
  case atStart => exact ⟨0, by omega, rfl, by simp [Hid], Below.refl _ _⟩
  case round =>
    obtain ⟨k, hk, rfl, HI, HB⟩ := hrel
    by_cases hlt : k < l.length
    · obtain ⟨p, hp⟩ : ∃ p, l[k] = p := ⟨_, rfl⟩
      rcases hA with rfl | ⟨g, rfl, hrow⟩
      · simp at hlt
      obtain ⟨q0, q1, q2, q3, q4⟩ := row_pl (hrow.below HB.out) hlt
      rw [hp] at q0 q1 q2 q3 q4
      have HR := Lib.hid hrow
      have hI : plIdx nm l 0 = if (p.name.toList == nm.toList) = true then (k : Int) else plIdx nm (l.drop (k + 1)) (k + 1) := HI.out.trans (by rw [drop_at l hlt, hp]; rfl)
      have HI2 := Lib.hid hI
      have CP := Lib.hid (fun W' h1 h2 => placeIs_any p nm hz W' h1 h2)
      clear hrow hp hI HI
      obtain ⟨pn, pp, px, py, pq⟩ := p
      dsimp only at *
      have i1 : (0 : Int) ≤ (k : Int) := by omega
      have i2 : (k : Int) < (l.length : Int) := by omega
      go_wp2_with fail
      refine (CP.out _ ((HB.out.cell (by exact HH.out.2)).trans HH.out.1) (Nat.lt_of_lt_of_le HH.out.2 HB.out.size)).mono ?_
      rintro e w2 ⟨rfl, b2⟩
      have HB2 := Lib.hid (HB.out.then_below b2 HB.out.size)
      clear b2 q0 q1 q2 q3 q4 HB CP
      cases hb : (pn.toList == nm.toList)
      · have HF : Hid (plIdx nm l 0 = plIdx nm (l.drop (k + 1)) (k + 1)) := HI2.out.trans (if_neg (by rw [hb]; simp))
        clear HI2
        go_wp2_with fail
        go_roundw
        case rel => exact ⟨k + 1, by omega, by go_num, HF, HB2⟩
        case measure => simp [intOf]; omega
      · have HF : Hid (plIdx nm l 0 = k) := HI2.out.trans (if_pos hb)
        clear HI2
        go_wp2_with fail
        go_ret
        exact ⟨ret_int HF.out.symm, HB2.out⟩
    · have HF : Hid (plIdx nm l 0 = -1) := HI.out.trans (by rw [List.drop_eq_nil_of_le (by omega)]; rfl)
      go_wp2_with fail
      go_ret
      exact ⟨ret_int HF.out.symm, HB.out⟩
theorem plIdx_cases (nm : ByteArray) (l : List Pl) (j : Nat) : plIdx nm l j = -1 ∨ ∃ k : Nat, k < l.length ∧ plIdx nm l j = (j + k : Nat) := by
  induction l generalizing j with
  | nil => exact .inl rfl
  | cons p l ih =>
    unfold plIdx
    split
    · exact .inr ⟨0, by simp, by simp⟩
    · rcases ih (j + 1) with h | ⟨k, hk, h⟩
      · exact .inl h
      · refine .inr ⟨k + 1, by simp; omega, ?_⟩
        rw [h]
        congr 1
        omega
def PAPost (nm : ByteArray) (l : List Pl) (w : World) (e : Ending) (w' : World) : Prop :=
  Below w.heap.size w w' ∧ ((plIdx nm l 0 = -1 ∧ e = .returned (.tuple #[.agg #[.string ⟨#[]⟩, .string ⟨#[]⟩, .int .i64 0, .int .i64 0, .int .i64 0], .bool false])) ∨
    ∃ (k : Nat) (hk : k < l.length), plIdx nm l 0 = k ∧ e = .returned (.tuple #[.agg #[.string l[k].name, .string l[k].part, .int .i64 l[k].x, .int .i64 l[k].y, .int .i64 l[k].q], .bool true]))

set_option maxRecDepth 100000 in
set_option maxHeartbeats 4000000 in
theorem placementAt_any (key : ByteArray) (W H : Int) (A : Option Addr) (c : Nat) (l : List Pl) (hl : l.length ≤ 1000) (nm : ByteArray) (w : World) (hA : PlAt w A l) :
    Calls Try.prog 13 #[prod key W H A l.length c, .string nm] w (PAPost nm l w) := by
  have HC := Lib.hid (plIdx_cases nm l 0)
  have CI := Lib.hid (fun W' h hz h1 h2 => indexPl_any A c l (by omega) nm hz W' h h1 h2)
  generalize hI : plIdx nm l 0 = I at *
  have HI := Lib.hid hI
  clear hI
  go_enter Try.func13, Try.ntmps13
  go_wp2_with fail
  have bP : Below w.heap.size w (((w.alloc (Obj.cells #[.string key, .int .i64 W, .int .i64 H, .slice A l.length c] 28)).alloc (Obj.cells #[.string nm] 9)).alloc (Obj.cells #[.string ⟨#[]⟩, .string ⟨#[]⟩, .int .i64 0, .int .i64 0, .int .i64 0] 50)) := ((((Below.refl _ _).alloc (Nat.le_refl _) _).alloc (by simp) _)).alloc (by simp; omega) _
  have kP : (((w.alloc (Obj.cells #[.string key, .int .i64 W, .int .i64 H, .slice A l.length c] 28)).alloc (Obj.cells #[.string nm] 9)).alloc (Obj.cells #[.string ⟨#[]⟩, .string ⟨#[]⟩, .int .i64 0, .int .i64 0, .int .i64 0] 50)).heap[w.heap.size]? = some (.cells #[.string key, .int .i64 W, .int .i64 H, .slice A l.length c] 28 (0, 0)) := blk_alloc (blk_alloc (blk_new w _ rfl) _) _
  have kN : (((w.alloc (Obj.cells #[.string key, .int .i64 W, .int .i64 H, .slice A l.length c] 28)).alloc (Obj.cells #[.string nm] 9)).alloc (Obj.cells #[.string ⟨#[]⟩, .string ⟨#[]⟩, .int .i64 0, .int .i64 0, .int .i64 0] 50)).heap[w.heap.size + 1]? = some (.cells #[.string nm] 9 (0, 0)) := blk_alloc (blk_new _ _ (by simp)) _
  have kR : (((w.alloc (Obj.cells #[.string key, .int .i64 W, .int .i64 H, .slice A l.length c] 28)).alloc (Obj.cells #[.string nm] 9)).alloc (Obj.cells #[.string ⟨#[]⟩, .string ⟨#[]⟩, .int .i64 0, .int .i64 0, .int .i64 0] 50)).heap[w.heap.size + 1 + 1]? = some (.cells #[.string ⟨#[]⟩, .string ⟨#[]⟩, .int .i64 0, .int .i64 0, .int .i64 0] 50 (0, 0)) := blk_new _ _ (by simp)
  generalize (((w.alloc (Obj.cells #[.string key, .int .i64 W, .int .i64 H, .slice A l.length c] 28)).alloc (Obj.cells #[.string nm] 9)).alloc (Obj.cells #[.string ⟨#[]⟩, .string ⟨#[]⟩, .int .i64 0, .int .i64 0, .int .i64 0] 50)) = w1 at *
  refine (CI.out _ (hA.below bP) _ (by rw [cell_of_blk kN]; rfl) (lt_of_blk kN)).mono ?_
  rintro e w2 ⟨rfl, b2⟩
  obtain ⟨p0, p1, p2, p3⟩ := blk4 (blk_below b2 kP)
  have kR2 := blk_below b2 kR
  have HA2 := Lib.hid (hA.below (bP.then_below b2 bP.size))
  have HB2 := Lib.hid (bP.then_below b2 bP.size)
  have e0 : w2.cell? ⟨w.heap.size + 1 + 1, 0, none⟩ = some (.string ⟨#[]⟩) := by rw [cell_of_blk kR2]; rfl
  have e1 : w2.cell? ⟨w.heap.size + 1 + 1, 1, none⟩ = some (.string ⟨#[]⟩) := by rw [cell_of_blk kR2]; rfl
  have e2 : w2.cell? ⟨w.heap.size + 1 + 1, 2, none⟩ = some (.int .i64 0) := by rw [cell_of_blk kR2]; rfl
  have e3 : w2.cell? ⟨w.heap.size + 1 + 1, 3, none⟩ = some (.int .i64 0) := by rw [cell_of_blk kR2]; rfl
  have e4 : w2.cell? ⟨w.heap.size + 1 + 1, 4, none⟩ = some (.int .i64 0) := by rw [cell_of_blk kR2]; rfl
  have f0 := frozen_of_blk kR2 0
  have f1 := frozen_of_blk kR2 1
  have f2 := frozen_of_blk kR2 2
  have f3 := frozen_of_blk kR2 3
  have f4 := frozen_of_blk kR2 4
  have hlt2 := lt_of_blk kR2
  have hlt0 : w.heap.size < w2.heap.size := by omega
  clear bP kP kN kR kR2 b2 CI
  rcases HC.out with rfl | ⟨k, hk, hkI⟩
  · go_wp2_with fail
    refine bodyPost_ret (v := .tuple #[.agg #[.string ⟨#[]⟩, .string ⟨#[]⟩, .int .i64 0, .int .i64 0, .int .i64 0], .bool false]) (by unfold results; simp only [Try.results13]; go_simp) rfl ?_
    exact ⟨((((HB2.out.setCell (by simp; omega) _).setCell (by simp; omega) _).setCell (by simp; omega) _).setCell (by simp; omega) _).setCell (by simp; omega) _, .inl ⟨HI.out, rfl⟩⟩
  · obtain rfl : I = k := by rw [hkI]; simp
    rcases hA with rfl | ⟨g, rfl, hrow⟩
    · simp at hk
    obtain ⟨q0, q1, q2, q3, q4⟩ := row_pl (hrow.below HB2.out) hk
    have HQ : Hid (l[k] = l[k]) := rfl
    have hg2 := (hrow.below HB2.out).1
    have i1 : (0 : Int) ≤ (k : Int) := by omega
    have i2 : (k : Int) < (l.length : Int) := by omega
    obtain ⟨p, hp⟩ : ∃ p, l[k] = p := ⟨_, rfl⟩
    rw [hp] at q0 q1 q2 q3 q4
    have HP := Lib.hid hp
    clear hp hkI hrow HC HA2
    go_wp2_with fail
    refine bodyPost_ret (v := .tuple #[.agg #[.string p.name, .string p.part, .int .i64 p.x, .int .i64 p.y, .int .i64 p.q], .bool true]) (by unfold results; simp only [Try.results13]; go_simp) rfl ?_
    exact ⟨((((HB2.out.setCell (by simp; omega) _).setCell (by simp; omega) _).setCell (by simp; omega) _).setCell (by simp; omega) _).setCell (by simp; omega) _, .inr ⟨k, hk, HI.out, by rw [HP.out]⟩⟩
end Go.Proofs.Ytopnadilfjakiaa
