/-
  The walk of the function that places one placement.
-/
import Derived.Test.YtopnadilfjakiaaPlacing
import Derived.Test.YtopnadilfjakiaaSpotR
namespace Go.Proofs.Ytopnadilfjakiaa
open Go.RowKit

theorem rot_turn (W H x y : Int) : rotK W H x y 0 = (x, y, W, H) ∧ rotK W H x y 1 = (H - y, x, H, W) ∧ rotK W H x y 2 = (W - x, H - y, W, H) ∧ rotK W H x y 3 = (y, W - x, H, W) := by
  refine ⟨rfl, rfl, rfl, ?_⟩
  have : rotK W H x y 3 = (H - (H - y), W - x, H, W) := rfl
  rw [this]
  congr 1
  omega
/-- A spot of five cells. -/
def SpotIs (k : Nat) (nm : ByteArray) (x y q : Int) (w : World) (e : Ending) (w' : World) : Prop := e = .returned (.agg #[.int .i64 k, .string nm, .int .i64 x, .int .i64 y, .int .i64 q]) ∧ Below w.heap.size w w'

set_option maxRecDepth 100000 in
set_option maxHeartbeats 4000000 in
theorem placing1_0 (key : ByteArray) (W H : Int) (A : Option Addr) (n c k : Nat) (sx sy : Int) (sk : Bool) (nm pt : ByteArray) (x y pq : Int) (h8 h5 h7 hp : Nat) (w : World) (hw : 1 ≤ W ∧ W ≤ 500000) (hh : 1 ≤ H ∧ H ≤ 500000)
    (sx0 : 0 ≤ sx) (sx1 : sx ≤ 500000) (sy0 : 0 ≤ sy) (sy1 : sy ≤ 500000) (px0 : 0 ≤ x) (px1 : x ≤ W) (py0 : 0 ≤ y) (py1 : y ≤ H) (pq0 : 0 ≤ pq) (pq1 : pq ≤ 3)
    (k8 : w.heap[h8]? = some (.cells #[.func (.func 71) #[] #[]] 93 (0, 0))) (k5 : w.heap[h5]? = some (.cells #[.int .i64 k] 3 (0, 0)))
    (k7 : w.heap[h7]? = some (.cells #[.int .i64 sx, .int .i64 sy, .int .i64 0, .bool sk] 70 (0, 0))) (kp : w.heap[hp]? = some (.cells #[.string key, .int .i64 W, .int .i64 H, .slice A n c] 28 (0, 0))) :
    Calls Try.prog 49 #[.agg #[.string nm, .string pt, .int .i64 x, .int .i64 y, .int .i64 pq], .pointer (some ⟨h8, 0, none⟩), .pointer (some ⟨h5, 0, none⟩), .pointer (some ⟨h7, 0, none⟩)] w (SpotIs k nm (sx + x) (sy + y) ((0 + pq) % 4) w) := by
  obtain ⟨hw0, hw1⟩ := hw
  obtain ⟨hh0, hh1⟩ := hh
  have hw : 1 ≤ W ∧ W ≤ 500000 := ⟨hw0, hw1⟩
  have hh : 1 ≤ H ∧ H ≤ 500000 := ⟨hh0, hh1⟩
  have KK := Lib.hid (And.intro k5 k7)
  go_enter Try.func49, Try.ntmps49
  go_upto_region 1 with (fail)
  have bw1 : Below w.heap.size w ((w.alloc (Obj.cells #[.string nm, .string pt, .int .i64 x, .int .i64 y, .int .i64 pq] 50)).alloc (Obj.cells #[.int .i64 0, .string ⟨#[]⟩, .int .i64 0, .int .i64 0, .int .i64 0] 41)) := (((Below.refl _ _).alloc (Nat.le_refl _) _).alloc (by simp) _)
  have kC : ((w.alloc (Obj.cells #[.string nm, .string pt, .int .i64 x, .int .i64 y, .int .i64 pq] 50)).alloc (Obj.cells #[.int .i64 0, .string ⟨#[]⟩, .int .i64 0, .int .i64 0, .int .i64 0] 41)).heap[w.heap.size]? = some (.cells #[.string nm, .string pt, .int .i64 x, .int .i64 y, .int .i64 pq] 50 (0, 0)) := (blk_alloc (blk_new w _ rfl) _)
  have kR : ((w.alloc (Obj.cells #[.string nm, .string pt, .int .i64 x, .int .i64 y, .int .i64 pq] 50)).alloc (Obj.cells #[.int .i64 0, .string ⟨#[]⟩, .int .i64 0, .int .i64 0, .int .i64 0] 41)).heap[w.heap.size + 1]? = some (.cells #[.int .i64 0, .string ⟨#[]⟩, .int .i64 0, .int .i64 0, .int .i64 0] 41 (0, 0)) := (blk_new _ _ (by simp))
  generalize ((w.alloc (Obj.cells #[.string nm, .string pt, .int .i64 x, .int .i64 y, .int .i64 pq] 50)).alloc (Obj.cells #[.int .i64 0, .string ⟨#[]⟩, .int .i64 0, .int .i64 0, .int .i64 0] 41)) = w1 at *
  obtain ⟨p0, p1, p2, p3⟩ := blk4 (blk_below bw1 kp)
  have t0 : w1.cell? ⟨h8, 0, none⟩ = some (.func (.func 71) #[] #[]) := by rw [cell_of_blk (blk_below bw1 k8)]; rfl
  have c1 : w1.cell? ⟨w.heap.size, 2, none⟩ = some (.int .i64 x) := by rw [cell_of_blk kC]; rfl
  have c2 : w1.cell? ⟨w.heap.size, 3, none⟩ = some (.int .i64 y) := by rw [cell_of_blk kC]; rfl
  have KR := Lib.hid (And.intro kC (And.intro kR bw1))
  have CT := Lib.hid (turn4_any x y _ : Calls Try.prog 71 _ w1 _)
  clear kC kR bw1 p0 p1 p2 p3 k8 k5 k7 kp
  go_wp2_with fail
  refine CT.out.mono ?_
  rintro e w2 ⟨rfl, b2⟩
  have kR := blk_below b2 KR.out.2.1
  have kC := blk_below b2 KR.out.1
  have B2 := Lib.hid (KR.out.2.2.then_below b2 KR.out.2.2.size)
  have k5 : w2.cell? ⟨h5, 0, none⟩ = some (.int .i64 k) := by rw [cell_of_blk (blk_below B2.out KK.out.1)]; rfl
  obtain ⟨s0, s1, s2, _⟩ := blk4 (blk_below B2.out KK.out.2)
  have e0 : w2.cell? ⟨w.heap.size, 0, none⟩ = some (.string nm) := by rw [cell_of_blk kC]; rfl
  have e4 : w2.cell? ⟨w.heap.size, 4, none⟩ = some (.int .i64 pq) := by rw [cell_of_blk kC]; rfl
  obtain ⟨r0, r1, r2, r3, r4⟩ := five kR
  have f0 := frozen_of_blk kR 0
  have f1 := frozen_of_blk kR 1
  have f2 := frozen_of_blk kR 2
  have f3 := frozen_of_blk kR 3
  have f4 := frozen_of_blk kR 4
  clear b2 kR kC CT t0 c1 c2
  go_wp2_with fail
  refine bodyPost_ret (v := .agg #[.int .i64 k, .string nm, .int .i64 (sx + x), .int .i64 (sy + y), .int .i64 ((0 + pq) % 4)]) (by unfold results; simp only [Try.results49]; go_simp) rfl ⟨rfl, ?_⟩
  exact ((((B2.out.setCell (by simp) _).setCell (by simp) _).setCell (by simp) _).setCell (by simp) _).setCell (by simp) _

set_option maxRecDepth 100000 in
set_option maxHeartbeats 4000000 in
theorem placing1_1 (key : ByteArray) (W H : Int) (A : Option Addr) (n c k : Nat) (sx sy : Int) (sk : Bool) (nm pt : ByteArray) (x y pq : Int) (h8 h5 h7 hp : Nat) (w : World) (hw : 1 ≤ W ∧ W ≤ 500000) (hh : 1 ≤ H ∧ H ≤ 500000)
    (sx0 : 0 ≤ sx) (sx1 : sx ≤ 500000) (sy0 : 0 ≤ sy) (sy1 : sy ≤ 500000) (px0 : 0 ≤ x) (px1 : x ≤ W) (py0 : 0 ≤ y) (py1 : y ≤ H) (pq0 : 0 ≤ pq) (pq1 : pq ≤ 3)
    (k8 : w.heap[h8]? = some (.cells #[.func (.func 68) #[] #[.pointer (some ⟨hp, 0, none⟩)]] 93 (0, 0))) (k5 : w.heap[h5]? = some (.cells #[.int .i64 k] 3 (0, 0)))
    (k7 : w.heap[h7]? = some (.cells #[.int .i64 sx, .int .i64 sy, .int .i64 1, .bool sk] 70 (0, 0))) (kp : w.heap[hp]? = some (.cells #[.string key, .int .i64 W, .int .i64 H, .slice A n c] 28 (0, 0))) :
    Calls Try.prog 49 #[.agg #[.string nm, .string pt, .int .i64 x, .int .i64 y, .int .i64 pq], .pointer (some ⟨h8, 0, none⟩), .pointer (some ⟨h5, 0, none⟩), .pointer (some ⟨h7, 0, none⟩)] w (SpotIs k nm (sx + (H - y)) (sy + x) ((1 + pq) % 4) w) := by
  obtain ⟨hw0, hw1⟩ := hw
  obtain ⟨hh0, hh1⟩ := hh
  have hw : 1 ≤ W ∧ W ≤ 500000 := ⟨hw0, hw1⟩
  have hh : 1 ≤ H ∧ H ≤ 500000 := ⟨hh0, hh1⟩
  have KK := Lib.hid (And.intro k5 k7)
  go_enter Try.func49, Try.ntmps49
  go_upto_region 1 with (fail)
  have bw1 : Below w.heap.size w ((w.alloc (Obj.cells #[.string nm, .string pt, .int .i64 x, .int .i64 y, .int .i64 pq] 50)).alloc (Obj.cells #[.int .i64 0, .string ⟨#[]⟩, .int .i64 0, .int .i64 0, .int .i64 0] 41)) := (((Below.refl _ _).alloc (Nat.le_refl _) _).alloc (by simp) _)
  have kC : ((w.alloc (Obj.cells #[.string nm, .string pt, .int .i64 x, .int .i64 y, .int .i64 pq] 50)).alloc (Obj.cells #[.int .i64 0, .string ⟨#[]⟩, .int .i64 0, .int .i64 0, .int .i64 0] 41)).heap[w.heap.size]? = some (.cells #[.string nm, .string pt, .int .i64 x, .int .i64 y, .int .i64 pq] 50 (0, 0)) := (blk_alloc (blk_new w _ rfl) _)
  have kR : ((w.alloc (Obj.cells #[.string nm, .string pt, .int .i64 x, .int .i64 y, .int .i64 pq] 50)).alloc (Obj.cells #[.int .i64 0, .string ⟨#[]⟩, .int .i64 0, .int .i64 0, .int .i64 0] 41)).heap[w.heap.size + 1]? = some (.cells #[.int .i64 0, .string ⟨#[]⟩, .int .i64 0, .int .i64 0, .int .i64 0] 41 (0, 0)) := (blk_new _ _ (by simp))
  generalize ((w.alloc (Obj.cells #[.string nm, .string pt, .int .i64 x, .int .i64 y, .int .i64 pq] 50)).alloc (Obj.cells #[.int .i64 0, .string ⟨#[]⟩, .int .i64 0, .int .i64 0, .int .i64 0] 41)) = w1 at *
  obtain ⟨p0, p1, p2, p3⟩ := blk4 (blk_below bw1 kp)
  have t0 : w1.cell? ⟨h8, 0, none⟩ = some (.func (.func 68) #[] #[.pointer (some ⟨hp, 0, none⟩)]) := by rw [cell_of_blk (blk_below bw1 k8)]; rfl
  have c1 : w1.cell? ⟨w.heap.size, 2, none⟩ = some (.int .i64 x) := by rw [cell_of_blk kC]; rfl
  have c2 : w1.cell? ⟨w.heap.size, 3, none⟩ = some (.int .i64 y) := by rw [cell_of_blk kC]; rfl
  have KR := Lib.hid (And.intro kC (And.intro kR bw1))
  have CT := Lib.hid (turn1_any x y W H hp _ ⟨px0, by omega⟩ ⟨py0, by omega⟩ hw hh p1 p2 : Calls Try.prog 68 _ w1 _)
  clear kC kR bw1 p0 p1 p2 p3 k8 k5 k7 kp
  go_wp2_with fail
  refine CT.out.mono ?_
  rintro e w2 ⟨rfl, b2⟩
  have kR := blk_below b2 KR.out.2.1
  have kC := blk_below b2 KR.out.1
  have B2 := Lib.hid (KR.out.2.2.then_below b2 KR.out.2.2.size)
  have k5 : w2.cell? ⟨h5, 0, none⟩ = some (.int .i64 k) := by rw [cell_of_blk (blk_below B2.out KK.out.1)]; rfl
  obtain ⟨s0, s1, s2, _⟩ := blk4 (blk_below B2.out KK.out.2)
  have e0 : w2.cell? ⟨w.heap.size, 0, none⟩ = some (.string nm) := by rw [cell_of_blk kC]; rfl
  have e4 : w2.cell? ⟨w.heap.size, 4, none⟩ = some (.int .i64 pq) := by rw [cell_of_blk kC]; rfl
  obtain ⟨r0, r1, r2, r3, r4⟩ := five kR
  have f0 := frozen_of_blk kR 0
  have f1 := frozen_of_blk kR 1
  have f2 := frozen_of_blk kR 2
  have f3 := frozen_of_blk kR 3
  have f4 := frozen_of_blk kR 4
  clear b2 kR kC CT t0 c1 c2
  go_wp2_with fail
  refine bodyPost_ret (v := .agg #[.int .i64 k, .string nm, .int .i64 (sx + (H - y)), .int .i64 (sy + x), .int .i64 ((1 + pq) % 4)]) (by unfold results; simp only [Try.results49]; go_simp) rfl ⟨rfl, ?_⟩
  exact ((((B2.out.setCell (by simp) _).setCell (by simp) _).setCell (by simp) _).setCell (by simp) _).setCell (by simp) _

set_option maxRecDepth 100000 in
set_option maxHeartbeats 4000000 in
theorem placing1_2 (key : ByteArray) (W H : Int) (A : Option Addr) (n c k : Nat) (sx sy : Int) (sk : Bool) (nm pt : ByteArray) (x y pq : Int) (h8 h5 h7 hp : Nat) (w : World) (hw : 1 ≤ W ∧ W ≤ 500000) (hh : 1 ≤ H ∧ H ≤ 500000)
    (sx0 : 0 ≤ sx) (sx1 : sx ≤ 500000) (sy0 : 0 ≤ sy) (sy1 : sy ≤ 500000) (px0 : 0 ≤ x) (px1 : x ≤ W) (py0 : 0 ≤ y) (py1 : y ≤ H) (pq0 : 0 ≤ pq) (pq1 : pq ≤ 3)
    (k8 : w.heap[h8]? = some (.cells #[.func (.func 69) #[] #[.pointer (some ⟨hp, 0, none⟩)]] 93 (0, 0))) (k5 : w.heap[h5]? = some (.cells #[.int .i64 k] 3 (0, 0)))
    (k7 : w.heap[h7]? = some (.cells #[.int .i64 sx, .int .i64 sy, .int .i64 2, .bool sk] 70 (0, 0))) (kp : w.heap[hp]? = some (.cells #[.string key, .int .i64 W, .int .i64 H, .slice A n c] 28 (0, 0))) :
    Calls Try.prog 49 #[.agg #[.string nm, .string pt, .int .i64 x, .int .i64 y, .int .i64 pq], .pointer (some ⟨h8, 0, none⟩), .pointer (some ⟨h5, 0, none⟩), .pointer (some ⟨h7, 0, none⟩)] w (SpotIs k nm (sx + (W - x)) (sy + (H - y)) ((2 + pq) % 4) w) := by
  obtain ⟨hw0, hw1⟩ := hw
  obtain ⟨hh0, hh1⟩ := hh
  have hw : 1 ≤ W ∧ W ≤ 500000 := ⟨hw0, hw1⟩
  have hh : 1 ≤ H ∧ H ≤ 500000 := ⟨hh0, hh1⟩
  have KK := Lib.hid (And.intro k5 k7)
  go_enter Try.func49, Try.ntmps49
  go_upto_region 1 with (fail)
  have bw1 : Below w.heap.size w ((w.alloc (Obj.cells #[.string nm, .string pt, .int .i64 x, .int .i64 y, .int .i64 pq] 50)).alloc (Obj.cells #[.int .i64 0, .string ⟨#[]⟩, .int .i64 0, .int .i64 0, .int .i64 0] 41)) := (((Below.refl _ _).alloc (Nat.le_refl _) _).alloc (by simp) _)
  have kC : ((w.alloc (Obj.cells #[.string nm, .string pt, .int .i64 x, .int .i64 y, .int .i64 pq] 50)).alloc (Obj.cells #[.int .i64 0, .string ⟨#[]⟩, .int .i64 0, .int .i64 0, .int .i64 0] 41)).heap[w.heap.size]? = some (.cells #[.string nm, .string pt, .int .i64 x, .int .i64 y, .int .i64 pq] 50 (0, 0)) := (blk_alloc (blk_new w _ rfl) _)
  have kR : ((w.alloc (Obj.cells #[.string nm, .string pt, .int .i64 x, .int .i64 y, .int .i64 pq] 50)).alloc (Obj.cells #[.int .i64 0, .string ⟨#[]⟩, .int .i64 0, .int .i64 0, .int .i64 0] 41)).heap[w.heap.size + 1]? = some (.cells #[.int .i64 0, .string ⟨#[]⟩, .int .i64 0, .int .i64 0, .int .i64 0] 41 (0, 0)) := (blk_new _ _ (by simp))
  generalize ((w.alloc (Obj.cells #[.string nm, .string pt, .int .i64 x, .int .i64 y, .int .i64 pq] 50)).alloc (Obj.cells #[.int .i64 0, .string ⟨#[]⟩, .int .i64 0, .int .i64 0, .int .i64 0] 41)) = w1 at *
  obtain ⟨p0, p1, p2, p3⟩ := blk4 (blk_below bw1 kp)
  have t0 : w1.cell? ⟨h8, 0, none⟩ = some (.func (.func 69) #[] #[.pointer (some ⟨hp, 0, none⟩)]) := by rw [cell_of_blk (blk_below bw1 k8)]; rfl
  have c1 : w1.cell? ⟨w.heap.size, 2, none⟩ = some (.int .i64 x) := by rw [cell_of_blk kC]; rfl
  have c2 : w1.cell? ⟨w.heap.size, 3, none⟩ = some (.int .i64 y) := by rw [cell_of_blk kC]; rfl
  have KR := Lib.hid (And.intro kC (And.intro kR bw1))
  have CT := Lib.hid (turn2_any x y W H hp _ ⟨px0, by omega⟩ ⟨py0, by omega⟩ hw hh p1 p2 : Calls Try.prog 69 _ w1 _)
  clear kC kR bw1 p0 p1 p2 p3 k8 k5 k7 kp
  go_wp2_with fail
  refine CT.out.mono ?_
  rintro e w2 ⟨rfl, b2⟩
  have kR := blk_below b2 KR.out.2.1
  have kC := blk_below b2 KR.out.1
  have B2 := Lib.hid (KR.out.2.2.then_below b2 KR.out.2.2.size)
  have k5 : w2.cell? ⟨h5, 0, none⟩ = some (.int .i64 k) := by rw [cell_of_blk (blk_below B2.out KK.out.1)]; rfl
  obtain ⟨s0, s1, s2, _⟩ := blk4 (blk_below B2.out KK.out.2)
  have e0 : w2.cell? ⟨w.heap.size, 0, none⟩ = some (.string nm) := by rw [cell_of_blk kC]; rfl
  have e4 : w2.cell? ⟨w.heap.size, 4, none⟩ = some (.int .i64 pq) := by rw [cell_of_blk kC]; rfl
  obtain ⟨r0, r1, r2, r3, r4⟩ := five kR
  have f0 := frozen_of_blk kR 0
  have f1 := frozen_of_blk kR 1
  have f2 := frozen_of_blk kR 2
  have f3 := frozen_of_blk kR 3
  have f4 := frozen_of_blk kR 4
  clear b2 kR kC CT t0 c1 c2
  go_wp2_with fail
  refine bodyPost_ret (v := .agg #[.int .i64 k, .string nm, .int .i64 (sx + (W - x)), .int .i64 (sy + (H - y)), .int .i64 ((2 + pq) % 4)]) (by unfold results; simp only [Try.results49]; go_simp) rfl ⟨rfl, ?_⟩
  exact ((((B2.out.setCell (by simp) _).setCell (by simp) _).setCell (by simp) _).setCell (by simp) _).setCell (by simp) _

set_option maxRecDepth 100000 in
set_option maxHeartbeats 4000000 in
theorem placing1_3 (key : ByteArray) (W H : Int) (A : Option Addr) (n c k : Nat) (sx sy : Int) (sk : Bool) (nm pt : ByteArray) (x y pq : Int) (h8 h5 h7 hp : Nat) (w : World) (hw : 1 ≤ W ∧ W ≤ 500000) (hh : 1 ≤ H ∧ H ≤ 500000)
    (sx0 : 0 ≤ sx) (sx1 : sx ≤ 500000) (sy0 : 0 ≤ sy) (sy1 : sy ≤ 500000) (px0 : 0 ≤ x) (px1 : x ≤ W) (py0 : 0 ≤ y) (py1 : y ≤ H) (pq0 : 0 ≤ pq) (pq1 : pq ≤ 3)
    (k8 : w.heap[h8]? = some (.cells #[.func (.func 70) #[] #[.pointer (some ⟨hp, 0, none⟩)]] 93 (0, 0))) (k5 : w.heap[h5]? = some (.cells #[.int .i64 k] 3 (0, 0)))
    (k7 : w.heap[h7]? = some (.cells #[.int .i64 sx, .int .i64 sy, .int .i64 3, .bool sk] 70 (0, 0))) (kp : w.heap[hp]? = some (.cells #[.string key, .int .i64 W, .int .i64 H, .slice A n c] 28 (0, 0))) :
    Calls Try.prog 49 #[.agg #[.string nm, .string pt, .int .i64 x, .int .i64 y, .int .i64 pq], .pointer (some ⟨h8, 0, none⟩), .pointer (some ⟨h5, 0, none⟩), .pointer (some ⟨h7, 0, none⟩)] w (SpotIs k nm (sx + y) (sy + (W - x)) ((3 + pq) % 4) w) := by
  obtain ⟨hw0, hw1⟩ := hw
  obtain ⟨hh0, hh1⟩ := hh
  have hw : 1 ≤ W ∧ W ≤ 500000 := ⟨hw0, hw1⟩
  have hh : 1 ≤ H ∧ H ≤ 500000 := ⟨hh0, hh1⟩
  have KK := Lib.hid (And.intro k5 k7)
  go_enter Try.func49, Try.ntmps49
  go_upto_region 1 with (fail)
  have bw1 : Below w.heap.size w ((w.alloc (Obj.cells #[.string nm, .string pt, .int .i64 x, .int .i64 y, .int .i64 pq] 50)).alloc (Obj.cells #[.int .i64 0, .string ⟨#[]⟩, .int .i64 0, .int .i64 0, .int .i64 0] 41)) := (((Below.refl _ _).alloc (Nat.le_refl _) _).alloc (by simp) _)
  have kC : ((w.alloc (Obj.cells #[.string nm, .string pt, .int .i64 x, .int .i64 y, .int .i64 pq] 50)).alloc (Obj.cells #[.int .i64 0, .string ⟨#[]⟩, .int .i64 0, .int .i64 0, .int .i64 0] 41)).heap[w.heap.size]? = some (.cells #[.string nm, .string pt, .int .i64 x, .int .i64 y, .int .i64 pq] 50 (0, 0)) := (blk_alloc (blk_new w _ rfl) _)
  have kR : ((w.alloc (Obj.cells #[.string nm, .string pt, .int .i64 x, .int .i64 y, .int .i64 pq] 50)).alloc (Obj.cells #[.int .i64 0, .string ⟨#[]⟩, .int .i64 0, .int .i64 0, .int .i64 0] 41)).heap[w.heap.size + 1]? = some (.cells #[.int .i64 0, .string ⟨#[]⟩, .int .i64 0, .int .i64 0, .int .i64 0] 41 (0, 0)) := (blk_new _ _ (by simp))
  generalize ((w.alloc (Obj.cells #[.string nm, .string pt, .int .i64 x, .int .i64 y, .int .i64 pq] 50)).alloc (Obj.cells #[.int .i64 0, .string ⟨#[]⟩, .int .i64 0, .int .i64 0, .int .i64 0] 41)) = w1 at *
  obtain ⟨p0, p1, p2, p3⟩ := blk4 (blk_below bw1 kp)
  have t0 : w1.cell? ⟨h8, 0, none⟩ = some (.func (.func 70) #[] #[.pointer (some ⟨hp, 0, none⟩)]) := by rw [cell_of_blk (blk_below bw1 k8)]; rfl
  have c1 : w1.cell? ⟨w.heap.size, 2, none⟩ = some (.int .i64 x) := by rw [cell_of_blk kC]; rfl
  have c2 : w1.cell? ⟨w.heap.size, 3, none⟩ = some (.int .i64 y) := by rw [cell_of_blk kC]; rfl
  have KR := Lib.hid (And.intro kC (And.intro kR bw1))
  have CT := Lib.hid (turn3_any x y W H hp _ ⟨px0, by omega⟩ ⟨py0, by omega⟩ hw hh p1 p2 : Calls Try.prog 70 _ w1 _)
  clear kC kR bw1 p0 p1 p2 p3 k8 k5 k7 kp
  go_wp2_with fail
  refine CT.out.mono ?_
  rintro e w2 ⟨rfl, b2⟩
  have kR := blk_below b2 KR.out.2.1
  have kC := blk_below b2 KR.out.1
  have B2 := Lib.hid (KR.out.2.2.then_below b2 KR.out.2.2.size)
  have k5 : w2.cell? ⟨h5, 0, none⟩ = some (.int .i64 k) := by rw [cell_of_blk (blk_below B2.out KK.out.1)]; rfl
  obtain ⟨s0, s1, s2, _⟩ := blk4 (blk_below B2.out KK.out.2)
  have e0 : w2.cell? ⟨w.heap.size, 0, none⟩ = some (.string nm) := by rw [cell_of_blk kC]; rfl
  have e4 : w2.cell? ⟨w.heap.size, 4, none⟩ = some (.int .i64 pq) := by rw [cell_of_blk kC]; rfl
  obtain ⟨r0, r1, r2, r3, r4⟩ := five kR
  have f0 := frozen_of_blk kR 0
  have f1 := frozen_of_blk kR 1
  have f2 := frozen_of_blk kR 2
  have f3 := frozen_of_blk kR 3
  have f4 := frozen_of_blk kR 4
  clear b2 kR kC CT t0 c1 c2
  go_wp2_with fail
  refine bodyPost_ret (v := .agg #[.int .i64 k, .string nm, .int .i64 (sx + y), .int .i64 (sy + (W - x)), .int .i64 ((3 + pq) % 4)]) (by unfold results; simp only [Try.results49]; go_simp) rfl ⟨rfl, ?_⟩
  exact ((((B2.out.setCell (by simp) _).setCell (by simp) _).setCell (by simp) _).setCell (by simp) _).setCell (by simp) _

theorem spotIs_of {W H : Int} {k : Nat} {s : Sl} {p : Pl} {qn : Nat} {w : World} {x y q : Int} {e : Ending} {w' : World} (hq : s.q = qn) (h : SpotIs k p.name x y q w e w') (hx : (rotK W H p.x p.y qn).1 + s.x = x) (hy : (rotK W H p.x p.y qn).2.1 + s.y = y) (hz : (p.q + s.q) % 4 = q) :
    e = .returned (.agg (spotP W H k s p).cells.toArray) ∧ Below w.heap.size w w' := by
  obtain ⟨rfl, hb⟩ := h
  refine ⟨?_, hb⟩
  subst hx hy hz
  unfold spotP
  rw [hq]
  rfl
theorem placing1_any (key : ByteArray) (W H : Int) (A : Option Addr) (n c k : Nat) (t : Sl) (p : Pl) (h8 h5 h7 hp : Nat) (w2 : World) (hw : 1 ≤ W ∧ W ≤ 500000) (hh : 1 ≤ H ∧ H ≤ 500000) (hs : SlIn t) (hpl : PlIn W H p) (hv : PlacingB key W H A n c k t h8 h5 h7 hp w2) :
    Calls Try.prog 49 #[.agg #[.string p.name, .string p.part, .int .i64 p.x, .int .i64 p.y, .int .i64 p.q], .pointer (some ⟨h8, 0, none⟩), .pointer (some ⟨h5, 0, none⟩), .pointer (some ⟨h7, 0, none⟩)] w2 fun e w' =>
      e = .returned (.agg (spotP W H k t p).cells.toArray) ∧ Below w2.heap.size w2 w' := by
  obtain ⟨k8, k5, k7, kp⟩ := hv
  obtain ⟨⟨sx0, sx1⟩, ⟨sy0, sy1⟩, sq0, sq1⟩ := hs
  obtain ⟨⟨px0, px1⟩, ⟨py0, py1⟩, pq0, pq1⟩ := hpl
  obtain ⟨r0, r1, r2, r3⟩ := rot_turn W H p.x p.y
  obtain ⟨qn, hq⟩ := Int.eq_ofNat_of_zero_le sq0
  have h4 : qn = 0 ∨ qn = 1 ∨ qn = 2 ∨ qn = 3 := by omega
  rw [hq] at k8 k7
  rcases h4 with rfl | rfl | rfl | rfl
  · exact (placing1_0 key W H A n c k t.x t.y t.skip p.name p.part p.x p.y p.q h8 h5 h7 hp w2 hw hh sx0 sx1 sy0 sy1 px0 px1 py0 py1 pq0 pq1 k8 k5 k7 kp).mono fun e w' h => spotIs_of hq h (by rw [r0]; exact Int.add_comm _ _) (by rw [r0]; exact Int.add_comm _ _) (by rw [hq, Int.add_comm]; rfl)
  · exact (placing1_1 key W H A n c k t.x t.y t.skip p.name p.part p.x p.y p.q h8 h5 h7 hp w2 hw hh sx0 sx1 sy0 sy1 px0 px1 py0 py1 pq0 pq1 k8 k5 k7 kp).mono fun e w' h => spotIs_of hq h (by rw [r1]; exact Int.add_comm _ _) (by rw [r1]; exact Int.add_comm _ _) (by rw [hq, Int.add_comm]; rfl)
  · exact (placing1_2 key W H A n c k t.x t.y t.skip p.name p.part p.x p.y p.q h8 h5 h7 hp w2 hw hh sx0 sx1 sy0 sy1 px0 px1 py0 py1 pq0 pq1 k8 k5 k7 kp).mono fun e w' h => spotIs_of hq h (by rw [r2]; exact Int.add_comm _ _) (by rw [r2]; exact Int.add_comm _ _) (by rw [hq, Int.add_comm]; rfl)
  · exact (placing1_3 key W H A n c k t.x t.y t.skip p.name p.part p.x p.y p.q h8 h5 h7 hp w2 hw hh sx0 sx1 sy0 sy1 px0 px1 py0 py1 pq0 pq1 k8 k5 k7 kp).mono fun e w' h => spotIs_of hq h (by rw [r3]; exact Int.add_comm _ _) (by rw [r3]; exact Int.add_comm _ _) (by rw [hq, Int.add_comm]; rfl)
end Go.Proofs.Ytopnadilfjakiaa
