/-
  The walks of the areas of boards, and of the reference's boxes of boards.
-/
import Derived.Test.YtopnadilfjakiaaPanC
import Derived.Test.YtopnadilfjakiaaRefC
namespace Go.Proofs.Ytopnadilfjakiaa
open Go.RowKit

set_option maxHeartbeats 400000 in
theorem quarter_any (x y h : Int) (w : World) (hy : -10000000 ≤ y ∧ y ≤ 10000000) (hh : -10000000 ≤ h ∧ h ≤ 10000000) : Calls Try.prog 53 #[.int .i64 x, .int .i64 y, .int .i64 h] w fun e w' => e = .returned (.tuple #[.int .i64 (h - y), .int .i64 x]) ∧ w = w' := by
  go_enter Try.func53, Try.ntmps53
  go_wp2_with fail
  go_ret2
  exact ⟨rfl, rfl⟩

set_option maxRecDepth 100000 in
set_option maxHeartbeats 4000000 in
theorem placed_any (key : ByteArray) (W H : Int) (A : Option Addr) (n c : Nat) (sx sy : Int) (q : Nat) (sk : Bool) (x y : Int) (w : World) (hw : 1 ≤ W ∧ W ≤ 500000) (hh : 1 ≤ H ∧ H ≤ 500000) (hsx : 0 ≤ sx ∧ sx ≤ 500000) (hsy : 0 ≤ sy ∧ sy ≤ 500000) (hx : 0 ≤ x ∧ x ≤ W) (hy : 0 ≤ y ∧ y ≤ H) (hq : q ≤ 3) :
    Calls Try.prog 38 #[prod key W H A n c, .agg #[.int .i64 sx, .int .i64 sy, .int .i64 q, .bool sk], .int .i64 x, .int .i64 y] w fun e w' =>
      e = .returned (.tuple #[.int .i64 ((rotK W H x y q).1 + sx), .int .i64 ((rotK W H x y q).2.1 + sy)]) ∧ Below w.heap.size w w' := by
  have HBD := Lib.hid (rotK_bd hw hh hx hy)
  have HK1 : Hid (∀ k, (rotK W H x y (k + 1)).1 = (rotK W H x y k).2.2.2 - (rotK W H x y k).2.1 ∧ (rotK W H x y (k + 1)).2.1 = (rotK W H x y k).1 ∧ (rotK W H x y (k + 1)).2.2.1 = (rotK W H x y k).2.2.2 ∧ (rotK W H x y (k + 1)).2.2.2 = (rotK W H x y k).2.2.1) := fun k => ⟨rfl, rfl, rfl, rfl⟩
  have HK0 : Hid (rotK W H x y 0 = (x, y, W, H)) := rfl
  obtain ⟨w0, w1⟩ := hw
  obtain ⟨h0, h1⟩ := hh
  obtain ⟨x0, x1⟩ := hsx
  obtain ⟨y0, y1⟩ := hsy
  clear hx hy
  generalize rotK W H x y = R at *
  have kP : ((w.alloc (Obj.cells #[.string key, .int .i64 W, .int .i64 H, .slice A n c] 28)).alloc (Obj.cells #[.int .i64 sx, .int .i64 sy, .int .i64 q, .bool sk] 70)).heap[w.heap.size + 1]? = some (.cells #[.int .i64 sx, .int .i64 sy, .int .i64 q, .bool sk] 70 (0, 0)) := blk_new _ _ (by simp)
  have bP : Below w.heap.size w ((w.alloc (Obj.cells #[.string key, .int .i64 W, .int .i64 H, .slice A n c] 28)).alloc (Obj.cells #[.int .i64 sx, .int .i64 sy, .int .i64 q, .bool sk] 70)) := ((Below.refl _ _).alloc (Nat.le_refl _) _).alloc (by simp) _
  have HP := Lib.hid (And.intro kP bP)
  clear kP bP
  go_enter Try.func38, Try.ntmps38
  go_wp2_with fail
  go_quiet (fail)
  go_wp2_with fail
  go_loopw [2, 3, 10, 11, 18] (fun s2 s3 s10 s11 kk wr => ∃ k : Nat, k ≤ q ∧ kk = .int .i64 k ∧ s2 = .int .i64 (R k).1 ∧ s3 = .int .i64 (R k).2.1 ∧ s10 = .int .i64 (R k).2.2.1 ∧ s11 = .int .i64 (R k).2.2.2 ∧ w.heap.size + 1 < wr.heap.size ∧ Hid (Below w.heap.size w wr ∧ wr.heap[w.heap.size + 1]? = some (.cells #[.int .i64 sx, .int .i64 sy, .int .i64 q, .bool sk] 70 (0, 0)))) (fun _ _ _ _ kk _ => q - (intOf kk).toNat)
  case atStart => exact ⟨0, by omega, rfl, by rw [HK0.out], by rw [HK0.out], by rw [HK0.out], by rw [HK0.out], by simp, HP.out.2.drawN _, HP.out.1⟩
  case round =>
    obtain ⟨k, hk, rfl, rfl, rfl, rfl, rfl, hsz, HB⟩ := hrel
    obtain ⟨⟨a0, a1⟩, ⟨a2, a3⟩, a4, a5⟩ := HBD.out k
    by_cases hlt : k < q
    · have HN := Lib.hid (HK1.out k)
      generalize (R k).1 = r1 at *
      generalize (R k).2.1 = r2 at *
      generalize (R k).2.2.1 = r3 at *
      generalize (R k).2.2.2 = r4 at *
      go_wp2_with fail
      refine (quarter_any r1 r2 r4 _ ⟨by omega, by omega⟩ ⟨by omega, by omega⟩).mono ?_
      rintro e w' ⟨rfl, rfl⟩
      go_wp2_with fail
      go_roundw
      case rel => exact ⟨k + 1, by omega, by go_num, by rw [HN.out.1], by rw [HN.out.2.1], by rw [HN.out.2.2.1], by rw [HN.out.2.2.2], hsz, HB⟩
      case measure => simp [intOf]; omega
    · obtain rfl : k = q := by omega
      obtain ⟨c0, c1, c2, c3⟩ := blk4 HB.out.2
      generalize hr1 : (R k).1 = r1 at *
      generalize hr2 : (R k).2.1 = r2 at *
      have HR12 := Lib.hid (And.intro hr1 hr2)
      clear hr1 hr2
      have e1 : IntKind.i64.wrap (r1 + sx) = r1 + sx := IntWalk.i64_in _ (by omega)
      have e2 : IntKind.i64.wrap (r2 + sy) = r2 + sy := IntWalk.i64_in _ (by omega)
      go_wp2_with fail
      go_quiet (fail)
      go_wp2_with fail
      go_ret2
      refine ⟨?_, HB.out.1.drawN _⟩
      rw [HR12.out.1, HR12.out.2]
      rfl

end Go.Proofs.Ytopnadilfjakiaa
