/-
  The walks of the areas of boards, and of the reference's boxes of boards.
-/
import Derived.Test.YtiehkcbjfamnkaaPanC
import Derived.Test.YtiehkcbjfamnkaaRefC
namespace Go.Proofs.Ytiehkcbjfamnkaa
open Go.RowKit

set_option maxRecDepth 100000 in
set_option maxHeartbeats 2000000 in
theorem boardArea_any (key : ByteArray) (W H : Int) (A : Option Addr) (n c : Nat) (s : Sl) (w : World) (hw : 1 ≤ W ∧ W ≤ 500000) (hh : 1 ≤ H ∧ H ≤ 500000) (hx : 0 ≤ s.x ∧ s.x ≤ 500000) (hy : 0 ≤ s.y ∧ s.y ≤ 500000) (hq : 0 ≤ s.q) :
    Calls Try.prog 72 #[prod key W H A n c, .agg #[.int .i64 s.x, .int .i64 s.y, .int .i64 s.q, .bool s.skip]] w fun e w' =>
      e = .returned (.agg #[.int .i64 (slAr W H s).xf, .int .i64 (slAr W H s).xt, .int .i64 (slAr W H s).yf, .int .i64 (slAr W H s).yt]) ∧ Below w.heap.size w w' := by
  obtain ⟨x, y, q, sk⟩ := s
  dsimp only [slAr] at *
  obtain ⟨⟨t0, t1⟩, t2, t3⟩ := turn_pos (q := q) hw hh
  have CT := Lib.hid (fun W' => turned_any W H q W' hq)
  generalize turnW W H q = tw at *
  generalize turnH W H q = th at *
  obtain ⟨w0, w1⟩ := hw
  obtain ⟨h0, h1⟩ := hh
  obtain ⟨x0, x1⟩ := hx
  obtain ⟨y0, y1⟩ := hy
  go_enter Try.func72, Try.ntmps72
  go_wp2_with fail
  refine (CT.out _).mono ?_
  rintro e w' ⟨rfl, rfl⟩
  go_wp2_with fail
  refine bodyPost_ret (v := .agg #[.int .i64 x, .int .i64 (x + tw), .int .i64 y, .int .i64 (y + th)]) (by unfold results; simp only [Try.results72]; go_simp) rfl ⟨rfl, ?_⟩
  exact (((Below.refl _ _).alloc (Nat.le_refl _) _).alloc (by simp) _).alloc (by simp; omega) _

set_option maxHeartbeats 400000 in
theorem quarter_any (x y h : Int) (w : World) (hy : -10000000 ≤ y ∧ y ≤ 10000000) (hh : -10000000 ≤ h ∧ h ≤ 10000000) : Calls Try.prog 76 #[.int .i64 x, .int .i64 y, .int .i64 h] w fun e w' => e = .returned (.tuple #[.int .i64 (h - y), .int .i64 x]) ∧ w = w' := by
  go_enter Try.func76, Try.ntmps76
  go_wp2_with fail
  go_ret2
  exact ⟨rfl, rfl⟩

set_option maxRecDepth 100000 in
set_option maxHeartbeats 4000000 in
theorem placed_any (key : ByteArray) (W H : Int) (A : Option Addr) (n c : Nat) (sx sy : Int) (q : Nat) (sk : Bool) (x y : Int) (w : World) (hw : 1 ≤ W ∧ W ≤ 500000) (hh : 1 ≤ H ∧ H ≤ 500000) (hsx : 0 ≤ sx ∧ sx ≤ 500000) (hsy : 0 ≤ sy ∧ sy ≤ 500000) (hx : 0 ≤ x ∧ x ≤ W) (hy : 0 ≤ y ∧ y ≤ H) (hq : q ≤ 3) :
    Calls Try.prog 66 #[prod key W H A n c, .agg #[.int .i64 sx, .int .i64 sy, .int .i64 q, .bool sk], .int .i64 x, .int .i64 y] w fun e w' =>
      e = .returned (.tuple #[.int .i64 ((rotK W H x y q).1 + sx), .int .i64 ((rotK W H x y q).2.1 + sy)]) ∧ Below w.heap.size w w' := by
  have HBD := Lib.hid (rotK_bd hw hh hx hy)
  have HK1 : Hid (∀ k, (rotK W H x y (k + 1)).1 = (rotK W H x y k).2.2.2 - (rotK W H x y k).2.1 ∧ (rotK W H x y (k + 1)).2.1 = (rotK W H x y k).1 ∧ (rotK W H x y (k + 1)).2.2.1 = (rotK W H x y k).2.2.2 ∧ (rotK W H x y (k + 1)).2.2.2 = (rotK W H x y k).2.2.1) := fun k => ⟨rfl, rfl, rfl, rfl⟩
  have HK0 : Hid (rotK W H x y 0 = (x, y, W, H)) := rfl
  obtain ⟨w0, w1⟩ := hw
  obtain ⟨h0, h1⟩ := hh
  obtain ⟨x0, x1⟩ := hsx
  obtain ⟨y0, y1⟩ := hsy
  clear hx hy
  generalize rotK W H x y = R at *
  have kP : ((w.alloc (Obj.cells #[.string key, .int .i64 W, .int .i64 H, .slice A n c] 28)).alloc (Obj.cells #[.int .i64 sx, .int .i64 sy, .int .i64 q, .bool sk] 112)).heap[w.heap.size + 1]? = some (.cells #[.int .i64 sx, .int .i64 sy, .int .i64 q, .bool sk] 112 (0, 0)) := blk_new _ _ (by simp)
  have bP : Below w.heap.size w ((w.alloc (Obj.cells #[.string key, .int .i64 W, .int .i64 H, .slice A n c] 28)).alloc (Obj.cells #[.int .i64 sx, .int .i64 sy, .int .i64 q, .bool sk] 112)) := ((Below.refl _ _).alloc (Nat.le_refl _) _).alloc (by simp) _
  have HP := Lib.hid (And.intro kP bP)
  clear kP bP
  go_enter Try.func66, Try.ntmps66
  go_wp2_with fail
  go_quiet (fail)
  go_wp2_with fail
  go_loopw [2, 3, 10, 11, 18] (fun s2 s3 s10 s11 kk wr => ∃ k : Nat, k ≤ q ∧ kk = .int .i64 k ∧ s2 = .int .i64 (R k).1 ∧ s3 = .int .i64 (R k).2.1 ∧ s10 = .int .i64 (R k).2.2.1 ∧ s11 = .int .i64 (R k).2.2.2 ∧ w.heap.size + 1 < wr.heap.size ∧ Hid (Below w.heap.size w wr ∧ wr.heap[w.heap.size + 1]? = some (.cells #[.int .i64 sx, .int .i64 sy, .int .i64 q, .bool sk] 112 (0, 0)))) (fun _ _ _ _ kk _ => q - (intOf kk).toNat)
  case atStart => exact ⟨0, by omega, rfl, by rw [HK0.out], by rw [HK0.out], by rw [HK0.out], by rw [HK0.out], by simp, HP.out.2.drawN _, HP.out.1⟩
  case round =>
    obtain ⟨k, hk, rfl, rfl, rfl, rfl, rfl, hsz, HB⟩ := hrel
    obtain ⟨⟨a0, a1⟩, ⟨a2, a3⟩, a4, a5⟩ := HBD.out k
    by_cases hlt : k < q
    · have HN := Lib.hid (HK1.out k)
      generalize (R k).1 = r1 at *
      generalize (R k).2.1 = r2 at *
      generalize (R k).2.2.1 = r3 at *
      generalize (R k).2.2.2 = r4 at *
      go_wp2_with fail
      refine (quarter_any r1 r2 r4 _ ⟨by omega, by omega⟩ ⟨by omega, by omega⟩).mono ?_
      rintro e w' ⟨rfl, rfl⟩
      go_wp2_with fail
      go_roundw
      case rel => exact ⟨k + 1, by omega, by go_num, by rw [HN.out.1], by rw [HN.out.2.1], by rw [HN.out.2.2.1], by rw [HN.out.2.2.2], hsz, HB⟩
      case measure => simp [intOf]; omega
    · obtain rfl : k = q := by omega
      obtain ⟨c0, c1, c2, c3⟩ := blk4 HB.out.2
      generalize hr1 : (R k).1 = r1 at *
      generalize hr2 : (R k).2.1 = r2 at *
      have HR12 := Lib.hid (And.intro hr1 hr2)
      clear hr1 hr2
      have e1 : IntKind.i64.wrap (r1 + sx) = r1 + sx := IntWalk.i64_in _ (by omega)
      have e2 : IntKind.i64.wrap (r2 + sy) = r2 + sy := IntWalk.i64_in _ (by omega)
      go_wp2_with fail
      go_quiet (fail)
      go_wp2_with fail
      go_ret2
      refine ⟨?_, HB.out.1.drawN _⟩
      rw [HR12.out.1, HR12.out.2]
      rfl

set_option maxRecDepth 100000 in
set_option maxHeartbeats 4000000 in
theorem boardBox_any (key : ByteArray) (W H : Int) (A : Option Addr) (n c : Nat) (s : Sl) (w : World) (hw : 1 ≤ W ∧ W ≤ 500000) (hh : 1 ≤ H ∧ H ≤ 500000) (hx : 0 ≤ s.x ∧ s.x ≤ 500000) (hy : 0 ≤ s.y ∧ s.y ≤ 500000) (hq : 0 ≤ s.q ∧ s.q ≤ 3) :
    Calls Try.prog 75 #[prod key W H A n c, .agg #[.int .i64 s.x, .int .i64 s.y, .int .i64 s.q, .bool s.skip]] w fun e w' =>
      e = .returned (.agg #[.int .i64 (slAr W H s).xf, .int .i64 (slAr W H s).yf, .int .i64 (slAr W H s).xt, .int .i64 (slAr W H s).yt]) ∧ Below w.heap.size w w' := by
  obtain ⟨x, y, q, sk⟩ := s
  dsimp only [slAr] at *
  obtain ⟨qn, rfl⟩ := Int.eq_ofNat_of_zero_le hq.1
  have hqn : qn ≤ 3 := by omega
  obtain ⟨r1, r2, r3, r4⟩ := rot_box W H hw.1 hh.1 qn hqn x y
  have C1 := Lib.hid (fun W' => placed_any key W H A n c x y qn sk 0 0 W' hw hh hx hy ⟨by omega, by omega⟩ ⟨by omega, by omega⟩ hqn)
  have C2 := Lib.hid (fun W' => placed_any key W H A n c x y qn sk W H W' hw hh hx hy ⟨by omega, by omega⟩ ⟨by omega, by omega⟩ hqn)
  generalize (rotK W H 0 0 qn).1 + x = a1 at *
  generalize (rotK W H W H qn).1 + x = a2 at *
  generalize (rotK W H 0 0 qn).2.1 + y = b1 at *
  generalize (rotK W H W H qn).2.1 + y = b2 at *
  generalize x + turnW W H (qn : Int) = xt at *
  generalize y + turnH W H (qn : Int) = yt at *
  have HR := Lib.hid (And.intro r1 (And.intro r2 (And.intro r3 r4)))
  clear r1 r2 r3 r4
  go_enter Try.func75, Try.ntmps75
  go_wp2_with fail
  have kP : (((w.alloc (Obj.cells #[.string key, .int .i64 W, .int .i64 H, .slice A n c] 28)).alloc (Obj.cells #[.int .i64 x, .int .i64 y, .int .i64 qn, .bool sk] 112)).alloc (Obj.cells #[.int .i64 0, .int .i64 0, .int .i64 0, .int .i64 0] 141)).heap[w.heap.size]? = some (.cells #[.string key, .int .i64 W, .int .i64 H, .slice A n c] 28 (0, 0)) := blk_alloc (blk_alloc (blk_new w _ rfl) _) _
  have kS : (((w.alloc (Obj.cells #[.string key, .int .i64 W, .int .i64 H, .slice A n c] 28)).alloc (Obj.cells #[.int .i64 x, .int .i64 y, .int .i64 qn, .bool sk] 112)).alloc (Obj.cells #[.int .i64 0, .int .i64 0, .int .i64 0, .int .i64 0] 141)).heap[w.heap.size + 1]? = some (.cells #[.int .i64 x, .int .i64 y, .int .i64 qn, .bool sk] 112 (0, 0)) := blk_alloc (blk_new _ _ (by simp)) _
  have kB : (((w.alloc (Obj.cells #[.string key, .int .i64 W, .int .i64 H, .slice A n c] 28)).alloc (Obj.cells #[.int .i64 x, .int .i64 y, .int .i64 qn, .bool sk] 112)).alloc (Obj.cells #[.int .i64 0, .int .i64 0, .int .i64 0, .int .i64 0] 141)).heap[w.heap.size + 1 + 1]? = some (.cells #[.int .i64 0, .int .i64 0, .int .i64 0, .int .i64 0] 141 (0, 0)) := blk_new _ _ (by simp)
  have bP : Below w.heap.size w (((w.alloc (Obj.cells #[.string key, .int .i64 W, .int .i64 H, .slice A n c] 28)).alloc (Obj.cells #[.int .i64 x, .int .i64 y, .int .i64 qn, .bool sk] 112)).alloc (Obj.cells #[.int .i64 0, .int .i64 0, .int .i64 0, .int .i64 0] 141)) := (((Below.refl _ _).alloc (Nat.le_refl _) _).alloc (by simp) _).alloc (by simp; omega) _
  generalize (((w.alloc (Obj.cells #[.string key, .int .i64 W, .int .i64 H, .slice A n c] 28)).alloc (Obj.cells #[.int .i64 x, .int .i64 y, .int .i64 qn, .bool sk] 112)).alloc (Obj.cells #[.int .i64 0, .int .i64 0, .int .i64 0, .int .i64 0] 141)) = wP at *
  refine (C1.out _).mono ?_
  rintro e w1 ⟨rfl, hb1⟩
  have KB := Lib.hid (And.intro (blk_below hb1 kB) (bP.then_below hb1 bP.size))
  obtain ⟨p0, p1, p2, p3⟩ := blk4 (blk_below hb1 kP)
  obtain ⟨s0, s1, s2, s3⟩ := blk4 (blk_below hb1 kS)
  clear hb1 kP kS kB bP
  go_wp2_with fail
  refine (C2.out _).mono ?_
  rintro e w2 ⟨rfl, hb2⟩
  have kB := blk_below hb2 KB.out.1
  have HB2 := Lib.hid (KB.out.2.then_below hb2 KB.out.2.size)
  obtain ⟨d0, d1, d2, d3⟩ := blk4 kB
  have f0 := frozen_of_blk kB 0
  have f1 := frozen_of_blk kB 1
  have f2 := frozen_of_blk kB 2
  have f3 := frozen_of_blk kB 3
  clear p0 p1 p2 p3 s0 s1 s2 s3 hb2 kB KB
  go_wp2_with fail
  obtain ⟨e1, e2, e3, e4⟩ := HR.out
  rw [e1, e2, e3, e4]
  refine bodyPost_ret (v := .agg #[.int .i64 x, .int .i64 y, .int .i64 xt, .int .i64 yt]) (by unfold results; simp only [Try.results75]; go_simp) rfl ⟨rfl, ?_⟩
  exact (((HB2.out.setCell (by simp; omega) _).setCell (by simp; omega) _).setCell (by simp; omega) _).setCell (by simp; omega) _
end Go.Proofs.Ytiehkcbjfamnkaa
