/-
  The walks of the law's small function and of the reference's SpotOf.
-/
import Derived.Test.YtopnadilfjakiaaPanA
namespace Go.Proofs.Ytopnadilfjakiaa
open Go.RowKit

/-- Where a placement lies on the panel. -/
structure Sp where
  slot : Int
  name : ByteArray
  x : Int
  y : Int
  q : Int
def Sp.cells (s : Sp) : List Value := [.int .i64 s.slot, .string s.name, .int .i64 s.x, .int .i64 s.y, .int .i64 s.q]
def spotP (W H : Int) (k : Nat) (s : Sl) (p : Pl) : Sp := ⟨k, p.name, (rotK W H p.x p.y s.q.toNat).1 + s.x, (rotK W H p.x p.y s.q.toNat).2.1 + s.y, (p.q + s.q) % 4⟩
/-- A placement that lies on its product. -/
def PlIn (W H : Int) (p : Pl) : Prop := (0 ≤ p.x ∧ p.x ≤ W) ∧ (0 ≤ p.y ∧ p.y ≤ H) ∧ 0 ≤ p.q ∧ p.q ≤ 3
def SlIn (s : Sl) : Prop := (0 ≤ s.x ∧ s.x ≤ 500000) ∧ (0 ≤ s.y ∧ s.y ≤ 500000) ∧ 0 ≤ s.q ∧ s.q ≤ 3

theorem when_any (b : Bool) (x : Int) (w : World) : Calls Try.prog 15 #[.bool b, .int .i64 x] w fun e w' => e = .returned (.int .i64 (if b then x else 0)) ∧ w = w' := by
  cases b
  · go_enter Try.func15, Try.ntmps15
    go_wp2_with fail
    go_ret
    exact ⟨rfl, rfl⟩
  · go_enter Try.func15, Try.ntmps15
    go_wp2_with fail
    go_ret
    exact ⟨rfl, rfl⟩

set_option maxRecDepth 100000 in
set_option maxHeartbeats 4000000 in
theorem spotOf_any (key : ByteArray) (W H : Int) (A : Option Addr) (n c : Nat) (PW PH : Int) (B : Option Addr) (d : Nat) (s : List Sl) (k : Nat) (hk : k < s.length) (hsl : s.length ≤ 1000) (p : Pl) (w : World) (hB : SlAt w B s) (hw : 1 ≤ W ∧ W ≤ 500000) (hh : 1 ≤ H ∧ H ≤ 500000) (hs : SlIn s[k]) (hp : PlIn W H p) :
    Calls Try.prog 18 #[prod key W H A n c, pan PW PH B s.length d, .int .i64 k, .agg #[.string p.name, .string p.part, .int .i64 p.x, .int .i64 p.y, .int .i64 p.q]] w fun e w' =>
      e = .returned (.agg (spotP W H k s[k] p).cells.toArray) ∧ Below w.heap.size w w' := by
  rcases hB with rfl | ⟨g, rfl, hrow⟩
  · simp at hk
  obtain ⟨r0, r1, r2, r3⟩ := row_sl hrow hk
  have hg := hrow.1
  obtain ⟨t, ht⟩ : ∃ t, s[k] = t := ⟨_, rfl⟩
  rw [ht] at hs r0 r1 r2 r3 ⊢
  obtain ⟨⟨sx0, sx1⟩, ⟨sy0, sy1⟩, sq0, sq1⟩ := hs
  obtain ⟨⟨px0, px1⟩, ⟨py0, py1⟩, pq0, pq1⟩ := hp
  obtain ⟨sx, sy, q, sk⟩ := t
  obtain ⟨nm, pt, x, y, pq⟩ := p
  dsimp only at *
  obtain ⟨qn, rfl⟩ := Int.eq_ofNat_of_zero_le sq0
  have C1 := Lib.hid (fun W' => placed_any key W H A n c sx sy qn sk x y W' hw hh ⟨sx0, sx1⟩ ⟨sy0, sy1⟩ ⟨px0, px1⟩ ⟨py0, py1⟩ (by omega))
  have HV : Hid ((spotP W H k ⟨sx, sy, qn, sk⟩ ⟨nm, pt, x, y, pq⟩).cells.toArray = #[.int .i64 k, .string nm, .int .i64 ((rotK W H x y qn).1 + sx), .int .i64 ((rotK W H x y qn).2.1 + sy), .int .i64 ((pq + qn) % 4)]) := rfl
  have HD := rotK_bd hw hh ⟨px0, px1⟩ ⟨py0, py1⟩ qn
  generalize spotP W H k ⟨sx, sy, qn, sk⟩ ⟨nm, pt, x, y, pq⟩ = sp at *
  have hrx : 0 ≤ (rotK W H x y qn).1 + sx ∧ (rotK W H x y qn).1 + sx ≤ 1000000 := by omega
  have hry : 0 ≤ (rotK W H x y qn).2.1 + sy ∧ (rotK W H x y qn).2.1 + sy ≤ 1000000 := by omega
  clear HD
  generalize (rotK W H x y qn).1 + sx = rx at *
  generalize (rotK W H x y qn).2.1 + sy = ry at *
  have i1 : (0 : Int) ≤ (k : Int) := by omega
  have i2 : (k : Int) < (s.length : Int) := by omega
  have KS : Hid (LineAt w g (flatSl s)) := hrow
  clear hrow r0 r1 r2 r3
  go_enter Try.func18, Try.ntmps18
  go_upto_region 1 with (fail)
  have kP : ((((w.alloc (Obj.cells #[.string key, .int .i64 W, .int .i64 H, .slice A n c] 28)).alloc (Obj.cells #[.int .i64 PW, .int .i64 PH, .slice (some ⟨g, 0, none⟩) s.length d] 32)).alloc (Obj.cells #[.string nm, .string pt, .int .i64 x, .int .i64 y, .int .i64 pq] 50)).alloc (Obj.cells #[.int .i64 0, .string ⟨#[]⟩, .int .i64 0, .int .i64 0, .int .i64 0] 41)).heap[w.heap.size]? = some (.cells #[.string key, .int .i64 W, .int .i64 H, .slice A n c] 28 (0, 0)) := blk_alloc (blk_alloc (blk_alloc (blk_new w _ rfl) _) _) _
  have kN : ((((w.alloc (Obj.cells #[.string key, .int .i64 W, .int .i64 H, .slice A n c] 28)).alloc (Obj.cells #[.int .i64 PW, .int .i64 PH, .slice (some ⟨g, 0, none⟩) s.length d] 32)).alloc (Obj.cells #[.string nm, .string pt, .int .i64 x, .int .i64 y, .int .i64 pq] 50)).alloc (Obj.cells #[.int .i64 0, .string ⟨#[]⟩, .int .i64 0, .int .i64 0, .int .i64 0] 41)).heap[w.heap.size + 1]? = some (.cells #[.int .i64 PW, .int .i64 PH, .slice (some ⟨g, 0, none⟩) s.length d] 32 (0, 0)) := blk_alloc (blk_alloc (blk_new _ _ (by simp)) _) _
  have kC : ((((w.alloc (Obj.cells #[.string key, .int .i64 W, .int .i64 H, .slice A n c] 28)).alloc (Obj.cells #[.int .i64 PW, .int .i64 PH, .slice (some ⟨g, 0, none⟩) s.length d] 32)).alloc (Obj.cells #[.string nm, .string pt, .int .i64 x, .int .i64 y, .int .i64 pq] 50)).alloc (Obj.cells #[.int .i64 0, .string ⟨#[]⟩, .int .i64 0, .int .i64 0, .int .i64 0] 41)).heap[w.heap.size + 1 + 1]? = some (.cells #[.string nm, .string pt, .int .i64 x, .int .i64 y, .int .i64 pq] 50 (0, 0)) := blk_alloc (blk_new _ _ (by simp)) _
  have kR : ((((w.alloc (Obj.cells #[.string key, .int .i64 W, .int .i64 H, .slice A n c] 28)).alloc (Obj.cells #[.int .i64 PW, .int .i64 PH, .slice (some ⟨g, 0, none⟩) s.length d] 32)).alloc (Obj.cells #[.string nm, .string pt, .int .i64 x, .int .i64 y, .int .i64 pq] 50)).alloc (Obj.cells #[.int .i64 0, .string ⟨#[]⟩, .int .i64 0, .int .i64 0, .int .i64 0] 41)).heap[w.heap.size + 1 + 1 + 1]? = some (.cells #[.int .i64 0, .string ⟨#[]⟩, .int .i64 0, .int .i64 0, .int .i64 0] 41 (0, 0)) := blk_new _ _ (by simp)
  have bP : Below w.heap.size w ((((w.alloc (Obj.cells #[.string key, .int .i64 W, .int .i64 H, .slice A n c] 28)).alloc (Obj.cells #[.int .i64 PW, .int .i64 PH, .slice (some ⟨g, 0, none⟩) s.length d] 32)).alloc (Obj.cells #[.string nm, .string pt, .int .i64 x, .int .i64 y, .int .i64 pq] 50)).alloc (Obj.cells #[.int .i64 0, .string ⟨#[]⟩, .int .i64 0, .int .i64 0, .int .i64 0] 41)) := ((((Below.refl _ _).alloc (Nat.le_refl _) _).alloc (by simp) _).alloc (by simp; omega) _).alloc (by simp; omega) _
  generalize ((((w.alloc (Obj.cells #[.string key, .int .i64 W, .int .i64 H, .slice A n c] 28)).alloc (Obj.cells #[.int .i64 PW, .int .i64 PH, .slice (some ⟨g, 0, none⟩) s.length d] 32)).alloc (Obj.cells #[.string nm, .string pt, .int .i64 x, .int .i64 y, .int .i64 pq] 50)).alloc (Obj.cells #[.int .i64 0, .string ⟨#[]⟩, .int .i64 0, .int .i64 0, .int .i64 0] 41)) = w1 at *
  have hr1 := KS.out.below bP
  obtain ⟨r0, r1, r2, r3⟩ := row_sl hr1 hk
  rw [ht] at r0 r1 r2 r3
  obtain ⟨n0, n1, n2, hn⟩ := blk3 kN
  obtain ⟨p0, p1, p2, p3⟩ := blk4 kP
  have hg1 := hr1.1
  have c0 : w1.cell? ⟨w.heap.size + 1 + 1, 0, none⟩ = some (.string nm) := by rw [cell_of_blk kC]; rfl
  have c1 : w1.cell? ⟨w.heap.size + 1 + 1, 2, none⟩ = some (.int .i64 x) := by rw [cell_of_blk kC]; rfl
  have c2 : w1.cell? ⟨w.heap.size + 1 + 1, 3, none⟩ = some (.int .i64 y) := by rw [cell_of_blk kC]; rfl
  have c3 : w1.cell? ⟨w.heap.size + 1 + 1, 4, none⟩ = some (.int .i64 pq) := by rw [cell_of_blk kC]; rfl
  have hcs := lt_of_blk kR
  have KK := Lib.hid (And.intro kC (And.intro kR bP))
  clear kP kN kC kR bP hr1 ht
  have hps : w.heap.size < w1.heap.size := by omega
  have hcs2 : w.heap.size + 1 + 1 < w1.heap.size := by omega
  go_wp2_with fail
  refine (C1.out _).mono ?_
  rintro e w2 ⟨rfl, hb2⟩
  have hb3 : Below w1.heap.size w1 w2 := ((Below.refl _ _).alloc (Nat.le_refl _) _).then_below hb2 (by simp)
  have kR := blk_below hb3 KK.out.2.1
  have kC := blk_below hb3 KK.out.1
  have HB2 := Lib.hid (KK.out.2.2.then_below hb3 KK.out.2.2.size)
  obtain ⟨t0, t1, t2, t3⟩ := blk4 (blk_below hb2 (blk_new w1 _ rfl))
  have c0 : w2.cell? ⟨w.heap.size + 1 + 1, 0, none⟩ = some (.string nm) := by rw [cell_of_blk kC]; rfl
  have c3 : w2.cell? ⟨w.heap.size + 1 + 1, 4, none⟩ = some (.int .i64 pq) := by rw [cell_of_blk kC]; rfl
  have e0 : w2.cell? ⟨w.heap.size + 1 + 1 + 1, 0, none⟩ = some (.int .i64 0) := by rw [cell_of_blk kR]; rfl
  have e1 : w2.cell? ⟨w.heap.size + 1 + 1 + 1, 1, none⟩ = some (.string ⟨#[]⟩) := by rw [cell_of_blk kR]; rfl
  have e2 : w2.cell? ⟨w.heap.size + 1 + 1 + 1, 2, none⟩ = some (.int .i64 0) := by rw [cell_of_blk kR]; rfl
  have e3 : w2.cell? ⟨w.heap.size + 1 + 1 + 1, 3, none⟩ = some (.int .i64 0) := by rw [cell_of_blk kR]; rfl
  have e4 : w2.cell? ⟨w.heap.size + 1 + 1 + 1, 4, none⟩ = some (.int .i64 0) := by rw [cell_of_blk kR]; rfl
  have f0 := frozen_of_blk kR 0
  have f1 := frozen_of_blk kR 1
  have f2 := frozen_of_blk kR 2
  have f3 := frozen_of_blk kR 3
  have f4 := frozen_of_blk kR 4
  clear hb2 hb3 kR kC KK r0 r1 r2 r3 n0 n1 n2 p0 p1 p2 p3
  go_wp2_with fail
  refine bodyPost_ret (v := .agg #[.int .i64 k, .string nm, .int .i64 rx, .int .i64 ry, .int .i64 ((pq + qn) % 4)]) (by unfold results; simp only [Try.results18]; go_simp) rfl ⟨?_, ?_⟩
  · rw [HV.out]
  · exact ((((HB2.out.setCell (by simp; omega) _).setCell (by simp; omega) _).setCell (by simp; omega) _).setCell (by simp; omega) _).setCell (by simp; omega) _
end Go.Proofs.Ytopnadilfjakiaa
