/-
  The walk of the function that places on a panel.
-/
import Derived.Test.YtopnadilfjakiaaTurn
namespace Go.Proofs.Ytopnadilfjakiaa
open Go.RowKit

theorem run_store_fn (P : Program) (w : World) (a : Addr) (m : Mode) (f : Fn) (ts : Array Value) (cs : Array Value) : (store a (.func f ts cs) m).run P w = stored P w a (.func f ts cs) m := run_store P w a _ m rfl
attribute [local go_sem] run_store_fn

/-- What the function that places holds. -/
def PlacingB (key : ByteArray) (W H : Int) (A : Option Addr) (n c : Nat) (k : Nat) (t : Sl) (h8 h5 h7 hp : Nat) (w : World) : Prop :=
  w.heap[h8]? = some (.cells #[turnV hp t.q.toNat] 93 (0, 0)) ∧ w.heap[h5]? = some (.cells #[.int .i64 k] 3 (0, 0)) ∧
    w.heap[h7]? = some (.cells #[.int .i64 t.x, .int .i64 t.y, .int .i64 t.q, .bool t.skip] 70 (0, 0)) ∧ w.heap[hp]? = some (.cells #[.string key, .int .i64 W, .int .i64 H, .slice A n c] 28 (0, 0))
theorem PlacingB.below {key : ByteArray} {W H : Int} {A : Option Addr} {n c k : Nat} {t : Sl} {h8 h5 h7 hp : Nat} {w w' : World} (h : PlacingB key W H A n c k t h8 h5 h7 hp w) (hb : Below w.heap.size w w') : PlacingB key W H A n c k t h8 h5 h7 hp w' := by
  obtain ⟨k8, k5, k7, kp⟩ := h
  exact ⟨blk_below hb k8, blk_below hb k5, blk_below hb k7, blk_below hb kp⟩
def PlacingAt (key : ByteArray) (W H : Int) (A : Option Addr) (n c : Nat) (k : Nat) (t : Sl) (v : Value) (w : World) : Prop :=
  ∃ h8 h5 h7 hp : Nat, v = .func (.func 49) #[] #[.pointer (some ⟨h8, 0, none⟩), .pointer (some ⟨h5, 0, none⟩), .pointer (some ⟨h7, 0, none⟩)] ∧ PlacingB key W H A n c k t h8 h5 h7 hp w

set_option maxRecDepth 100000 in
set_option maxHeartbeats 4000000 in
theorem placing_any (key : ByteArray) (W H : Int) (A : Option Addr) (n c : Nat) (PW PH : Int) (B : Option Addr) (d : Nat) (s : List Sl) (k : Nat) (hk : k < s.length) (hsl : s.length ≤ 1000) (w : World) (hB : SlAt w B s) (hs : SlIn s[k]) :
    Calls Try.prog 31 #[prod key W H A n c, pan PW PH B s.length d, .int .i64 k] w fun e w' => ∃ v, e = .returned v ∧ Below w.heap.size w w' ∧ PlacingAt key W H A n c k s[k] v w' := by
  rcases hB with rfl | ⟨g, rfl, hrow⟩
  · simp at hk
  have KS : Hid (LineAt w g (flatSl s)) := hrow
  obtain ⟨t, ht⟩ : ∃ t, s[k] = t := ⟨_, rfl⟩
  rw [ht] at hs ⊢
  have HT := Lib.hid (And.intro hs ht)
  have i1 : (0 : Int) ≤ (k : Int) := by omega
  have i2 : (k : Int) < (s.length : Int) := by omega
  clear hrow hs ht
  go_enter Try.func31, Try.ntmps31
  go_upto_region 1 with (fail)
  have bP : Below w.heap.size w (((w.alloc (Obj.cells #[.string key, .int .i64 W, .int .i64 H, .slice A n c] 28)).alloc (Obj.cells #[.int .i64 PW, .int .i64 PH, .slice (some ⟨g, 0, none⟩) s.length d] 32)).alloc (Obj.cells #[.int .i64 k] 3)) := ((((Below.refl _ _).alloc (Nat.le_refl _) _).alloc (by simp) _)).alloc (by simp; omega) _
  have kP : (((w.alloc (Obj.cells #[.string key, .int .i64 W, .int .i64 H, .slice A n c] 28)).alloc (Obj.cells #[.int .i64 PW, .int .i64 PH, .slice (some ⟨g, 0, none⟩) s.length d] 32)).alloc (Obj.cells #[.int .i64 k] 3)).heap[w.heap.size]? = some (.cells #[.string key, .int .i64 W, .int .i64 H, .slice A n c] 28 (0, 0)) := blk_alloc (blk_alloc (blk_new w _ rfl) _) _
  have kN : (((w.alloc (Obj.cells #[.string key, .int .i64 W, .int .i64 H, .slice A n c] 28)).alloc (Obj.cells #[.int .i64 PW, .int .i64 PH, .slice (some ⟨g, 0, none⟩) s.length d] 32)).alloc (Obj.cells #[.int .i64 k] 3)).heap[w.heap.size + 1]? = some (.cells #[.int .i64 PW, .int .i64 PH, .slice (some ⟨g, 0, none⟩) s.length d] 32 (0, 0)) := blk_alloc (blk_new _ _ (by simp)) _
  have kK : (((w.alloc (Obj.cells #[.string key, .int .i64 W, .int .i64 H, .slice A n c] 28)).alloc (Obj.cells #[.int .i64 PW, .int .i64 PH, .slice (some ⟨g, 0, none⟩) s.length d] 32)).alloc (Obj.cells #[.int .i64 k] 3)).heap[w.heap.size + 1 + 1]? = some (.cells #[.int .i64 k] 3 (0, 0)) := blk_new _ _ (by simp)
  generalize (((w.alloc (Obj.cells #[.string key, .int .i64 W, .int .i64 H, .slice A n c] 28)).alloc (Obj.cells #[.int .i64 PW, .int .i64 PH, .slice (some ⟨g, 0, none⟩) s.length d] 32)).alloc (Obj.cells #[.int .i64 k] 3)) = w1 at *
  obtain ⟨p0, p1, p2, p3⟩ := blk4 kP
  obtain ⟨n0, n1, n2, hn⟩ := blk3 kN
  have k0 : w1.cell? ⟨w.heap.size + 1 + 1, 0, none⟩ = some (.int .i64 k) := by rw [cell_of_blk kK]; rfl
  have hr1 := KS.out.below bP
  obtain ⟨r0, r1, r2, r3⟩ := row_sl hr1 hk
  rw [HT.out.2] at r0 r1 r2 r3
  have hg1 := hr1.1
  have hkl := lt_of_blk kK
  have hpl : w.heap.size < w1.heap.size := by omega
  have KK := Lib.hid (And.intro kK bP)
  obtain ⟨⟨x0, x1⟩, ⟨y0, y1⟩, q0, q1⟩ := HT.out.1
  clear HT kP kN kK bP hr1
  obtain ⟨x, y, q, sk⟩ := t
  dsimp only at *
  obtain ⟨qn, rfl⟩ := Int.eq_ofNat_of_zero_le q0
  have CT := Lib.hid (fun W' => turning_any key W H A n c qn (by omega) W')
  go_wp2_with fail
  refine (CT.out _).mono ?_
  rintro e w2 ⟨he, rfl⟩
  obtain ⟨f, cs, hv⟩ : ∃ f cs, turnV (w1.heap.size + 1) qn = .func (.func f) #[] cs := by
    have : qn = 0 ∨ qn = 1 ∨ qn = 2 ∨ qn = 3 := by omega
    rcases this with rfl | rfl | rfl | rfl <;> exact ⟨_, _, rfl⟩
  have hsz : (w1.alloc (Obj.cells #[.int .i64 x, .int .i64 y, .int .i64 qn, .bool sk] 70)).heap.size = w1.heap.size + 1 := by simp
  rw [hsz, hv] at he
  subst he
  have HV := Lib.hid hv
  clear hv hsz
  go_wp2_with fail
  go_ret
  refine ⟨_, rfl, ?_, w1.heap.size + 1 + 1, w.heap.size + 1 + 1, w1.heap.size, w1.heap.size + 1, rfl, ?_, ?_, ?_, ?_⟩
  · exact ((KK.out.2.alloc KK.out.2.size _).alloc (by have := KK.out.2.size; simp; omega) _).alloc (by have := KK.out.2.size; simp; omega) _
  · rw [show ((qn : Int)).toNat = qn from rfl, HV.out]
    exact blk_new _ _ (by simp)
  · exact blk_alloc (blk_alloc (blk_alloc KK.out.1 _) _) _
  · exact blk_alloc (blk_alloc (blk_new _ _ rfl) _) _
  · exact blk_alloc (blk_new _ _ (by simp)) _
end Go.Proofs.Ytopnadilfjakiaa
