/-
  The makers of hours, odd numbers and one part.
-/
import Derived.Test.YtopnadilfjakiaaDoorPx3
import Derived.Test.YtopnadilfjakiaaDoorGen0
namespace Go.Proofs.YtopnadilfjakiaaDoor
open Go.RowKit

set_option maxHeartbeats 1000000 in
theorem hours_any (sb b : Nat) (w : World) (hb : b ≤ 900000) (hs : IsStream w sb b) :
    Calls Tryd.prog 29 #[.pointer (some ⟨sb, 0, none⟩)] w (fun e w' => ∃ x : Int, e = .returned (.int .i64 x) ∧ Took sb (b + 2) w w') := by
  go_enter Tryd.func29, Tryd.ntmps29
  go_wp2_with fail
  refine (pick_lit sb b [1, 2, 6, 10, 12, 24, 50, 60, 72, 120, 168, 400] _ _ 12 rfl (by omega) (by omega) rfl (by omega) hs).mono ?_
  rintro e w1 ⟨x, _, rfl, t1⟩
  go_wp2_with fail
  refine (pick_lit sb (b + 1) [0, 0, 0, 1, -1] _ _ 5 rfl (by omega) (by omega) rfl (by omega) t1.1).mono ?_
  rintro e w2 ⟨y, _, rfl, t2⟩
  go_wp2_with fail
  go_ret
  exact ⟨_, rfl, t1.trans t2⟩

set_option maxHeartbeats 1000000 in
theorem odd_any (sb b : Nat) (lo hi : Int) (w : World) (h1 : lo ≤ hi) (h2 : -1000 ≤ lo) (h3 : hi ≤ 1000) (hb : b ≤ 900000) (hs : IsStream w sb b) :
    Calls Tryd.prog 6 #[.pointer (some ⟨sb, 0, none⟩), .int .i64 lo, .int .i64 hi] w (fun e w' => ∃ x : Int, e = .returned (.int .i64 x) ∧ Took sb (b + 2) w w') := by
  go_enter Tryd.func6, Tryd.ntmps6
  go_wp2_with fail
  refine (flip_any sb b _ _ (by omega) (by omega) (by omega) hs).mono ?_
  rintro e w1 ⟨f, rfl, t1⟩
  cases f
  · go_wp2_with fail
    refine (range_any sb (b + 1) lo hi _ h1 (by omega) (by omega) (by omega) t1.1).mono ?_
    rintro e w2 ⟨y, _, _, rfl, t2⟩
    go_wp2_with fail
    go_ret
    exact ⟨_, rfl, t1.trans t2⟩
  · go_wp2_with fail
    refine (pick_lit sb (b + 1) [lo - 1, hi + 1, lo, hi, -1099511627776, 1099511627776] _ _ 6 rfl (by omega) (by omega) rfl (by omega) t1.1).mono ?_
    rintro e w2 ⟨y, _, rfl, t2⟩
    go_wp2_with fail
    go_ret
    exact ⟨_, rfl, t1.trans t2⟩

/-- One part that a stream makes. -/
def PartOf (sb b : Nat) (w : World) (e : Ending) (w' : World) : Prop :=
  ∃ (key pk : ByteArray) (lv bk : Int), e = .returned (.agg #[.string key, .string pk, .int .i64 lv, .int .i64 bk]) ∧ key.size ≤ 1000 ∧ pk.size ≤ 1000 ∧ Took sb b w w'

set_option maxRecDepth 100000 in
set_option maxHeartbeats 400000 in
theorem onePart_any (sb b : Nat) (w : World) (hb : b ≤ 900000) (hs : IsStream w sb b) :
    Calls Tryd.prog 4 #[.pointer (some ⟨sb, 0, none⟩)] w (PartOf sb (b + 5) w) := by
  have hlt := hs.lt
  go_enter Tryd.func4, Tryd.ntmps4
  go_wp2_with fail
  have hsz1 : (w.alloc (Obj.cells #[.string ⟨#[]⟩, .string ⟨#[]⟩, .int .i64 0, .int .i64 0] 27)).heap.size = w.heap.size + 1 := by simp
  have bw1 : Below w.heap.size w (w.alloc (Obj.cells #[.string ⟨#[]⟩, .string ⟨#[]⟩, .int .i64 0, .int .i64 0] 27)) := ((Below.refl _ _).alloc (Nat.le_refl _) _)
  have kR : (w.alloc (Obj.cells #[.string ⟨#[]⟩, .string ⟨#[]⟩, .int .i64 0, .int .i64 0] 27)).heap[w.heap.size]? = some (.cells #[.string ⟨#[]⟩, .string ⟨#[]⟩, .int .i64 0, .int .i64 0] 27 (0, 0)) := (blk_new w _ rfl)
  generalize (w.alloc (Obj.cells #[.string ⟨#[]⟩, .string ⟨#[]⟩, .int .i64 0, .int .i64 0] 27)) = w1 at *
  have t1 : Took sb b w w1 := ⟨hs.below bw1, Kept.of_below bw1⟩
  refine (pick_lit sb b [1, 2, 3, 4, 5, 6, 4] w1 _ 7 rfl (by omega) (by omega) hsz1 (by omega) t1.1).mono ?_
  rintro e w2 ⟨lv, _, rfl, t2⟩
  have hns : w.heap.size ≠ sb := by omega
  have t2b : Took sb (b + 1) w1 w2 := t2
  have kR2 := t2b.blk kR hns
  have t12 := t1.trans t2b
  clear t1 t2 t2b kR bw1
  go_wp2_with fail
  refine (pick_lit sb (b + 1) [0, 28800000, 86400000] _ _ 3 rfl (by omega) (by omega) rfl (by omega) t12.1).mono ?_
  rintro e w3 ⟨bk, _, rfl, t3⟩
  have t3b : Took sb (b + 2) w2 w3 := t3
  have kR3 := t3b.blk kR2 hns
  have t13 := t12.trans t3b
  clear t12 t3 t3b kR2
  have hz3 := lt_of_blk kR3
  go_wp2_with fail
  have kR4 := blk_alloc kR3 (Obj.cells #[.string ⟨#[112]⟩, .string ⟨#[113]⟩, .int .i64 lv, .int .i64 bk] 27)
  have kP4 : (w3.alloc (Obj.cells #[.string ⟨#[112]⟩, .string ⟨#[113]⟩, .int .i64 lv, .int .i64 bk] 27)).heap[w3.heap.size]? = some (.cells #[.string ⟨#[112]⟩, .string ⟨#[113]⟩, .int .i64 lv, .int .i64 bk] 27 (0, 0)) := blk_new w3 _ rfl
  have t14 := t13.alloc (Obj.cells #[.string ⟨#[112]⟩, .string ⟨#[113]⟩, .int .i64 lv, .int .i64 bk] 27)
  generalize w3.alloc (Obj.cells #[.string ⟨#[112]⟩, .string ⟨#[113]⟩, .int .i64 lv, .int .i64 bk] 27) = w4 at *
  generalize w3.heap.size = hq at *
  have hnq : hq ≠ sb := by omega
  clear t13 kR3 hsz1
  refine (flip_any sb (b + 2) _ _ (by omega) (by omega) (by omega) t14.1).mono ?_
  rintro e w5 ⟨f, rfl, t5⟩
  have HB := Lib.hid (And.intro (t5.blk kR4 hns) (And.intro (t5.blk kP4 hnq) (t14.trans t5)))
  clear t5 kR4 kP4 t14
  cases f
  · obtain ⟨r0, r1, r2, r3⟩ := blk4 HB.out.1
    obtain ⟨p0, p1, p2, p3⟩ := blk4 HB.out.2.1
    have f0 := frozen_of_blk HB.out.1 0
    have f1 := frozen_of_blk HB.out.1 1
    have f2 := frozen_of_blk HB.out.1 2
    have f3 := frozen_of_blk HB.out.1 3
    have hrz := lt_of_blk HB.out.1
    have hpz := lt_of_blk HB.out.2.1
    go_wp2_with fail
    refine bodyPost_ret (v := .agg #[.string ⟨#[112]⟩, .string ⟨#[113]⟩, .int .i64 lv, .int .i64 bk]) (by unfold results; simp only [Tryd.results4]; go_simp) rfl ?_
    exact ⟨_, _, _, _, rfl, by decide, by decide, ((((HB.out.2.2.setCell (by simp) hlt _).setCell (by simp) hlt _).setCell (by simp) hlt _).setCell (by simp) hlt _).more (by omega)⟩
  · go_wp2_with fail
    refine (some_lit sb (b + 3) [⟨#[112]⟩, ⟨#[]⟩] _ _ 2 rfl (by omega) (by omega) rfl (by omega) HB.out.2.2.1).mono ?_
    rintro e w6 ⟨key, hkey, rfl, t6⟩
    have hks : key.size ≤ 1000 := by simp at hkey; rcases hkey with rfl | rfl <;> decide
    have t6b : Took sb (b + 4) w5 w6 := t6
    have HB6 := Lib.hid (And.intro (t6b.blk HB.out.1 hns) (And.intro (t6b.blk HB.out.2.1 hnq) (HB.out.2.2.trans t6b)))
    clear t6 t6b HB hkey
    go_wp2_with fail
    refine (pick_lit sb (b + 4) [0, 7] _ _ 2 rfl (by omega) (by omega) rfl (by omega) HB6.out.2.2.1).mono ?_
    rintro e w7 ⟨lv2, _, rfl, t7⟩
    have t7b : Took sb (b + 5) w6 w7 := t7
    have HB7 := Lib.hid (And.intro (t7b.blk HB6.out.1 hns) (And.intro (t7b.blk HB6.out.2.1 hnq) (HB6.out.2.2.trans t7b)))
    clear t7 t7b HB6
    obtain ⟨r0, r1, r2, r3⟩ := blk4 HB7.out.1
    obtain ⟨p0, p1, p2, p3⟩ := blk4 HB7.out.2.1
    have f0 := frozen_of_blk HB7.out.1 0
    have f1 := frozen_of_blk HB7.out.1 1
    have f2 := frozen_of_blk HB7.out.1 2
    have f3 := frozen_of_blk HB7.out.1 3
    have f4 := frozen_of_blk HB7.out.2.1 0
    have f5 := frozen_of_blk HB7.out.2.1 2
    have hrz := lt_of_blk HB7.out.1
    have hpz := lt_of_blk HB7.out.2.1
    have hne : hq ≠ w.heap.size := by omega
    have hne2 : w.heap.size ≠ hq := by omega
    go_wp2_with fail
    refine bodyPost_ret (v := .agg #[.string key, .string ⟨#[113]⟩, .int .i64 lv2, .int .i64 bk]) (by unfold results; simp only [Tryd.results4]; go_simp) rfl ?_
    exact ⟨_, _, _, _, rfl, hks, by decide, ((((((HB7.out.2.2.setCell (by show w.heap.size ≤ hq; omega) hlt _).setCell (by show w.heap.size ≤ hq; omega) hlt _).setCell (by simp) hlt _).setCell (by simp) hlt _).setCell (by simp) hlt _).setCell (by simp) hlt _).more (by omega)⟩
end Go.Proofs.YtopnadilfjakiaaDoor
