/-
  The makers of points.
-/
import Derived.Test.YtbkbjljkfhahbaaSeR
namespace Go.Proofs.Ytbkbjljkfhahbaa
open Go.RowKit
set_option linter.unusedSimpArgs false
set_option linter.unusedVariables false

/-- A point in memory. -/
def encP (p : Int × Int) : List Value := [.int .i64 p.1, .int .i64 p.2]

set_option maxHeartbeats 1000000 in
theorem oddw_any (sb b : Nat) (lo hi : Int) (w : World) (h1 : lo ≤ hi) (h2 : -1000000 ≤ lo) (h3 : hi ≤ 1000000) (hb : b ≤ 900000) (hs : IsStream w sb b) :
    Calls Try.prog 23 #[.pointer (some ⟨sb, 0, none⟩), .int .i64 lo, .int .i64 hi] w (fun e w' => ∃ x : Int, e = .returned (.int .i64 x) ∧ Took sb (b + 2) w w') := by
  go_enter Try.func23, Try.ntmps23
  go_wp2_with fail
  refine (flip_any sb b _ _ (by omega) (by omega) (by omega) hs).mono ?_
  rintro e w1 ⟨f, rfl, t1⟩
  cases f
  · go_wp2_with fail
    refine (range_any sb (b + 1) lo hi _ h1 (by omega) (by omega) (by omega) t1.1).mono ?_
    rintro e w2 ⟨y, _, _, rfl, t2⟩
    go_wp2_with fail
    go_ret
    exact ⟨_, rfl, t1.trans t2⟩
  · go_wp2_with fail
    refine (pick_lit sb (b + 1) [lo - 1, hi + 1, lo, hi, -1099511627776, 1099511627776] _ _ 6 rfl (by omega) (by omega) rfl (by omega) t1.1).mono ?_
    rintro e w2 ⟨y, _, rfl, t2⟩
    go_wp2_with fail
    go_ret
    exact ⟨_, rfl, t1.trans t2⟩

set_option maxHeartbeats 2000000 in
theorem aplace_any (sb b : Nat) (w : World) (hb : b ≤ 890000) (hs : IsStream w sb b) :
    Calls Try.prog 4 #[.pointer (some ⟨sb, 0, none⟩)] w (fun e w' => ∃ x y : Int, e = .returned (.agg #[.int .i64 x, .int .i64 y]) ∧ Took sb (b + 5) w w') := by
  have hlt := hs.lt
  go_enter Try.func4, Try.ntmps4
  go_wp2_with fail
  refine (pick_lit sb b [0, 1, 2, 5, 10, 100, -3] _ _ 7 rfl (by omega) (by omega) (by simp) (by omega) (hs.alloc _)).mono ?_
  rintro e w1 ⟨x, _, rfl, t1⟩
  have g1 := t1.size
  go_wp2_with fail
  refine (pick_lit sb (b + 1) [0, 0, 1, 2, 7, -5] _ _ 6 rfl (by omega) (by omega) rfl (by omega) t1.1).mono ?_
  rintro e w2 ⟨y, _, rfl, t2⟩
  have k1 := t1.blk (g := w.heap.size) (heap_alloc_new w _) (by omega)
  have k2 := t2.blk k1 (by omega)
  have t12 : Took sb (b + 2) w w2 := t1.from_alloc.trans t2
  go_wp2_with fail
  refine (flip_any sb (b + 2) _ _ (by omega) (by omega) (by omega) (t2.1.alloc _)).mono ?_
  rintro e w3 ⟨f, rfl, t3⟩
  have k3 := t3.blk (g := w2.heap.size) (heap_alloc_new w2 _) (by have := t2.size; have := t1.1.lt; omega)
  have r3 := t3.blk (blk_alloc k2 _) (by omega)
  have t13 : Took sb (b + 3) w w3 := t12.trans t3.from_alloc
  have hg3 : w.heap.size < w2.heap.size := by have := t1.size; have := t2.size; simp at *; omega
  generalize w2.heap.size = g at *
  clear k1 k2 g1 t12 t2 t1 t3
  cases f
  · obtain ⟨c0, c1, f0, f1⟩ := blk2 k3
    obtain ⟨d0, d1, e0, e1⟩ := blk2 r3
    have hgl := lt_of_blk k3
    have R6 := Lib.hid r3
    clear k3 r3
    go_wp2_with fail
    have HK := Lib.hid (blk_set (i := 1) (blk_set (i := 0) R6.out (.int .i64 x)) (.int .i64 y))
    refine bodyPost_ret (v := .agg #[.int .i64 x, .int .i64 y]) (by unfold results; simp only [Try.results4]; go_simp) rfl ⟨x, y, rfl, ?_⟩
    exact (((t13.more (by omega)).setCell (by simp) hlt _).setCell (by simp) hlt _)
  · go_wp2_with fail
    refine (oddw_any sb (b + 3) (-500000) 500000 w3 (by omega) (by omega) (by omega) (by omega) t13.1).mono ?_
    rintro e w7 ⟨x7, rfl, t7⟩
    have k7 := t7.blk k3 (by omega)
    have r7 := t7.blk r3 (by omega)
    obtain ⟨c0, c1, f0, f1⟩ := blk2 k7
    obtain ⟨d0, d1, e0, e1⟩ := blk2 r7
    have hgl := lt_of_blk k7
    clear k3 r3 k7 r7
    go_wp2_with fail
    refine bodyPost_ret (v := .agg #[.int .i64 x7, .int .i64 y]) (by unfold results; simp only [Try.results4]; go_simp) rfl ⟨x7, y, rfl, ?_⟩
    refine ((((t13.trans t7).setCell ?_ hlt _).setCell ?_ hlt _).setCell ?_ hlt _) <;> simp only <;> omega

/-- A row of points that a stream makes. -/
def PtsOf (sb b n : Nat) (w : World) (e : Ending) (w' : World) : Prop :=
  ∃ (v : Value) (l : List (Int × Int)), e = .returned v ∧ l.length ≤ n ∧ w'.ownsRow w.heap.size 27 2 v l.length (l.flatMap encP) ∧ Took sb b w w'
theorem flatPt_snoc (l : List (Int × Int)) (p : Int × Int) : (l ++ [p]).flatMap encP = l.flatMap encP ++ encP p := by
  rw [List.flatMap_append]; simp
set_option maxHeartbeats 2000000 in
theorem pointsOf_any (sb b n : Nat) (hn : n ≤ 1000) (w : World) (hb : b ≤ 800000) (hs : IsStream w sb b) :
    Calls Try.prog 5 #[.pointer (some ⟨sb, 0, none⟩), .int .i64 n] w (PtsOf sb (b + 1 + 5 * n) n w) := by
  have hlt := hs.lt
  have HS0 := Lib.hid hs
  clear hs
  go_enter Try.func5, Try.ntmps5
  go_wp2_with fail
  refine (range_any sb b 0 n w (by omega) (by omega) (by omega) (by omega) HS0.out).mono ?_
  rintro e w1 ⟨m, hm0, hm1, rfl, t1⟩
  obtain ⟨m, rfl⟩ := Int.eq_ofNat_of_zero_le hm0
  have hmn : m ≤ n := by omega
  have T1 := Lib.hid t1
  have hz1 := t1.size
  clear t1 hm0 hm1
  go_wp2_with fail
  go_loopw [5, 9] (fun v5 kk wr => ∃ (k : Nat) (l : List (Int × Int)), k ≤ m ∧ kk = .int .i64 k ∧ l.length = k ∧ w.heap.size ≤ wr.heap.size ∧ Hid (Took sb (b + 1 + 5 * k) w wr ∧ wr.ownsRow w.heap.size 27 2 v5 l.length (l.flatMap encP))) (fun _ kk _ => m - (intOf kk).toNat)
  case atStart => exact ⟨0, [], by omega, rfl, rfl, hz1, T1.out, World.ownsRow_nil _ _ _ _⟩
  case round =>
    obtain ⟨k, l, hk, rfl, hl, hwz, HS⟩ := hrel
    have HL := Lib.hid hl
    have hl9 : l.length ≤ 1000 := by omega
    clear hl
    obtain ⟨A5, c5, rfl, _⟩ := own_form HS.out.2
    by_cases hkm : k < m
    · go_wp2_with fail
      refine (aplace_any sb (b + 1 + 5 * k) wr (by omega) HS.out.1.1).mono ?_
      rintro e w2 ⟨x, y, rfl, t2⟩
      have H2 : Hid (Took sb (b + 1 + 5 * (k + 1)) w w2 ∧ w2.ownsRow w.heap.size 27 2 (.slice A5 l.length c5) l.length (l.flatMap encP)) :=
        ⟨(HS.out.1.trans t2).more (by omega), kept_own HS.out.2 t2.2 hlt⟩
      have hz2 := H2.out.1.size
      clear t2 HS
      obtain ⟨i0, hi0, hz0, hzz1, hz20⟩ := info_parts pt_info
      have HI := Lib.hid (And.intro hi0 (And.intro hz0 (And.intro hzz1 hz20)))
      clear hi0 hz0 hzz1 hz20
      go_wp2_with (at_builtin; refine hold ?_)
      refine loose ?_
      refine wpList_append_own _ rfl _ _ 29 rfl w.heap.size 27 i0 _ 2 16 Try.underlying29 HI.out.1 HI.out.2.1 HI.out.2.2.1 HI.out.2.2.2 rfl (by omega) _ l.length (l.flatMap encP) rfl (H2.out.2.alloc _) ⟨w2.heap.size, 0, none⟩ 1 1 [.int .i64 x, .int .i64 y] rfl rfl ?c1 (by intro u hu; simp at hu; rcases hu with rfl | rfl <;> rfl) (by unfold maxLen; omega) (by omega) (by simp; omega) ?_
      case c1 =>
        intro j u hu
        rw [addr_new, cell_of_blk (blk_new w2 _ rfl)]
        simpa using hu
      intro v' w3 hown' hg' _
      have H3 : Hid (Took sb (b + 1 + 5 * (k + 1)) w w3 ∧ w3.ownsRow w.heap.size 27 2 v' (l ++ [(x, y)]).length ((l ++ [(x, y)]).flatMap encP)) := by
        refine ⟨(H2.out.1.alloc _).grown hlt hg' (own_row H2.out.2), ?_⟩
        rw [flatPt_snoc, List.length_append]
        exact hown'
      have hz3 := H3.out.1.size
      clear hown' hg' H2
      go_wp2_with fail
      go_roundw
      case rel => exact ⟨k + 1, l ++ [(x, y)], by omega, by go_num, by rw [List.length_append, HL.out]; rfl, hz3, H3⟩
      case measure => simp [intOf]; omega
    · obtain rfl : k = m := by omega
      go_wp2_with fail
      go_ret
      exact ⟨_, l, rfl, by rw [HL.out]; omega, HS.out.2, HS.out.1.more (by omega)⟩
end Go.Proofs.Ytbkbjljkfhahbaa
