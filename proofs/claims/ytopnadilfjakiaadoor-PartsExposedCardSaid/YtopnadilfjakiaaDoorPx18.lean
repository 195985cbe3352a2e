/-
  The maker of a moment.
-/
import Derived.Test.YtopnadilfjakiaaDoorPx17
namespace Go.Proofs.YtopnadilfjakiaaDoor
open Go.RowKit
set_option linter.unusedSimpArgs false
set_option linter.unusedVariables false

theorem sy_line {w : World} {base g : Nat} {c : Nat} {l : List Sy} (h : w.ownsRow base 61 2 (.slice (some ⟨g, 0, none⟩) l.length c) l.length (flatSy l)) (h0 : 0 < l.length) : LineAt w g (flatSy l) := by
  obtain ⟨g', cap', hv, _, hlt, _, _, hrd⟩ := own_read h h0
  simp only [Value.slice.injEq, Option.some.injEq, Addr.mk.injEq, and_true, true_and] at hv
  obtain ⟨rfl, rfl⟩ := hv
  exact ⟨hlt, hrd⟩

set_option maxRecDepth 100000 in
set_option maxHeartbeats 4000000 in
theorem aTime_any (sb b base : Nat) (A : Option Addr) (c : Nat) (l : List Sy) (hl : l.length ≤ 1000) (w : World) (hb : b ≤ 800000) (hs : IsStream w sb b) (hbs : sb < base) (ho : w.ownsRow base 61 2 (.slice A l.length c) l.length (flatSy l)) :
    Calls Tryd.prog 7 #[.pointer (some ⟨sb, 0, none⟩), .slice A l.length c] w (fun e w' => ∃ x : Int, e = .returned (.int .i64 x) ∧ Took sb (b + 50) w w') := by
  by_cases h0 : l.length = 0
  · have hl0 : l = [] := List.length_eq_zero_iff.mp h0
    subst hl0
    clear h0 ho
    go_enter Tryd.func7, Tryd.ntmps7
    go_wp2_with fail
    refine (pick_lit sb b [0, -1, 345686399999, 345686400000] _ _ 4 rfl (by omega) (by omega) rfl (by omega) hs).mono ?_
    rintro e w1 ⟨x, _, rfl, t1⟩
    go_wp2_with fail
    go_ret
    exact ⟨_, rfl, t1.more (by omega)⟩
  have hp : 0 < l.length := by omega
  have h01 : ((l.length : Int) == 0) = false := beq_eq_false_iff_ne.mpr (by omega)
  obtain ⟨g, cap, hv, hbg, hgz, _, _, _⟩ := own_read ho hp
  simp only [Value.slice.injEq, true_and] at hv
  obtain ⟨rfl, rfl⟩ := hv
  have HO := Lib.hid ho
  clear ho h0
  go_enter Tryd.func7, Tryd.ntmps7
  go_wp2_with fail
  refine (flip_any sb b _ _ (by omega) (by omega) (by omega) hs).mono ?_
  rintro e w1 ⟨f, rfl, t1⟩
  have HO1 : Hid (w1.ownsRow base 61 2 (.slice (some ⟨g, 0, none⟩) l.length c) l.length (flatSy l) ∧ Took sb (b + 1) w w1) := ⟨kept_own HO.out t1.2 hbs, t1⟩
  have hg1 : g < w1.heap.size := by have := t1.size; omega
  clear t1 hs HO h01
  cases f
  · go_upto_region 3 with (fail)
    refine Rg.rgL (Kept sb)
      [(fun vs u => vs 0 = .slice (some ⟨g, 0, none⟩) l.length c), (fun vs u => vs 1 = .pointer (some ⟨sb, 0, none⟩)), (fun vs u => vs 2 = .slice (some ⟨g, 0, none⟩) l.length c), (fun vs u => vs 3 = .int .i64 l.length), (fun vs u => ∃ k : Nat, vs 4 = .int .i64 k ∧ k < l.length), (fun vs u => ∃ k : Nat, vs 5 = .pointer (some ⟨g, k * 2, none⟩) ∧ k < l.length), (fun vs u => ∃ k : Nat, vs 6 = .pointer (some ⟨g, k * 2 + 1, none⟩) ∧ k < l.length), (fun vs u => ∃ x : Int, vs 7 = .int .i64 x), (fun vs u => vs 8 = .pointer (some ⟨sb, 0, none⟩)), (fun vs u => vs 9 = .pointer (some ⟨sb, 0, none⟩)), (fun vs u => ∃ x : Int, vs 10 = .int .i64 x), (fun vs u => IntSl w1.heap.size 5 (vs 11) u), (fun vs u => ∃ x : Int, vs 12 = .int .i64 x)]
      [[], [], [], [2], [1, 2, 3], [0, 1, 2, 3, 4], [0, 1, 2, 3, 4, 5], [0, 1, 2, 3, 4, 5, 6], [], [], [1, 2, 3, 4, 9], [1, 2, 3, 4, 9, 10], [1, 2, 3, 4, 8, 9, 10, 11]] [some 15, some 16, some 17, some 18, some 19, some 20, some 21, some 22, some 23, some 24, some 25, some 26, some 27, some 28, some 4] [] (fun n W => IsStream W sb (b+1+2*n + n)) [[], [], [], [2], [1, 2, 3], [0, 1, 2, 3, 4], [0, 1, 2, 3, 4, 5], [0, 1, 2, 3, 4, 5, 6], [], [], [1, 2, 3, 4, 9], [1, 2, 3, 4, 9, 10], [1, 2, 3, 4, 8, 9, 10, 11], [0, 1, 2, 3, 4, 5, 6, 7, 8, 9, 10, 11, 12], [0, 1, 2, 3, 4, 5, 6, 7, 8, 9, 10, 11, 12, 13]]
      (by kernel_rfl) (by decide) (by kernel_rfl) (by kernel_rfl) (by kernel_rfl) (by kernel_rfl) (by kernel_rfl) (fun _ => Kept.same _ _) (fun _ _ _ h k => h.then_ k) (fun _ _ h => h.more) ?_ ((HO1.out.2.1.drew)) ?_ ?_
    · intro t ht vs w w' h hE
      simp only [List.mem_cons, List.not_mem_nil, or_false] at ht
      rcases ht with rfl | rfl | rfl | rfl | rfl | rfl | rfl | rfl | rfl | rfl | rfl | rfl | rfl
      · exact h
      · exact h
      · exact h
      · exact h
      · exact h
      · exact h
      · exact h
      · exact h
      · exact h
      · exact h
      · exact h
      · exact h.kept hE (by omega)
      · exact h
    ·
      refine Rg.cons 0 1 rfl (Rg.plain rfl ?_) ?_
      · intro vs W n hn hI hG hT hF K hK
        simp only [Rg.putsD, List.getD_cons_zero, List.getD_cons_succ, Act.put, List.setIfInBounds_toArray, List.set_cons_zero, List.set_cons_succ] at hK ⊢
        have hn1 : n < 15 := hn
        clear hn
        clear hF
        have H := Lib.hid hK
        clear hK hT
        go_simp
        exact H.out _ _ (Kept.same _ _) rfl (fun h => by cases h) (hI.more (by omega))
      refine Rg.cons 1 2 rfl (Rg.plain rfl ?_) ?_
      · intro vs W n hn hI hG hT hF K hK
        simp only [Rg.putsD, List.getD_cons_zero, List.getD_cons_succ, Act.put, List.setIfInBounds_toArray, List.set_cons_zero, List.set_cons_succ] at hK ⊢
        have hn1 : n < 15 := hn
        clear hn
        clear hF
        have H := Lib.hid hK
        clear hK hT
        go_simp
        exact H.out _ _ (Kept.same _ _) rfl (fun h => by cases h) (hI.more (by omega))
      refine Rg.cons 2 3 rfl (Rg.plain rfl ?_) ?_
      · intro vs W n hn hI hG hT hF K hK
        simp only [Rg.putsD, List.getD_cons_zero, List.getD_cons_succ, Act.put, List.setIfInBounds_toArray, List.set_cons_zero, List.set_cons_succ] at hK ⊢
        have hn1 : n < 15 := hn
        clear hn
        clear hF
        have H := Lib.hid hK
        clear hK hT
        go_simp
        exact H.out _ _ (Kept.same _ _) rfl (fun h => by cases h) (hI.more (by omega))
      refine Rg.cons 3 4 rfl (Rg.plain rfl ?_) ?_
      · intro vs W n hn hI hG hT hF K hK
        simp only [Rg.putsD, List.getD_cons_zero, List.getD_cons_succ, Act.put, List.setIfInBounds_toArray, List.set_cons_zero, List.set_cons_succ] at hK ⊢
        have hn1 : n < 15 := hn
        clear hn
        clear hF
        have t2 : vs 2 = .slice (some ⟨g, 0, none⟩) l.length c := hT 2 (by decide)
        simp only [t2] at hK
        have H := Lib.hid hK
        clear hK hT
        go_simp
        exact H.out _ _ (Kept.same _ _) rfl (fun h => by cases h) (hI.more (by omega))
      refine Rg.cons 4 5 rfl (Rg.plain rfl ?_) ?_
      · intro vs W n hn hI hG hT hF K hK
        simp only [Rg.putsD, List.getD_cons_zero, List.getD_cons_succ, Act.put, List.setIfInBounds_toArray, List.set_cons_zero, List.set_cons_succ] at hK ⊢
        have hn1 : n < 15 := hn
        clear hn
        clear hF
        have t1 : vs 1 = .pointer (some ⟨sb, 0, none⟩) := hT 1 (by decide)
        have t3 : vs 3 = .int .i64 l.length := hT 3 (by decide)
        simp only [t1, t3] at hK
        have H := Lib.hid hK
        clear hK hT
        go_simp
        refine (next_any sb _ _ _ (by omega) (by omega) (by omega) hI).mono ?_
        rintro e w5 ⟨x, q0, q1, rfl, ht⟩
        obtain ⟨k, rfl⟩ := Int.eq_ofNat_of_zero_le q0
        exact H.out _ _ ht.2 ⟨k, rfl, by omega⟩ (fun h => by cases h) (ht.1.more (by omega))
      refine Rg.cons 5 6 rfl (Rg.plain rfl ?_) ?_
      · intro vs W n hn hI hG hT hF K hK
        simp only [Rg.putsD, List.getD_cons_zero, List.getD_cons_succ, Act.put, List.setIfInBounds_toArray, List.set_cons_zero, List.set_cons_succ] at hK ⊢
        have hn1 : n < 15 := hn
        clear hn
        clear hF
        have t0 : vs 0 = .slice (some ⟨g, 0, none⟩) l.length c := hT 0 (by decide)
        have t4 : ∃ k : Nat, vs 4 = .int .i64 k ∧ k < l.length := hT 4 (by decide)
        obtain ⟨k, e4, hk4⟩ := t4
        simp only [e4] at hK
        have i1 : (0 : Int) ≤ (k : Int) := by omega
        have i2 : (k : Int) < (l.length : Int) := by omega
        simp only [t0] at hK
        have H := Lib.hid hK
        clear hK hT
        go_simp
        exact H.out _ _ (Kept.same _ _) ⟨k, rfl, hk4⟩ (fun h => by cases h) (hI.more (by omega))
      refine Rg.cons 6 7 rfl (Rg.plain rfl ?_) ?_
      · intro vs W n hn hI hG hT hF K hK
        simp only [Rg.putsD, List.getD_cons_zero, List.getD_cons_succ, Act.put, List.setIfInBounds_toArray, List.set_cons_zero, List.set_cons_succ] at hK ⊢
        have hn1 : n < 15 := hn
        clear hn
        clear hF
        have t5 : ∃ k : Nat, vs 5 = .pointer (some ⟨g, k * 2, none⟩) ∧ k < l.length := hT 5 (by decide)
        obtain ⟨k, e5, hk5⟩ := t5
        simp only [e5] at hK
        have H := Lib.hid hK
        clear hK hT
        go_simp
        exact H.out _ _ (Kept.same _ _) ⟨k, rfl, hk5⟩ (fun h => by cases h) (hI.more (by omega))
      refine Rg.cons 7 8 rfl (Rg.plain rfl ?_) ?_
      · intro vs W n hn hI hG hT hF K hK
        simp only [Rg.putsD, List.getD_cons_zero, List.getD_cons_succ, Act.put, List.setIfInBounds_toArray, List.set_cons_zero, List.set_cons_succ] at hK ⊢
        have hn1 : n < 15 := hn
        clear hn
        clear hF
        have t6 : ∃ k : Nat, vs 6 = .pointer (some ⟨g, k * 2 + 1, none⟩) ∧ k < l.length := hT 6 (by decide)
        obtain ⟨k, e6, hk6⟩ := t6
        simp only [e6] at hK
        have hln := sy_line (kept_own (w := w1.drew) HO1.out.1 hG hbs) hp
        have hc := (row_sy hln hk6).2
        have hgz := hln.1
        clear hln
        have H := Lib.hid hK
        clear hK hT
        go_simp
        exact H.out _ _ (Kept.same _ _) ⟨_, rfl⟩ (fun h => by cases h) (hI.more (by omega))
      refine Rg.cons 8 9 rfl (Rg.plain rfl ?_) ?_
      · intro vs W n hn hI hG hT hF K hK
        simp only [Rg.putsD, List.getD_cons_zero, List.getD_cons_succ, Act.put, List.setIfInBounds_toArray, List.set_cons_zero, List.set_cons_succ] at hK ⊢
        have hn1 : n < 15 := hn
        clear hn
        clear hF
        have H := Lib.hid hK
        clear hK hT
        go_simp
        exact H.out _ _ (Kept.same _ _) rfl (fun h => by cases h) (hI.more (by omega))
      refine Rg.cons 9 10 rfl (Rg.plain rfl ?_) ?_
      · intro vs W n hn hI hG hT hF K hK
        simp only [Rg.putsD, List.getD_cons_zero, List.getD_cons_succ, Act.put, List.setIfInBounds_toArray, List.set_cons_zero, List.set_cons_succ] at hK ⊢
        have hn1 : n < 15 := hn
        clear hn
        clear hF
        have H := Lib.hid hK
        clear hK hT
        go_simp
        exact H.out _ _ (Kept.same _ _) rfl (fun h => by cases h) (hI.more (by omega))
      refine Rg.cons 10 11 rfl (Rg.plain rfl ?_) ?_
      · intro vs W n hn hI hG hT hF K hK
        simp only [Rg.putsD, List.getD_cons_zero, List.getD_cons_succ, Act.put, List.setIfInBounds_toArray, List.set_cons_zero, List.set_cons_succ] at hK ⊢
        have hn1 : n < 15 := hn
        clear hn
        clear hF
        have t9 : vs 9 = .pointer (some ⟨sb, 0, none⟩) := hT 9 (by decide)
        simp only [t9] at hK
        have H := Lib.hid hK
        clear hK hT
        go_simp
        refine (hours_any sb _ _ (by omega) hI).mono ?_
        rintro e w1 ⟨x, rfl, ht⟩
        exact H.out _ _ ht.2 ⟨_, rfl⟩ (fun h => by cases h) (ht.1.more (by omega))
      refine Rg.cons 11 12 rfl (Rg.plain rfl ?_) ?_
      · intro vs W n hn hI hG hT hF K hK
        simp only [Rg.putsD, List.getD_cons_zero, List.getD_cons_succ, Act.put, List.setIfInBounds_toArray, List.set_cons_zero, List.set_cons_succ] at hK ⊢
        have hn1 : n < 15 := hn
        clear hn
        clear hF
        have t10 : ∃ x : Int, vs 10 = .int .i64 x := hT 10 (by decide)
        obtain ⟨x10, e10⟩ := t10
        simp only [e10] at hK
        have H := Lib.hid hK
        clear hK hT
        go_simp
        exact H.out _ _ (Kept.of_below ((Below.refl _ _).alloc (Nat.le_refl _) _)) (IntSl.new [0, 0, (-1), 1, x10] rfl hG.more) (fun h => by cases h) ((hI.alloc _).more (by omega))
      refine Rg.cons 12 13 rfl (Rg.plain rfl ?_) ?_
      · intro vs W n hn hI hG hT hF K hK
        simp only [Rg.putsD, List.getD_cons_zero, List.getD_cons_succ, Act.put, List.setIfInBounds_toArray, List.set_cons_zero, List.set_cons_succ] at hK ⊢
        have hn1 : n < 15 := hn
        clear hn
        clear hF
        have t8 : vs 8 = .pointer (some ⟨sb, 0, none⟩) := hT 8 (by decide)
        have t11 : IntSl w1.heap.size 5 (vs 11) W := hT 11 (by decide)
        obtain ⟨b11, xs11, n11, c11, e11, k11⟩ := t11
        have N11 := Lib.hid (And.intro n11 k11)
        clear n11 k11
        simp only [e11] at hK
        simp only [t8] at hK
        have H := Lib.hid hK
        clear hK hT
        go_simp
        refine (pick_blk N11.out.2 N11.out.1 (by decide) (by decide) (by omega) (by omega) hI).mono ?_
        rintro e w1 ⟨x, _, rfl, ht⟩
        exact H.out _ _ ht.2 ⟨_, rfl⟩ (fun h => by cases h) (ht.1.more (by omega))
      exact Rg.nil
    · intro vs W hG hI hT hF
      have t0 : vs 0 = .slice (some ⟨g, 0, none⟩) l.length c := hT 0 (by decide)
      have t1 : vs 1 = .pointer (some ⟨sb, 0, none⟩) := hT 1 (by decide)
      have t2 : vs 2 = .slice (some ⟨g, 0, none⟩) l.length c := hT 2 (by decide)
      have t3 : vs 3 = .int .i64 l.length := hT 3 (by decide)
      have t4 : ∃ k : Nat, vs 4 = .int .i64 k ∧ k < l.length := hT 4 (by decide)
      have t5 : ∃ k : Nat, vs 5 = .pointer (some ⟨g, k * 2, none⟩) ∧ k < l.length := hT 5 (by decide)
      have t6 : ∃ k : Nat, vs 6 = .pointer (some ⟨g, k * 2 + 1, none⟩) ∧ k < l.length := hT 6 (by decide)
      have t7 : ∃ x : Int, vs 7 = .int .i64 x := hT 7 (by decide)
      have t8 : vs 8 = .pointer (some ⟨sb, 0, none⟩) := hT 8 (by decide)
      have t9 : vs 9 = .pointer (some ⟨sb, 0, none⟩) := hT 9 (by decide)
      have t10 : ∃ x : Int, vs 10 = .int .i64 x := hT 10 (by decide)
      have t11 : IntSl w1.heap.size 5 (vs 11) W := hT 11 (by decide)
      have t12 : ∃ x : Int, vs 12 = .int .i64 x := hT 12 (by decide)
      simp only [List.length_cons, List.length_nil, Nat.reduceAdd, List.range, List.range.loop, List.drop_succ_cons, List.drop_zero, Rg.putsD, List.getD_cons_zero, List.getD_cons_succ, Act.put, List.setIfInBounds_toArray, List.set_cons_zero, List.set_cons_succ, t0, t1, t2, t3, t8, t9]
      clear hT t0 t1 t2 t3 t8 t9
      obtain ⟨x7, e7⟩ := t7
      obtain ⟨x12, e12⟩ := t12
      have HF : Hid (Took sb (b + 50) w W) := ⟨IsStream.more hI (by simp), HO1.out.2.drew.2.then_ hG⟩
      clear hG hI hF
      simp only [e7, e12]
      go_wp2_with fail
      go_ret
      exact ⟨_, rfl, HF.out⟩
  · go_wp2_with fail
    refine (pick_lit sb (b + 1) [0, -1, 345686399999, 345686400000] _ _ 4 rfl (by omega) (by omega) rfl (by omega) HO1.out.2.1).mono ?_
    rintro e w2 ⟨x, _, rfl, t2⟩
    go_wp2_with fail
    go_ret
    exact ⟨_, rfl, (HO1.out.2.trans t2).more (by omega)⟩
end Go.Proofs.YtopnadilfjakiaaDoor
