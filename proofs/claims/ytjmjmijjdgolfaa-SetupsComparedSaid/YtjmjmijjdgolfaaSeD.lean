/-
  Changes and loads, the program's and the reference's.
-/
import Derived.Test.YtjmjmijjdgolfaaSeC
import Derived.Test.YtjmjmijjdgolfaaRg
import Derived.Deep.DrawnRows
namespace Go.Proofs.Ytjmjmijjdgolfaa
open Go.RowKit
set_option linter.unusedSimpArgs false
set_option linter.unusedVariables false

def encC (x : Nat × ByteArray × ByteArray) : List Value := [.int .i64 x.1, .string x.2.1, .string x.2.2]
theorem chg_info : (Try.prog.info? 73).map (fun i => (i.zero, i.size, i.bytes)) = some (some (.agg #[.int .i64 0, .string ⟨#[]⟩, .string ⟨#[]⟩]), 3, 40) := by kernel_rfl
theorem flatC_snoc (l : List (Nat × ByteArray × ByteArray)) (x : Nat × ByteArray × ByteArray) : (l ++ [x]).flatMap encC = l.flatMap encC ++ encC x := by rw [List.flatMap_append]; simp

set_option maxHeartbeats 4000000 in
theorem changes_any {base : Nat} {a b : List ByteArray} {v1 v2 : Value} (ha : a.length ≤ 100000) (hab : a.length = b.length) {w : World} (h1 : ReadsF base encS v1 a w) (h2 : ReadsF base encS v2 b w) :
    Calls Try.prog 75 #[v1, v2] w fun e w' => ∃ u, e = .returned u ∧ Below w.heap.size w w' ∧ w'.ownsRow w.heap.size 73 3 u (chgOf a b).length ((chgOf a b).flatMap encC) := by
  have HH := Lib.hid (And.intro h1 h2)
  obtain ⟨A1, c1, rfl, _, _⟩ := h1
  obtain ⟨A2, c2, rfl, _, _⟩ := h2
  have HAB := Lib.hid hab
  go_enter Try.func75, Try.ntmps75
  rw [← hab]
  clear hab
  go_wp2_with fail
  go_loopw [5, 9] (fun lv kk wr => ∃ k : Nat, k ≤ a.length ∧ kk = .int .i64 k ∧ Hid (Below w.heap.size w wr ∧ wr.ownsRow w.heap.size 73 3 lv (chgK a b k).length ((chgK a b k).flatMap encC))) (fun _ kk _ => a.length - (intOf kk).toNat)
  case atStart => exact ⟨0, by omega, rfl, Below.refl _ _, World.ownsRow_nil _ _ _ _⟩
  case round =>
    obtain ⟨k, hk, rfl, HS⟩ := hrel
    by_cases hlt : k < a.length
    · obtain ⟨A1', c1', e1, _, hr1⟩ := HH.out.1.below HS.out.1
      obtain ⟨A2', c2', e2, _, hr2⟩ := HH.out.2.below HS.out.1
      cases e1
      rw [← HAB.out] at e2
      cases e2
      rcases hr1 with hr1 | ⟨g1, rfl, _, r1⟩
      · subst hr1; simp at hlt
      have hltb : k < b.length := by rw [← HAB.out]; exact hlt
      rcases hr2 with hr2 | ⟨g2, rfl, _, r2⟩
      · subst hr2; simp at hltb
      have q1 := row_strg r1 hlt
      have q2 := row_strg r2 hltb
      rw [← nth_at hlt] at q1
      rw [← nth_at hltb] at q2
      have hg1 := r1.1
      have hg2 := r2.1
      have i1 : (0 : Int) ≤ (k : Int) := by omega
      have i2 : (k : Int) < (a.length : Int) := by omega
      have hlen := chgK_len a b k
      obtain ⟨A5, c5, rfl, _⟩ := own_form HS.out.2
      have HS1 := Lib.hid (@chgK_same a b k)
      have HS2 := Lib.hid (@chgK_next a b k)
      generalize chgK a b k = acc at *
      generalize nth a k = x at *
      generalize nth b k = y at *
      clear r1 r2
      cases hxy : (x.toList == y.toList)
      · have hne : ¬ x = y := fun e => by rw [e] at hxy; simp at hxy
        have HN := Lib.hid (HS2.out hne)
        clear HS1 HS2 hne
        go_wp2_with fail
        go_quiet (fail)
        go_wp2_with fail
        have HQ : Hid ((wr.drewN nq).ownsRow w.heap.size 73 3 (.slice A5 acc.length c5) acc.length (acc.flatMap encC) ∧ (wr.drewN nq).cell? ⟨g1, k, none⟩ = some (.string x) ∧ (wr.drewN nq).cell? ⟨g2, k, none⟩ = some (.string y) ∧ Below w.heap.size w (wr.drewN nq) ∧ g1 < (wr.drewN nq).heap.size ∧ g2 < (wr.drewN nq).heap.size) :=
          ⟨own_below HS.out.2 ((Below.refl _ _).drawN _), q1, q2, HS.out.1.drawN _, hg1, hg2⟩
        clear q1 q2 hg1 hg2 HS HH HAB hxy
        generalize wr.drewN nq = W0 at *
        have hg1 := HQ.out.2.2.2.2.1
        have hg2 := HQ.out.2.2.2.2.2
        have hw0 := HQ.out.2.2.2.1.size
        refine Rg.rgL (fun a b => Below a.heap.size a b)
          [(fun vs u => vs 0 = .slice A5 acc.length c5), (fun vs u => vs 1 = .int .i64 k), (fun vs u => vs 2 = .slice (some ⟨g1, 0, none⟩) a.length c1), (fun vs u => vs 3 = .int .i64 k), (fun vs u => vs 4 = .pointer (some ⟨g1, k, none⟩)), (fun vs u => vs 5 = .string x), (fun vs u => vs 6 = .slice (some ⟨g2, 0, none⟩) a.length c2), (fun vs u => vs 7 = .int .i64 k), (fun vs u => vs 8 = .pointer (some ⟨g2, k, none⟩)), (fun vs u => vs 9 = .string y), (fun vs u => vs 10 = .agg #[.int .i64 k, .string x, .string y]), (fun vs u => ∃ b : Nat, vs 11 = .slice (some ⟨b, 0, none⟩) 1 1 ∧ u.heap[b]? = some (.cells #[.int .i64 k, .string x, .string y] 73 (0, 0)))]
          [[], [], [], [], [2, 3], [2, 3, 4], [], [], [6, 7], [6, 7, 8], [1, 2, 3, 4, 5, 6, 7, 8, 9], [1, 2, 3, 4, 5, 6, 7, 8, 9, 10]] [some 21, some 22, some 23, some 24, some 25, some 26, some 27, some 28, some 29, some 30, some 31, some 32, some 33, some 5] [11] (fun _ _ => True) [[], [], [], [], [2, 3], [2, 3, 4], [], [], [6, 7], [6, 7, 8], [1, 2, 3, 4, 5, 6, 7, 8, 9], [1, 2, 3, 4, 5, 6, 7, 8, 9, 10], [0, 1, 2, 3, 4, 5, 6, 7, 8, 9, 10, 11], [0, 1, 2, 3, 4, 5, 6, 7, 8, 9, 10, 11, 12]]
          (by kernel_rfl) (by decide) (by kernel_rfl) (by kernel_rfl) (by kernel_rfl) (by kernel_rfl) (by kernel_rfl) (fun _ => Below.refl _ _) (fun _ _ _ h k => h.ext k) (fun _ _ h => h.size) ?_ trivial ?_ ?_
        · intro t ht vs w w' h hE
          simp only [List.mem_cons, List.not_mem_nil, or_false] at ht
          rcases ht with rfl | rfl | rfl | rfl | rfl | rfl | rfl | rfl | rfl | rfl | rfl | rfl
          · exact h
          · exact h
          · exact h
          · exact h
          · exact h
          · exact h
          · exact h
          · exact h
          · exact h
          · exact h
          · exact h
          · obtain ⟨b, e, k⟩ := h
            exact ⟨b, e, blk_below hE k⟩
        ·
          refine Rg.cons 0 1 rfl (Rg.plain rfl ?_) ?_
          · intro vs W n hn hI hG hT hF K hK
            simp only [Rg.putsD, List.getD_cons_zero, List.getD_cons_succ, Act.put, List.setIfInBounds_toArray, List.set_cons_zero, List.set_cons_succ] at hK ⊢
            clear hn
            clear hF hI
            have H := Lib.hid hK
            clear hK hT
            go_simp
            exact H.out _ _ (Below.refl _ _) rfl (fun h => by cases h) trivial
          refine Rg.cons 1 2 rfl (Rg.plain rfl ?_) ?_
          · intro vs W n hn hI hG hT hF K hK
            simp only [Rg.putsD, List.getD_cons_zero, List.getD_cons_succ, Act.put, List.setIfInBounds_toArray, List.set_cons_zero, List.set_cons_succ] at hK ⊢
            clear hn
            clear hF hI
            have H := Lib.hid hK
            clear hK hT
            go_simp
            exact H.out _ _ (Below.refl _ _) rfl (fun h => by cases h) trivial
          refine Rg.cons 2 3 rfl (Rg.plain rfl ?_) ?_
          · intro vs W n hn hI hG hT hF K hK
            simp only [Rg.putsD, List.getD_cons_zero, List.getD_cons_succ, Act.put, List.setIfInBounds_toArray, List.set_cons_zero, List.set_cons_succ] at hK ⊢
            clear hn
            clear hF hI
            have H := Lib.hid hK
            clear hK hT
            go_simp
            exact H.out _ _ (Below.refl _ _) rfl (fun h => by cases h) trivial
          refine Rg.cons 3 4 rfl (Rg.plain rfl ?_) ?_
          · intro vs W n hn hI hG hT hF K hK
            simp only [Rg.putsD, List.getD_cons_zero, List.getD_cons_succ, Act.put, List.setIfInBounds_toArray, List.set_cons_zero, List.set_cons_succ] at hK ⊢
            clear hn
            clear hF hI
            have H := Lib.hid hK
            clear hK hT
            go_simp
            exact H.out _ _ (Below.refl _ _) rfl (fun h => by cases h) trivial
          refine Rg.cons 4 5 rfl (Rg.plain rfl ?_) ?_
          · intro vs W n hn hI hG hT hF K hK
            simp only [Rg.putsD, List.getD_cons_zero, List.getD_cons_succ, Act.put, List.setIfInBounds_toArray, List.set_cons_zero, List.set_cons_succ] at hK ⊢
            clear hn
            clear hF hI
            have t2 : vs 2 = .slice (some ⟨g1, 0, none⟩) a.length c1 := hT 2 (by decide)
            have t3 : vs 3 = .int .i64 k := hT 3 (by decide)
            simp only [t2, t3] at hK
            have H := Lib.hid hK
            clear hK hT
            go_simp
            exact H.out _ _ (Below.refl _ _) rfl (fun h => by cases h) trivial
          refine Rg.cons 5 6 rfl (Rg.plain rfl ?_) ?_
          · intro vs W n hn hI hG hT hF K hK
            simp only [Rg.putsD, List.getD_cons_zero, List.getD_cons_succ, Act.put, List.setIfInBounds_toArray, List.set_cons_zero, List.set_cons_succ] at hK ⊢
            clear hn
            clear hF hI
            have t2 : vs 2 = .slice (some ⟨g1, 0, none⟩) a.length c1 := hT 2 (by decide)
            have t3 : vs 3 = .int .i64 k := hT 3 (by decide)
            have t4 : vs 4 = .pointer (some ⟨g1, k, none⟩) := hT 4 (by decide)
            have c0 := (hG.cell (p := ⟨g1, k, none⟩) hg1).trans HQ.out.2.1
            simp only [t2, t3, t4] at hK
            have H := Lib.hid hK
            clear hK hT
            go_simp
            exact H.out _ _ (Below.refl _ _) rfl (fun h => by cases h) trivial
          refine Rg.cons 6 7 rfl (Rg.plain rfl ?_) ?_
          · intro vs W n hn hI hG hT hF K hK
            simp only [Rg.putsD, List.getD_cons_zero, List.getD_cons_succ, Act.put, List.setIfInBounds_toArray, List.set_cons_zero, List.set_cons_succ] at hK ⊢
            clear hn
            clear hF hI
            have H := Lib.hid hK
            clear hK hT
            go_simp
            exact H.out _ _ (Below.refl _ _) rfl (fun h => by cases h) trivial
          refine Rg.cons 7 8 rfl (Rg.plain rfl ?_) ?_
          · intro vs W n hn hI hG hT hF K hK
            simp only [Rg.putsD, List.getD_cons_zero, List.getD_cons_succ, Act.put, List.setIfInBounds_toArray, List.set_cons_zero, List.set_cons_succ] at hK ⊢
            clear hn
            clear hF hI
            have H := Lib.hid hK
            clear hK hT
            go_simp
            exact H.out _ _ (Below.refl _ _) rfl (fun h => by cases h) trivial
          refine Rg.cons 8 9 rfl (Rg.plain rfl ?_) ?_
          · intro vs W n hn hI hG hT hF K hK
            simp only [Rg.putsD, List.getD_cons_zero, List.getD_cons_succ, Act.put, List.setIfInBounds_toArray, List.set_cons_zero, List.set_cons_succ] at hK ⊢
            clear hn
            clear hF hI
            have t6 : vs 6 = .slice (some ⟨g2, 0, none⟩) a.length c2 := hT 6 (by decide)
            have t7 : vs 7 = .int .i64 k := hT 7 (by decide)
            simp only [t6, t7] at hK
            have H := Lib.hid hK
            clear hK hT
            go_simp
            exact H.out _ _ (Below.refl _ _) rfl (fun h => by cases h) trivial
          refine Rg.cons 9 10 rfl (Rg.plain rfl ?_) ?_
          · intro vs W n hn hI hG hT hF K hK
            simp only [Rg.putsD, List.getD_cons_zero, List.getD_cons_succ, Act.put, List.setIfInBounds_toArray, List.set_cons_zero, List.set_cons_succ] at hK ⊢
            clear hn
            clear hF hI
            have t6 : vs 6 = .slice (some ⟨g2, 0, none⟩) a.length c2 := hT 6 (by decide)
            have t7 : vs 7 = .int .i64 k := hT 7 (by decide)
            have t8 : vs 8 = .pointer (some ⟨g2, k, none⟩) := hT 8 (by decide)
            have c0 := (hG.cell (p := ⟨g2, k, none⟩) hg2).trans HQ.out.2.2.1
            simp only [t6, t7, t8] at hK
            have H := Lib.hid hK
            clear hK hT
            go_simp
            exact H.out _ _ (Below.refl _ _) rfl (fun h => by cases h) trivial
          refine Rg.cons 10 11 rfl (Rg.plain rfl ?_) ?_
          · intro vs W n hn hI hG hT hF K hK
            simp only [Rg.putsD, List.getD_cons_zero, List.getD_cons_succ, Act.put, List.setIfInBounds_toArray, List.set_cons_zero, List.set_cons_succ] at hK ⊢
            clear hn
            clear hF hI
            have t1 : vs 1 = .int .i64 k := hT 1 (by decide)
            have t2 : vs 2 = .slice (some ⟨g1, 0, none⟩) a.length c1 := hT 2 (by decide)
            have t3 : vs 3 = .int .i64 k := hT 3 (by decide)
            have t4 : vs 4 = .pointer (some ⟨g1, k, none⟩) := hT 4 (by decide)
            have t5 : vs 5 = .string x := hT 5 (by decide)
            have t6 : vs 6 = .slice (some ⟨g2, 0, none⟩) a.length c2 := hT 6 (by decide)
            have t7 : vs 7 = .int .i64 k := hT 7 (by decide)
            have t8 : vs 8 = .pointer (some ⟨g2, k, none⟩) := hT 8 (by decide)
            have t9 : vs 9 = .string y := hT 9 (by decide)
            simp only [t1, t2, t3, t4, t5, t6, t7, t8, t9] at hK
            have H := Lib.hid hK
            clear hK hT
            go_simp
            exact H.out _ _ (Below.refl _ _) rfl (fun h => by cases h) trivial
          refine Rg.cons 11 12 rfl (Rg.plain rfl ?_) ?_
          · intro vs W n hn hI hG hT hF K hK
            simp only [Rg.putsD, List.getD_cons_zero, List.getD_cons_succ, Act.put, List.setIfInBounds_toArray, List.set_cons_zero, List.set_cons_succ] at hK ⊢
            clear hn
            clear hF hI
            have t1 : vs 1 = .int .i64 k := hT 1 (by decide)
            have t2 : vs 2 = .slice (some ⟨g1, 0, none⟩) a.length c1 := hT 2 (by decide)
            have t3 : vs 3 = .int .i64 k := hT 3 (by decide)
            have t4 : vs 4 = .pointer (some ⟨g1, k, none⟩) := hT 4 (by decide)
            have t5 : vs 5 = .string x := hT 5 (by decide)
            have t6 : vs 6 = .slice (some ⟨g2, 0, none⟩) a.length c2 := hT 6 (by decide)
            have t7 : vs 7 = .int .i64 k := hT 7 (by decide)
            have t8 : vs 8 = .pointer (some ⟨g2, k, none⟩) := hT 8 (by decide)
            have t9 : vs 9 = .string y := hT 9 (by decide)
            have t10 : vs 10 = .agg #[.int .i64 k, .string x, .string y] := hT 10 (by decide)
            simp only [t1, t2, t3, t4, t5, t6, t7, t8, t9, t10] at hK
            have H := Lib.hid hK
            clear hK hT
            go_simp
            exact H.out _ _ ((Below.refl _ _).alloc (Nat.le_refl _) _) (show ∃ b : Nat, _ = _ ∧ _ = _ from ⟨_, rfl, blk_new W _ rfl⟩) (fun _ => ⟨W.heap.size, rfl, Nat.le_refl _, by simp⟩) trivial
          exact Rg.nil
        · intro vs W hG hI hT hF
          have t0 : vs 0 = .slice A5 acc.length c5 := hT 0 (by decide)
          have t1 : vs 1 = .int .i64 k := hT 1 (by decide)
          have t2 : vs 2 = .slice (some ⟨g1, 0, none⟩) a.length c1 := hT 2 (by decide)
          have t3 : vs 3 = .int .i64 k := hT 3 (by decide)
          have t4 : vs 4 = .pointer (some ⟨g1, k, none⟩) := hT 4 (by decide)
          have t5 : vs 5 = .string x := hT 5 (by decide)
          have t6 : vs 6 = .slice (some ⟨g2, 0, none⟩) a.length c2 := hT 6 (by decide)
          have t7 : vs 7 = .int .i64 k := hT 7 (by decide)
          have t8 : vs 8 = .pointer (some ⟨g2, k, none⟩) := hT 8 (by decide)
          have t9 : vs 9 = .string y := hT 9 (by decide)
          have t10 : vs 10 = .agg #[.int .i64 k, .string x, .string y] := hT 10 (by decide)
          have t11 : ∃ b : Nat, vs 11 = .slice (some ⟨b, 0, none⟩) 1 1 ∧ W.heap[b]? = some (.cells #[.int .i64 k, .string x, .string y] 73 (0, 0)) := hT 11 (by decide)
          simp only [List.length_cons, List.length_nil, Nat.reduceAdd, List.range, List.range.loop, List.drop_succ_cons, List.drop_zero, Rg.putsD, List.getD_cons_zero, List.getD_cons_succ, Act.put, List.setIfInBounds_toArray, List.set_cons_zero, List.set_cons_succ, t0, t1, t2, t3, t4, t5, t6, t7, t8, t9, t10]
          clear hT t0 t1 t2 t3 t4 t5 t6 t7 t8 t9 t10
          obtain ⟨bq, e11, k11⟩ := t11
          have hgW := hG.size
          have h1 : Hid (W.ownsRow w.heap.size 73 3 (.slice A5 acc.length c5) acc.length (acc.flatMap encC) ∧ W.heap[bq]? = some (.cells #[.int .i64 k, .string x, .string y] 73 (0, 0)) ∧ Below w.heap.size w W) :=
            ⟨own_below (w := W0.drew) HQ.out.1 hG, k11, (HQ.out.2.2.2.1.drew).then_below hG hw0⟩
          have E11 := Lib.hid e11
          have hWs : w.heap.size ≤ W.heap.size := h1.out.2.2.size
          clear hF hG hI e11 k11 hgW
          simp only [E11.out]
          obtain ⟨i0, hi, hz0, hz1, hz2⟩ := info_parts chg_info
          refine wpList_append_own _ rfl _ _ 59 rfl w.heap.size 73 i0 _ 3 40 Try.underlying59 hi hz0 hz1 hz2 rfl (by omega) _ acc.length (acc.flatMap encC) rfl h1.out.1 ⟨bq, 0, none⟩ 1 1 [.int .i64 k, .string x, .string y] rfl rfl ?c1 (by intro u hu; simp at hu; rcases hu with rfl | rfl | rfl <;> rfl) ?c2 ?c3 hWs ?_
          case c1 =>
            intro q u hu
            rw [addr_new, cell_of_blk h1.out.2.1]
            simpa using hu
          case c2 => unfold maxLen; omega
          case c3 => omega
          intro v' w' hown' hg' _
          have HF : Hid (Below w.heap.size w w' ∧ w'.ownsRow w.heap.size 73 3 v' (chgK a b (k + 1)).length ((chgK a b (k + 1)).flatMap encC)) := by
            refine ⟨h1.out.2.2.grown hg' hWs (fun j hj => (h1.out.1.lt j hj).1), ?_⟩
            rw [HN.out, flatC_snoc, List.length_append]
            exact hown'
          clear hown' hg' hi hz0 hz1 hz2
          go_wp2_with fail
          go_roundw
          case rel => exact ⟨k + 1, by omega, by go_num, HF⟩
          case measure => simp [intOf]; omega
      · have he : x = y := by
          have := eq_of_beq hxy
          rw [Lib.toList_data, Lib.toList_data] at this
          exact bt_inj this
        have HN := Lib.hid (HS1.out he)
        clear HS1 HS2 he
        go_wp2_with fail
        go_quiet (fail)
        go_wp2_with fail
        go_roundw
        case rel => exact ⟨k + 1, by omega, by go_num, HS.out.1.drawN _, by rw [HN.out]; exact own_below HS.out.2 ((Below.refl _ _).drawN _)⟩
        case measure => simp [intOf]; omega
    · obtain rfl : k = a.length := by omega
      go_wp2_with fail
      go_ret
      exact ⟨_, rfl, HS.out.1, HS.out.2⟩
set_option maxHeartbeats 4000000 in
theorem changesOf_any {base : Nat} {a b : List ByteArray} {v1 v2 : Value} (ha : a.length ≤ 100000) (hab : a.length = b.length) {w : World} (h1 : ReadsF base encS v1 a w) (h2 : ReadsF base encS v2 b w) :
    Calls Try.prog 35 #[v1, v2] w fun e w' => ∃ u, e = .returned u ∧ Below w.heap.size w w' ∧ w'.ownsRow w.heap.size 73 3 u (chgOf a b).length ((chgOf a b).flatMap encC) := by
  have HH := Lib.hid (And.intro h1 h2)
  obtain ⟨A1, c1, rfl, _, _⟩ := h1
  obtain ⟨A2, c2, rfl, _, _⟩ := h2
  have HAB := Lib.hid hab
  go_enter Try.func35, Try.ntmps35
  rw [← hab]
  clear hab
  go_wp2_with fail
  go_loopw [5, 9] (fun lv kk wr => ∃ k : Nat, k ≤ a.length ∧ kk = .int .i64 k ∧ Hid (Below w.heap.size w wr ∧ wr.ownsRow w.heap.size 73 3 lv (chgK a b k).length ((chgK a b k).flatMap encC))) (fun _ kk _ => a.length - (intOf kk).toNat)
  case atStart => exact ⟨0, by omega, rfl, Below.refl _ _, World.ownsRow_nil _ _ _ _⟩
  case round =>
    obtain ⟨k, hk, rfl, HS⟩ := hrel
    by_cases hlt : k < a.length
    · obtain ⟨A1', c1', e1, _, hr1⟩ := HH.out.1.below HS.out.1
      obtain ⟨A2', c2', e2, _, hr2⟩ := HH.out.2.below HS.out.1
      cases e1
      rw [← HAB.out] at e2
      cases e2
      rcases hr1 with hr1 | ⟨g1, rfl, _, r1⟩
      · subst hr1; simp at hlt
      have hltb : k < b.length := by rw [← HAB.out]; exact hlt
      rcases hr2 with hr2 | ⟨g2, rfl, _, r2⟩
      · subst hr2; simp at hltb
      have q1 := row_strg r1 hlt
      have q2 := row_strg r2 hltb
      rw [← nth_at hlt] at q1
      rw [← nth_at hltb] at q2
      have hg1 := r1.1
      have hg2 := r2.1
      have i1 : (0 : Int) ≤ (k : Int) := by omega
      have i2 : (k : Int) < (a.length : Int) := by omega
      have hlen := chgK_len a b k
      obtain ⟨A5, c5, rfl, _⟩ := own_form HS.out.2
      have HS1 := Lib.hid (@chgK_same a b k)
      have HS2 := Lib.hid (@chgK_next a b k)
      generalize chgK a b k = acc at *
      generalize nth a k = x at *
      generalize nth b k = y at *
      clear r1 r2
      cases hxy : (x.toList == y.toList)
      · have hne : ¬ x = y := fun e => by rw [e] at hxy; simp at hxy
        have HN := Lib.hid (HS2.out hne)
        clear HS1 HS2 hne
        go_wp2_with fail
        go_quiet (fail)
        go_wp2_with fail
        have HQ : Hid ((wr.drewN nq).ownsRow w.heap.size 73 3 (.slice A5 acc.length c5) acc.length (acc.flatMap encC) ∧ (wr.drewN nq).cell? ⟨g1, k, none⟩ = some (.string x) ∧ (wr.drewN nq).cell? ⟨g2, k, none⟩ = some (.string y) ∧ Below w.heap.size w (wr.drewN nq) ∧ g1 < (wr.drewN nq).heap.size ∧ g2 < (wr.drewN nq).heap.size) :=
          ⟨own_below HS.out.2 ((Below.refl _ _).drawN _), q1, q2, HS.out.1.drawN _, hg1, hg2⟩
        clear q1 q2 hg1 hg2 HS HH HAB hxy
        generalize wr.drewN nq = W0 at *
        have hg1 := HQ.out.2.2.2.2.1
        have hg2 := HQ.out.2.2.2.2.2
        have hw0 := HQ.out.2.2.2.1.size
        refine Rg.rgL (fun a b => Below a.heap.size a b)
          [(fun vs u => vs 0 = .slice A5 acc.length c5), (fun vs u => vs 1 = .int .i64 k), (fun vs u => vs 2 = .slice (some ⟨g1, 0, none⟩) a.length c1), (fun vs u => vs 3 = .int .i64 k), (fun vs u => vs 4 = .pointer (some ⟨g1, k, none⟩)), (fun vs u => vs 5 = .string x), (fun vs u => vs 6 = .slice (some ⟨g2, 0, none⟩) a.length c2), (fun vs u => vs 7 = .int .i64 k), (fun vs u => vs 8 = .pointer (some ⟨g2, k, none⟩)), (fun vs u => vs 9 = .string y), (fun vs u => vs 10 = .agg #[.int .i64 k, .string x, .string y]), (fun vs u => ∃ b : Nat, vs 11 = .slice (some ⟨b, 0, none⟩) 1 1 ∧ u.heap[b]? = some (.cells #[.int .i64 k, .string x, .string y] 73 (0, 0)))]
          [[], [], [], [], [2, 3], [2, 3, 4], [], [], [6, 7], [6, 7, 8], [1, 2, 3, 4, 5, 6, 7, 8, 9], [1, 2, 3, 4, 5, 6, 7, 8, 9, 10]] [some 21, some 22, some 23, some 24, some 25, some 26, some 27, some 28, some 29, some 30, some 31, some 32, some 33, some 5] [11] (fun _ _ => True) [[], [], [], [], [2, 3], [2, 3, 4], [], [], [6, 7], [6, 7, 8], [1, 2, 3, 4, 5, 6, 7, 8, 9], [1, 2, 3, 4, 5, 6, 7, 8, 9, 10], [0, 1, 2, 3, 4, 5, 6, 7, 8, 9, 10, 11], [0, 1, 2, 3, 4, 5, 6, 7, 8, 9, 10, 11, 12]]
          (by kernel_rfl) (by decide) (by kernel_rfl) (by kernel_rfl) (by kernel_rfl) (by kernel_rfl) (by kernel_rfl) (fun _ => Below.refl _ _) (fun _ _ _ h k => h.ext k) (fun _ _ h => h.size) ?_ trivial ?_ ?_
        · intro t ht vs w w' h hE
          simp only [List.mem_cons, List.not_mem_nil, or_false] at ht
          rcases ht with rfl | rfl | rfl | rfl | rfl | rfl | rfl | rfl | rfl | rfl | rfl | rfl
          · exact h
          · exact h
          · exact h
          · exact h
          · exact h
          · exact h
          · exact h
          · exact h
          · exact h
          · exact h
          · exact h
          · obtain ⟨b, e, k⟩ := h
            exact ⟨b, e, blk_below hE k⟩
        ·
          refine Rg.cons 0 1 rfl (Rg.plain rfl ?_) ?_
          · intro vs W n hn hI hG hT hF K hK
            simp only [Rg.putsD, List.getD_cons_zero, List.getD_cons_succ, Act.put, List.setIfInBounds_toArray, List.set_cons_zero, List.set_cons_succ] at hK ⊢
            clear hn
            clear hF hI
            have H := Lib.hid hK
            clear hK hT
            go_simp
            exact H.out _ _ (Below.refl _ _) rfl (fun h => by cases h) trivial
          refine Rg.cons 1 2 rfl (Rg.plain rfl ?_) ?_
          · intro vs W n hn hI hG hT hF K hK
            simp only [Rg.putsD, List.getD_cons_zero, List.getD_cons_succ, Act.put, List.setIfInBounds_toArray, List.set_cons_zero, List.set_cons_succ] at hK ⊢
            clear hn
            clear hF hI
            have H := Lib.hid hK
            clear hK hT
            go_simp
            exact H.out _ _ (Below.refl _ _) rfl (fun h => by cases h) trivial
          refine Rg.cons 2 3 rfl (Rg.plain rfl ?_) ?_
          · intro vs W n hn hI hG hT hF K hK
            simp only [Rg.putsD, List.getD_cons_zero, List.getD_cons_succ, Act.put, List.setIfInBounds_toArray, List.set_cons_zero, List.set_cons_succ] at hK ⊢
            clear hn
            clear hF hI
            have H := Lib.hid hK
            clear hK hT
            go_simp
            exact H.out _ _ (Below.refl _ _) rfl (fun h => by cases h) trivial
          refine Rg.cons 3 4 rfl (Rg.plain rfl ?_) ?_
          · intro vs W n hn hI hG hT hF K hK
            simp only [Rg.putsD, List.getD_cons_zero, List.getD_cons_succ, Act.put, List.setIfInBounds_toArray, List.set_cons_zero, List.set_cons_succ] at hK ⊢
            clear hn
            clear hF hI
            have H := Lib.hid hK
            clear hK hT
            go_simp
            exact H.out _ _ (Below.refl _ _) rfl (fun h => by cases h) trivial
          refine Rg.cons 4 5 rfl (Rg.plain rfl ?_) ?_
          · intro vs W n hn hI hG hT hF K hK
            simp only [Rg.putsD, List.getD_cons_zero, List.getD_cons_succ, Act.put, List.setIfInBounds_toArray, List.set_cons_zero, List.set_cons_succ] at hK ⊢
            clear hn
            clear hF hI
            have t2 : vs 2 = .slice (some ⟨g1, 0, none⟩) a.length c1 := hT 2 (by decide)
            have t3 : vs 3 = .int .i64 k := hT 3 (by decide)
            simp only [t2, t3] at hK
            have H := Lib.hid hK
            clear hK hT
            go_simp
            exact H.out _ _ (Below.refl _ _) rfl (fun h => by cases h) trivial
          refine Rg.cons 5 6 rfl (Rg.plain rfl ?_) ?_
          · intro vs W n hn hI hG hT hF K hK
            simp only [Rg.putsD, List.getD_cons_zero, List.getD_cons_succ, Act.put, List.setIfInBounds_toArray, List.set_cons_zero, List.set_cons_succ] at hK ⊢
            clear hn
            clear hF hI
            have t2 : vs 2 = .slice (some ⟨g1, 0, none⟩) a.length c1 := hT 2 (by decide)
            have t3 : vs 3 = .int .i64 k := hT 3 (by decide)
            have t4 : vs 4 = .pointer (some ⟨g1, k, none⟩) := hT 4 (by decide)
            have c0 := (hG.cell (p := ⟨g1, k, none⟩) hg1).trans HQ.out.2.1
            simp only [t2, t3, t4] at hK
            have H := Lib.hid hK
            clear hK hT
            go_simp
            exact H.out _ _ (Below.refl _ _) rfl (fun h => by cases h) trivial
          refine Rg.cons 6 7 rfl (Rg.plain rfl ?_) ?_
          · intro vs W n hn hI hG hT hF K hK
            simp only [Rg.putsD, List.getD_cons_zero, List.getD_cons_succ, Act.put, List.setIfInBounds_toArray, List.set_cons_zero, List.set_cons_succ] at hK ⊢
            clear hn
            clear hF hI
            have H := Lib.hid hK
            clear hK hT
            go_simp
            exact H.out _ _ (Below.refl _ _) rfl (fun h => by cases h) trivial
          refine Rg.cons 7 8 rfl (Rg.plain rfl ?_) ?_
          · intro vs W n hn hI hG hT hF K hK
            simp only [Rg.putsD, List.getD_cons_zero, List.getD_cons_succ, Act.put, List.setIfInBounds_toArray, List.set_cons_zero, List.set_cons_succ] at hK ⊢
            clear hn
            clear hF hI
            have H := Lib.hid hK
            clear hK hT
            go_simp
            exact H.out _ _ (Below.refl _ _) rfl (fun h => by cases h) trivial
          refine Rg.cons 8 9 rfl (Rg.plain rfl ?_) ?_
          · intro vs W n hn hI hG hT hF K hK
            simp only [Rg.putsD, List.getD_cons_zero, List.getD_cons_succ, Act.put, List.setIfInBounds_toArray, List.set_cons_zero, List.set_cons_succ] at hK ⊢
            clear hn
            clear hF hI
            have t6 : vs 6 = .slice (some ⟨g2, 0, none⟩) a.length c2 := hT 6 (by decide)
            have t7 : vs 7 = .int .i64 k := hT 7 (by decide)
            simp only [t6, t7] at hK
            have H := Lib.hid hK
            clear hK hT
            go_simp
            exact H.out _ _ (Below.refl _ _) rfl (fun h => by cases h) trivial
          refine Rg.cons 9 10 rfl (Rg.plain rfl ?_) ?_
          · intro vs W n hn hI hG hT hF K hK
            simp only [Rg.putsD, List.getD_cons_zero, List.getD_cons_succ, Act.put, List.setIfInBounds_toArray, List.set_cons_zero, List.set_cons_succ] at hK ⊢
            clear hn
            clear hF hI
            have t6 : vs 6 = .slice (some ⟨g2, 0, none⟩) a.length c2 := hT 6 (by decide)
            have t7 : vs 7 = .int .i64 k := hT 7 (by decide)
            have t8 : vs 8 = .pointer (some ⟨g2, k, none⟩) := hT 8 (by decide)
            have c0 := (hG.cell (p := ⟨g2, k, none⟩) hg2).trans HQ.out.2.2.1
            simp only [t6, t7, t8] at hK
            have H := Lib.hid hK
            clear hK hT
            go_simp
            exact H.out _ _ (Below.refl _ _) rfl (fun h => by cases h) trivial
          refine Rg.cons 10 11 rfl (Rg.plain rfl ?_) ?_
          · intro vs W n hn hI hG hT hF K hK
            simp only [Rg.putsD, List.getD_cons_zero, List.getD_cons_succ, Act.put, List.setIfInBounds_toArray, List.set_cons_zero, List.set_cons_succ] at hK ⊢
            clear hn
            clear hF hI
            have t1 : vs 1 = .int .i64 k := hT 1 (by decide)
            have t2 : vs 2 = .slice (some ⟨g1, 0, none⟩) a.length c1 := hT 2 (by decide)
            have t3 : vs 3 = .int .i64 k := hT 3 (by decide)
            have t4 : vs 4 = .pointer (some ⟨g1, k, none⟩) := hT 4 (by decide)
            have t5 : vs 5 = .string x := hT 5 (by decide)
            have t6 : vs 6 = .slice (some ⟨g2, 0, none⟩) a.length c2 := hT 6 (by decide)
            have t7 : vs 7 = .int .i64 k := hT 7 (by decide)
            have t8 : vs 8 = .pointer (some ⟨g2, k, none⟩) := hT 8 (by decide)
            have t9 : vs 9 = .string y := hT 9 (by decide)
            simp only [t1, t2, t3, t4, t5, t6, t7, t8, t9] at hK
            have H := Lib.hid hK
            clear hK hT
            go_simp
            exact H.out _ _ (Below.refl _ _) rfl (fun h => by cases h) trivial
          refine Rg.cons 11 12 rfl (Rg.plain rfl ?_) ?_
          · intro vs W n hn hI hG hT hF K hK
            simp only [Rg.putsD, List.getD_cons_zero, List.getD_cons_succ, Act.put, List.setIfInBounds_toArray, List.set_cons_zero, List.set_cons_succ] at hK ⊢
            clear hn
            clear hF hI
            have t1 : vs 1 = .int .i64 k := hT 1 (by decide)
            have t2 : vs 2 = .slice (some ⟨g1, 0, none⟩) a.length c1 := hT 2 (by decide)
            have t3 : vs 3 = .int .i64 k := hT 3 (by decide)
            have t4 : vs 4 = .pointer (some ⟨g1, k, none⟩) := hT 4 (by decide)
            have t5 : vs 5 = .string x := hT 5 (by decide)
            have t6 : vs 6 = .slice (some ⟨g2, 0, none⟩) a.length c2 := hT 6 (by decide)
            have t7 : vs 7 = .int .i64 k := hT 7 (by decide)
            have t8 : vs 8 = .pointer (some ⟨g2, k, none⟩) := hT 8 (by decide)
            have t9 : vs 9 = .string y := hT 9 (by decide)
            have t10 : vs 10 = .agg #[.int .i64 k, .string x, .string y] := hT 10 (by decide)
            simp only [t1, t2, t3, t4, t5, t6, t7, t8, t9, t10] at hK
            have H := Lib.hid hK
            clear hK hT
            go_simp
            exact H.out _ _ ((Below.refl _ _).alloc (Nat.le_refl _) _) (show ∃ b : Nat, _ = _ ∧ _ = _ from ⟨_, rfl, blk_new W _ rfl⟩) (fun _ => ⟨W.heap.size, rfl, Nat.le_refl _, by simp⟩) trivial
          exact Rg.nil
        · intro vs W hG hI hT hF
          have t0 : vs 0 = .slice A5 acc.length c5 := hT 0 (by decide)
          have t1 : vs 1 = .int .i64 k := hT 1 (by decide)
          have t2 : vs 2 = .slice (some ⟨g1, 0, none⟩) a.length c1 := hT 2 (by decide)
          have t3 : vs 3 = .int .i64 k := hT 3 (by decide)
          have t4 : vs 4 = .pointer (some ⟨g1, k, none⟩) := hT 4 (by decide)
          have t5 : vs 5 = .string x := hT 5 (by decide)
          have t6 : vs 6 = .slice (some ⟨g2, 0, none⟩) a.length c2 := hT 6 (by decide)
          have t7 : vs 7 = .int .i64 k := hT 7 (by decide)
          have t8 : vs 8 = .pointer (some ⟨g2, k, none⟩) := hT 8 (by decide)
          have t9 : vs 9 = .string y := hT 9 (by decide)
          have t10 : vs 10 = .agg #[.int .i64 k, .string x, .string y] := hT 10 (by decide)
          have t11 : ∃ b : Nat, vs 11 = .slice (some ⟨b, 0, none⟩) 1 1 ∧ W.heap[b]? = some (.cells #[.int .i64 k, .string x, .string y] 73 (0, 0)) := hT 11 (by decide)
          simp only [List.length_cons, List.length_nil, Nat.reduceAdd, List.range, List.range.loop, List.drop_succ_cons, List.drop_zero, Rg.putsD, List.getD_cons_zero, List.getD_cons_succ, Act.put, List.setIfInBounds_toArray, List.set_cons_zero, List.set_cons_succ, t0, t1, t2, t3, t4, t5, t6, t7, t8, t9, t10]
          clear hT t0 t1 t2 t3 t4 t5 t6 t7 t8 t9 t10
          obtain ⟨bq, e11, k11⟩ := t11
          have hgW := hG.size
          have h1 : Hid (W.ownsRow w.heap.size 73 3 (.slice A5 acc.length c5) acc.length (acc.flatMap encC) ∧ W.heap[bq]? = some (.cells #[.int .i64 k, .string x, .string y] 73 (0, 0)) ∧ Below w.heap.size w W) :=
            ⟨own_below (w := W0.drew) HQ.out.1 hG, k11, (HQ.out.2.2.2.1.drew).then_below hG hw0⟩
          have E11 := Lib.hid e11
          have hWs : w.heap.size ≤ W.heap.size := h1.out.2.2.size
          clear hF hG hI e11 k11 hgW
          simp only [E11.out]
          obtain ⟨i0, hi, hz0, hz1, hz2⟩ := info_parts chg_info
          refine wpList_append_own _ rfl _ _ 59 rfl w.heap.size 73 i0 _ 3 40 Try.underlying59 hi hz0 hz1 hz2 rfl (by omega) _ acc.length (acc.flatMap encC) rfl h1.out.1 ⟨bq, 0, none⟩ 1 1 [.int .i64 k, .string x, .string y] rfl rfl ?c1 (by intro u hu; simp at hu; rcases hu with rfl | rfl | rfl <;> rfl) ?c2 ?c3 hWs ?_
          case c1 =>
            intro q u hu
            rw [addr_new, cell_of_blk h1.out.2.1]
            simpa using hu
          case c2 => unfold maxLen; omega
          case c3 => omega
          intro v' w' hown' hg' _
          have HF : Hid (Below w.heap.size w w' ∧ w'.ownsRow w.heap.size 73 3 v' (chgK a b (k + 1)).length ((chgK a b (k + 1)).flatMap encC)) := by
            refine ⟨h1.out.2.2.grown hg' hWs (fun j hj => (h1.out.1.lt j hj).1), ?_⟩
            rw [HN.out, flatC_snoc, List.length_append]
            exact hown'
          clear hown' hg' hi hz0 hz1 hz2
          go_wp2_with fail
          go_roundw
          case rel => exact ⟨k + 1, by omega, by go_num, HF⟩
          case measure => simp [intOf]; omega
      · have he : x = y := by
          have := eq_of_beq hxy
          rw [Lib.toList_data, Lib.toList_data] at this
          exact bt_inj this
        have HN := Lib.hid (HS1.out he)
        clear HS1 HS2 he
        go_wp2_with fail
        go_quiet (fail)
        go_wp2_with fail
        go_roundw
        case rel => exact ⟨k + 1, by omega, by go_num, HS.out.1.drawN _, by rw [HN.out]; exact own_below HS.out.2 ((Below.refl _ _).drawN _)⟩
        case measure => simp [intOf]; omega
    · obtain rfl : k = a.length := by omega
      go_wp2_with fail
      go_ret
      exact ⟨_, rfl, HS.out.1, HS.out.2⟩

theorem ldsOf_succ {l : List (Nat × ByteArray × ByteArray)} {k : Nat} (h : k < l.length) : ldsOf (l.take (k + 1)) = if em l[k].2.2 = true then ldsOf (l.take k) else ldsOf (l.take k) + 1 := by
  unfold ldsOf
  rw [List.take_succ_eq_append_getElem h, List.countP_append]
  cases hh : em l[k].2.2 <;> simp [hh]

set_option maxHeartbeats 2000000 in
theorem loads_any {base : Nat} {l : List (Nat × ByteArray × ByteArray)} {v : Value} (hl : l.length ≤ 100000) {w : World} (h : ReadsF base encC v l w) :
    Calls Try.prog 76 #[v] w fun e w' => e = .returned (.int .i64 (ldsOf l)) ∧ Below w.heap.size w w' := by
  have HH := Lib.hid h
  obtain ⟨A, c, rfl, _, _⟩ := h
  go_enter Try.func76, Try.ntmps76
  go_wp2_with fail
  go_loopw [3, 8] (fun mv kk wr => ∃ k : Nat, k ≤ l.length ∧ mv = .int .i64 (ldsOf (l.take k)) ∧ kk = .int .i64 k ∧ Hid (Below w.heap.size w wr)) (fun _ kk _ => l.length - (intOf kk).toNat)
  case atStart => exact ⟨0, by omega, rfl, rfl, Below.refl _ _⟩
  case round =>
    obtain ⟨k, hk, rfl, rfl, HS⟩ := hrel
    by_cases hlt : k < l.length
    · obtain ⟨A', c', e, _, hr⟩ := HH.out.below HS.out
      cases e
      rcases hr with hr | ⟨g, rfl, _, hrow⟩
      · subst hr; simp at hlt
      have e := fun j (hj : j < 3) => flatK_at encC 3 (fun _ => rfl) l k hlt j hj
      have HT := Lib.hid (ldsOf_succ hlt)
      have hle : ldsOf (l.take k) ≤ 100000 := by
        have := List.countP_le_length (p := fun c : Nat × ByteArray × ByteArray => !em c.2.2) (l := l.take k)
        rw [List.length_take] at this
        unfold ldsOf
        omega
      generalize l[k] = p at *
      obtain ⟨sl, x, y⟩ := p
      have a0 : wr.cell? ⟨g, k * 3, none⟩ = some (.int .i64 sl) := hrow.2 _ _ (e 0 (by omega))
      have a1 : wr.cell? ⟨g, k * 3 + 1, none⟩ = some (.string x) := hrow.2 _ _ (e 1 (by omega))
      have a2 : wr.cell? ⟨g, k * 3 + 2, none⟩ = some (.string y) := hrow.2 _ _ (e 2 (by omega))
      have hgl := hrow.1
      have i1 : (0 : Int) ≤ (k : Int) := by omega
      have i2 : (k : Int) < (l.length : Int) := by omega
      generalize ldsOf (l.take k) = m at *
      clear e hrow
      cases hy : y.toList.isEmpty
      · have HF : Hid (ldsOf (l.take (k + 1)) = m + 1) := HT.out.trans (if_neg (by unfold em; rw [hy]; simp))
        clear HT
        go_wp2_with fail
        go_roundw
        case rel => exact ⟨k + 1, by omega, by rw [HF.out]; go_num, by go_num, HS.out.alloc HS.out.size _⟩
        case measure => simp [intOf]; omega
      · have HF : Hid (ldsOf (l.take (k + 1)) = m) := HT.out.trans (if_pos hy)
        clear HT
        go_wp2_with fail
        go_roundw
        case rel => exact ⟨k + 1, by omega, by rw [HF.out], by go_num, HS.out.alloc HS.out.size _⟩
        case measure => simp [intOf]; omega
    · obtain rfl : k = l.length := by omega
      rw [List.take_of_length_le (Nat.le_refl _)]
      go_wp2_with fail
      go_ret
      exact ⟨rfl, HS.out⟩
end Go.Proofs.Ytjmjmijjdgolfaa
