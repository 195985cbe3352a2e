/-
  Changes and loads, the program's and the reference's. The program's Missing, Changes, Loads; the reference's loads. The reference's missing parts. When a part is needed next, the program's and the reference's. The order of slots that can be taken: what is compared. The slots that can be taken, sorted by the library. The slots that can be taken, in their order: the program's roomFor. The next setup: the program's. Setups in an order, and their loads: the program's. Next, Setups and Total: the program's. The next setup: the reference's. And the check that the package counts loads.
-/
import Derived.Test.YtmjonmoagpkdiabGreatDoorSeC
import Derived.Test.YtmjonmoagpkdiabGreatDoorRg
import Derived.Deep.DrawnRows
import Derived.Shelf.SlicesE.DeleteFunc
import Derived.Test.YtmjonmoagpkdiabGreatDoorLmI
import Derived.Shelf.SlSortCmp.NoneTotal
import Derived.Deep.AppendSrc
import Derived.Laws.MakeOwn
namespace Go.Proofs.YtmjonmoagpkdiabGreatDoor
open Go.RowKit
set_option linter.unusedSimpArgs false
set_option linter.unusedVariables false

def encC (x : Nat × ByteArray × ByteArray) : List Value := [.int .i64 x.1, .string x.2.1, .string x.2.2]
theorem chg_info : (Tryz.prog.info? 126).map (fun i => (i.zero, i.size, i.bytes)) = some (some (.agg #[.int .i64 0, .string ⟨#[]⟩, .string ⟨#[]⟩]), 3, 40) := by kernel_rfl
theorem flatC_snoc (l : List (Nat × ByteArray × ByteArray)) (x : Nat × ByteArray × ByteArray) : (l ++ [x]).flatMap encC = l.flatMap encC ++ encC x := by rw [List.flatMap_append]; simp

set_option maxHeartbeats 4000000 in
theorem changes_any {base : Nat} {a b : List ByteArray} {v1 v2 : Value} (ha : a.length ≤ 100000) (hab : a.length = b.length) {w : World} (h1 : ReadsF base encS v1 a w) (h2 : ReadsF base encS v2 b w) :
    Calls Tryz.prog 44 #[v1, v2] w fun e w' => ∃ u, e = .returned u ∧ Below w.heap.size w w' ∧ w'.ownsRow w.heap.size 126 3 u (chgOf a b).length ((chgOf a b).flatMap encC) := by
  have HH := Lib.hid (And.intro h1 h2)
  obtain ⟨A1, c1, rfl, _, _⟩ := h1
  obtain ⟨A2, c2, rfl, _, _⟩ := h2
  have HAB := Lib.hid hab
  go_enter Tryz.func44, Tryz.ntmps44
  rw [← hab]
  clear hab
  go_wp2_with fail
  go_loopw [5, 9] (fun lv kk wr => ∃ k : Nat, k ≤ a.length ∧ kk = .int .i64 k ∧ Hid (Below w.heap.size w wr ∧ wr.ownsRow w.heap.size 126 3 lv (chgK a b k).length ((chgK a b k).flatMap encC))) (fun _ kk _ => a.length - (intOf kk).toNat)
  case atStart => exact ⟨0, by omega, rfl, Below.refl _ _, World.ownsRow_nil _ _ _ _⟩
  case round =>
    obtain ⟨k, hk, rfl, HS⟩ := hrel
    by_cases hlt : k < a.length
    · obtain ⟨A1', c1', e1, _, hr1⟩ := HH.out.1.below HS.out.1
      obtain ⟨A2', c2', e2, _, hr2⟩ := HH.out.2.below HS.out.1
      cases e1
      rw [← HAB.out] at e2
      cases e2
      rcases hr1 with hr1 | ⟨g1, rfl, _, r1⟩
      · subst hr1; simp at hlt
      have hltb : k < b.length := by rw [← HAB.out]; exact hlt
      rcases hr2 with hr2 | ⟨g2, rfl, _, r2⟩
      · subst hr2; simp at hltb
      have q1 := row_strg r1 hlt
      have q2 := row_strg r2 hltb
      rw [← nth_at hlt] at q1
      rw [← nth_at hltb] at q2
      have hg1 := r1.1
      have hg2 := r2.1
      have i1 : (0 : Int) ≤ (k : Int) := by omega
      have i2 : (k : Int) < (a.length : Int) := by omega
      have hlen := chgK_len a b k
      obtain ⟨A5, c5, rfl, _⟩ := own_form HS.out.2
      have HS1 := Lib.hid (@chgK_same a b k)
      have HS2 := Lib.hid (@chgK_next a b k)
      generalize chgK a b k = acc at *
      generalize nth a k = x at *
      generalize nth b k = y at *
      clear r1 r2
      cases hxy : (x.toList == y.toList)
      · have hne : ¬ x = y := fun e => by rw [e] at hxy; simp at hxy
        have HN := Lib.hid (HS2.out hne)
        clear HS1 HS2 hne
        go_wp2_with fail
        go_quiet (fail)
        go_wp2_with fail
        have HQ : Hid ((wr.drewN nq).ownsRow w.heap.size 126 3 (.slice A5 acc.length c5) acc.length (acc.flatMap encC) ∧ (wr.drewN nq).cell? ⟨g1, k, none⟩ = some (.string x) ∧ (wr.drewN nq).cell? ⟨g2, k, none⟩ = some (.string y) ∧ Below w.heap.size w (wr.drewN nq) ∧ g1 < (wr.drewN nq).heap.size ∧ g2 < (wr.drewN nq).heap.size) :=
          ⟨own_below HS.out.2 ((Below.refl _ _).drawN _), q1, q2, HS.out.1.drawN _, hg1, hg2⟩
        clear q1 q2 hg1 hg2 HS HH HAB hxy
        generalize wr.drewN nq = W0 at *
        have hg1 := HQ.out.2.2.2.2.1
        have hg2 := HQ.out.2.2.2.2.2
        have hw0 := HQ.out.2.2.2.1.size
        refine Rg.rgL (fun a b => Below a.heap.size a b)
          [(fun vs u => vs 0 = .slice A5 acc.length c5), (fun vs u => vs 1 = .int .i64 k), (fun vs u => vs 2 = .slice (some ⟨g1, 0, none⟩) a.length c1), (fun vs u => vs 3 = .int .i64 k), (fun vs u => vs 4 = .pointer (some ⟨g1, k, none⟩)), (fun vs u => vs 5 = .string x), (fun vs u => vs 6 = .slice (some ⟨g2, 0, none⟩) a.length c2), (fun vs u => vs 7 = .int .i64 k), (fun vs u => vs 8 = .pointer (some ⟨g2, k, none⟩)), (fun vs u => vs 9 = .string y), (fun vs u => vs 10 = .agg #[.int .i64 k, .string x, .string y]), (fun vs u => ∃ b : Nat, vs 11 = .slice (some ⟨b, 0, none⟩) 1 1 ∧ u.heap[b]? = some (.cells #[.int .i64 k, .string x, .string y] 126 (0, 0)))]
          [[], [], [], [], [2, 3], [2, 3, 4], [], [], [6, 7], [6, 7, 8], [1, 2, 3, 4, 5, 6, 7, 8, 9], [1, 2, 3, 4, 5, 6, 7, 8, 9, 10]] [some 21, some 22, some 23, some 24, some 25, some 26, some 27, some 28, some 29, some 30, some 31, some 32, some 33, some 5] [11] (fun _ _ => True) [[], [], [], [], [2, 3], [2, 3, 4], [], [], [6, 7], [6, 7, 8], [1, 2, 3, 4, 5, 6, 7, 8, 9], [1, 2, 3, 4, 5, 6, 7, 8, 9, 10], [0, 1, 2, 3, 4, 5, 6, 7, 8, 9, 10, 11], [0, 1, 2, 3, 4, 5, 6, 7, 8, 9, 10, 11, 12]]
          (by kernel_rfl) (by decide) (by kernel_rfl) (by kernel_rfl) (by kernel_rfl) (by kernel_rfl) (by kernel_rfl) (fun _ => Below.refl _ _) (fun _ _ _ h k => h.ext k) (fun _ _ h => h.size) ?_ trivial ?_ ?_
        · intro t ht vs w w' h hE
          simp only [List.mem_cons, List.not_mem_nil, or_false] at ht
          rcases ht with rfl | rfl | rfl | rfl | rfl | rfl | rfl | rfl | rfl | rfl | rfl | rfl
          · exact h
          · exact h
          · exact h
          · exact h
          · exact h
          · exact h
          · exact h
          · exact h
          · exact h
          · exact h
          · exact h
          · obtain ⟨b, e, k⟩ := h
            exact ⟨b, e, blk_below hE k⟩
        ·
          refine Rg.cons 0 1 rfl (Rg.plain rfl ?_) ?_
          · intro vs W n hn hI hG hT hF K hK
            simp only [Rg.putsD, List.getD_cons_zero, List.getD_cons_succ, Act.put, List.setIfInBounds_toArray, List.set_cons_zero, List.set_cons_succ] at hK ⊢
            clear hn
            clear hF hI
            have H := Lib.hid hK
            clear hK hT
            go_simp
            exact H.out _ _ (Below.refl _ _) rfl (fun h => by cases h) trivial
          refine Rg.cons 1 2 rfl (Rg.plain rfl ?_) ?_
          · intro vs W n hn hI hG hT hF K hK
            simp only [Rg.putsD, List.getD_cons_zero, List.getD_cons_succ, Act.put, List.setIfInBounds_toArray, List.set_cons_zero, List.set_cons_succ] at hK ⊢
            clear hn
            clear hF hI
            have H := Lib.hid hK
            clear hK hT
            go_simp
            exact H.out _ _ (Below.refl _ _) rfl (fun h => by cases h) trivial
          refine Rg.cons 2 3 rfl (Rg.plain rfl ?_) ?_
          · intro vs W n hn hI hG hT hF K hK
            simp only [Rg.putsD, List.getD_cons_zero, List.getD_cons_succ, Act.put, List.setIfInBounds_toArray, List.set_cons_zero, List.set_cons_succ] at hK ⊢
            clear hn
            clear hF hI
            have H := Lib.hid hK
            clear hK hT
            go_simp
            exact H.out _ _ (Below.refl _ _) rfl (fun h => by cases h) trivial
          refine Rg.cons 3 4 rfl (Rg.plain rfl ?_) ?_
          · intro vs W n hn hI hG hT hF K hK
            simp only [Rg.putsD, List.getD_cons_zero, List.getD_cons_succ, Act.put, List.setIfInBounds_toArray, List.set_cons_zero, List.set_cons_succ] at hK ⊢
            clear hn
            clear hF hI
            have H := Lib.hid hK
            clear hK hT
            go_simp
            exact H.out _ _ (Below.refl _ _) rfl (fun h => by cases h) trivial
          refine Rg.cons 4 5 rfl (Rg.plain rfl ?_) ?_
          · intro vs W n hn hI hG hT hF K hK
            simp only [Rg.putsD, List.getD_cons_zero, List.getD_cons_succ, Act.put, List.setIfInBounds_toArray, List.set_cons_zero, List.set_cons_succ] at hK ⊢
            clear hn
            clear hF hI
            have t2 : vs 2 = .slice (some ⟨g1, 0, none⟩) a.length c1 := hT 2 (by decide)
            have t3 : vs 3 = .int .i64 k := hT 3 (by decide)
            simp only [t2, t3] at hK
            have H := Lib.hid hK
            clear hK hT
            go_simp
            exact H.out _ _ (Below.refl _ _) rfl (fun h => by cases h) trivial
          refine Rg.cons 5 6 rfl (Rg.plain rfl ?_) ?_
          · intro vs W n hn hI hG hT hF K hK
            simp only [Rg.putsD, List.getD_cons_zero, List.getD_cons_succ, Act.put, List.setIfInBounds_toArray, List.set_cons_zero, List.set_cons_succ] at hK ⊢
            clear hn
            clear hF hI
            have t2 : vs 2 = .slice (some ⟨g1, 0, none⟩) a.length c1 := hT 2 (by decide)
            have t3 : vs 3 = .int .i64 k := hT 3 (by decide)
            have t4 : vs 4 = .pointer (some ⟨g1, k, none⟩) := hT 4 (by decide)
            have c0 := (hG.cell (p := ⟨g1, k, none⟩) hg1).trans HQ.out.2.1
            simp only [t2, t3, t4] at hK
            have H := Lib.hid hK
            clear hK hT
            go_simp
            exact H.out _ _ (Below.refl _ _) rfl (fun h => by cases h) trivial
          refine Rg.cons 6 7 rfl (Rg.plain rfl ?_) ?_
          · intro vs W n hn hI hG hT hF K hK
            simp only [Rg.putsD, List.getD_cons_zero, List.getD_cons_succ, Act.put, List.setIfInBounds_toArray, List.set_cons_zero, List.set_cons_succ] at hK ⊢
            clear hn
            clear hF hI
            have H := Lib.hid hK
            clear hK hT
            go_simp
            exact H.out _ _ (Below.refl _ _) rfl (fun h => by cases h) trivial
          refine Rg.cons 7 8 rfl (Rg.plain rfl ?_) ?_
          · intro vs W n hn hI hG hT hF K hK
            simp only [Rg.putsD, List.getD_cons_zero, List.getD_cons_succ, Act.put, List.setIfInBounds_toArray, List.set_cons_zero, List.set_cons_succ] at hK ⊢
            clear hn
            clear hF hI
            have H := Lib.hid hK
            clear hK hT
            go_simp
            exact H.out _ _ (Below.refl _ _) rfl (fun h => by cases h) trivial
          refine Rg.cons 8 9 rfl (Rg.plain rfl ?_) ?_
          · intro vs W n hn hI hG hT hF K hK
            simp only [Rg.putsD, List.getD_cons_zero, List.getD_cons_succ, Act.put, List.setIfInBounds_toArray, List.set_cons_zero, List.set_cons_succ] at hK ⊢
            clear hn
            clear hF hI
            have t6 : vs 6 = .slice (some ⟨g2, 0, none⟩) a.length c2 := hT 6 (by decide)
            have t7 : vs 7 = .int .i64 k := hT 7 (by decide)
            simp only [t6, t7] at hK
            have H := Lib.hid hK
            clear hK hT
            go_simp
            exact H.out _ _ (Below.refl _ _) rfl (fun h => by cases h) trivial
          refine Rg.cons 9 10 rfl (Rg.plain rfl ?_) ?_
          · intro vs W n hn hI hG hT hF K hK
            simp only [Rg.putsD, List.getD_cons_zero, List.getD_cons_succ, Act.put, List.setIfInBounds_toArray, List.set_cons_zero, List.set_cons_succ] at hK ⊢
            clear hn
            clear hF hI
            have t6 : vs 6 = .slice (some ⟨g2, 0, none⟩) a.length c2 := hT 6 (by decide)
            have t7 : vs 7 = .int .i64 k := hT 7 (by decide)
            have t8 : vs 8 = .pointer (some ⟨g2, k, none⟩) := hT 8 (by decide)
            have c0 := (hG.cell (p := ⟨g2, k, none⟩) hg2).trans HQ.out.2.2.1
            simp only [t6, t7, t8] at hK
            have H := Lib.hid hK
            clear hK hT
            go_simp
            exact H.out _ _ (Below.refl _ _) rfl (fun h => by cases h) trivial
          refine Rg.cons 10 11 rfl (Rg.plain rfl ?_) ?_
          · intro vs W n hn hI hG hT hF K hK
            simp only [Rg.putsD, List.getD_cons_zero, List.getD_cons_succ, Act.put, List.setIfInBounds_toArray, List.set_cons_zero, List.set_cons_succ] at hK ⊢
            clear hn
            clear hF hI
            have t1 : vs 1 = .int .i64 k := hT 1 (by decide)
            have t2 : vs 2 = .slice (some ⟨g1, 0, none⟩) a.length c1 := hT 2 (by decide)
            have t3 : vs 3 = .int .i64 k := hT 3 (by decide)
            have t4 : vs 4 = .pointer (some ⟨g1, k, none⟩) := hT 4 (by decide)
            have t5 : vs 5 = .string x := hT 5 (by decide)
            have t6 : vs 6 = .slice (some ⟨g2, 0, none⟩) a.length c2 := hT 6 (by decide)
            have t7 : vs 7 = .int .i64 k := hT 7 (by decide)
            have t8 : vs 8 = .pointer (some ⟨g2, k, none⟩) := hT 8 (by decide)
            have t9 : vs 9 = .string y := hT 9 (by decide)
            simp only [t1, t2, t3, t4, t5, t6, t7, t8, t9] at hK
            have H := Lib.hid hK
            clear hK hT
            go_simp
            exact H.out _ _ (Below.refl _ _) rfl (fun h => by cases h) trivial
          refine Rg.cons 11 12 rfl (Rg.plain rfl ?_) ?_
          · intro vs W n hn hI hG hT hF K hK
            simp only [Rg.putsD, List.getD_cons_zero, List.getD_cons_succ, Act.put, List.setIfInBounds_toArray, List.set_cons_zero, List.set_cons_succ] at hK ⊢
            clear hn
            clear hF hI
            have t1 : vs 1 = .int .i64 k := hT 1 (by decide)
            have t2 : vs 2 = .slice (some ⟨g1, 0, none⟩) a.length c1 := hT 2 (by decide)
            have t3 : vs 3 = .int .i64 k := hT 3 (by decide)
            have t4 : vs 4 = .pointer (some ⟨g1, k, none⟩) := hT 4 (by decide)
            have t5 : vs 5 = .string x := hT 5 (by decide)
            have t6 : vs 6 = .slice (some ⟨g2, 0, none⟩) a.length c2 := hT 6 (by decide)
            have t7 : vs 7 = .int .i64 k := hT 7 (by decide)
            have t8 : vs 8 = .pointer (some ⟨g2, k, none⟩) := hT 8 (by decide)
            have t9 : vs 9 = .string y := hT 9 (by decide)
            have t10 : vs 10 = .agg #[.int .i64 k, .string x, .string y] := hT 10 (by decide)
            simp only [t1, t2, t3, t4, t5, t6, t7, t8, t9, t10] at hK
            have H := Lib.hid hK
            clear hK hT
            go_simp
            exact H.out _ _ ((Below.refl _ _).alloc (Nat.le_refl _) _) (show ∃ b : Nat, _ = _ ∧ _ = _ from ⟨_, rfl, blk_new W _ rfl⟩) (fun _ => ⟨W.heap.size, rfl, Nat.le_refl _, by simp⟩) trivial
          exact Rg.nil
        · intro vs W hG hI hT hF
          have t0 : vs 0 = .slice A5 acc.length c5 := hT 0 (by decide)
          have t1 : vs 1 = .int .i64 k := hT 1 (by decide)
          have t2 : vs 2 = .slice (some ⟨g1, 0, none⟩) a.length c1 := hT 2 (by decide)
          have t3 : vs 3 = .int .i64 k := hT 3 (by decide)
          have t4 : vs 4 = .pointer (some ⟨g1, k, none⟩) := hT 4 (by decide)
          have t5 : vs 5 = .string x := hT 5 (by decide)
          have t6 : vs 6 = .slice (some ⟨g2, 0, none⟩) a.length c2 := hT 6 (by decide)
          have t7 : vs 7 = .int .i64 k := hT 7 (by decide)
          have t8 : vs 8 = .pointer (some ⟨g2, k, none⟩) := hT 8 (by decide)
          have t9 : vs 9 = .string y := hT 9 (by decide)
          have t10 : vs 10 = .agg #[.int .i64 k, .string x, .string y] := hT 10 (by decide)
          have t11 : ∃ b : Nat, vs 11 = .slice (some ⟨b, 0, none⟩) 1 1 ∧ W.heap[b]? = some (.cells #[.int .i64 k, .string x, .string y] 126 (0, 0)) := hT 11 (by decide)
          simp only [List.length_cons, List.length_nil, Nat.reduceAdd, List.range, List.range.loop, List.drop_succ_cons, List.drop_zero, Rg.putsD, List.getD_cons_zero, List.getD_cons_succ, Act.put, List.setIfInBounds_toArray, List.set_cons_zero, List.set_cons_succ, t0, t1, t2, t3, t4, t5, t6, t7, t8, t9, t10]
          clear hT t0 t1 t2 t3 t4 t5 t6 t7 t8 t9 t10
          obtain ⟨bq, e11, k11⟩ := t11
          have hgW := hG.size
          have h1 : Hid (W.ownsRow w.heap.size 126 3 (.slice A5 acc.length c5) acc.length (acc.flatMap encC) ∧ W.heap[bq]? = some (.cells #[.int .i64 k, .string x, .string y] 126 (0, 0)) ∧ Below w.heap.size w W) :=
            ⟨own_below (w := W0.drew) HQ.out.1 hG, k11, (HQ.out.2.2.2.1.drew).then_below hG hw0⟩
          have E11 := Lib.hid e11
          have hWs : w.heap.size ≤ W.heap.size := h1.out.2.2.size
          clear hF hG hI e11 k11 hgW
          simp only [E11.out]
          obtain ⟨i0, hi, hz0, hz1, hz2⟩ := info_parts chg_info
          refine wpList_append_own _ rfl _ _ 93 rfl w.heap.size 126 i0 _ 3 40 Tryz.underlying93 hi hz0 hz1 hz2 rfl (by omega) _ acc.length (acc.flatMap encC) rfl h1.out.1 ⟨bq, 0, none⟩ 1 1 [.int .i64 k, .string x, .string y] rfl rfl ?c1 (by intro u hu; simp at hu; rcases hu with rfl | rfl | rfl <;> rfl) ?c2 ?c3 hWs ?_
          case c1 =>
            intro q u hu
            rw [addr_new, cell_of_blk h1.out.2.1]
            simpa using hu
          case c2 => unfold maxLen; omega
          case c3 => omega
          intro v' w' hown' hg' _
          have HF : Hid (Below w.heap.size w w' ∧ w'.ownsRow w.heap.size 126 3 v' (chgK a b (k + 1)).length ((chgK a b (k + 1)).flatMap encC)) := by
            refine ⟨h1.out.2.2.grown hg' hWs (fun j hj => (h1.out.1.lt j hj).1), ?_⟩
            rw [HN.out, flatC_snoc, List.length_append]
            exact hown'
          clear hown' hg' hi hz0 hz1 hz2
          go_wp2_with fail
          go_roundw
          case rel => exact ⟨k + 1, by omega, by go_num, HF⟩
          case measure => simp [intOf]; omega
      · have he : x = y := by
          have := eq_of_beq hxy
          rw [Lib.toList_data, Lib.toList_data] at this
          exact bt_inj this
        have HN := Lib.hid (HS1.out he)
        clear HS1 HS2 he
        go_wp2_with fail
        go_quiet (fail)
        go_wp2_with fail
        go_roundw
        case rel => exact ⟨k + 1, by omega, by go_num, HS.out.1.drawN _, by rw [HN.out]; exact own_below HS.out.2 ((Below.refl _ _).drawN _)⟩
        case measure => simp [intOf]; omega
    · obtain rfl : k = a.length := by omega
      go_wp2_with fail
      go_ret
      exact ⟨_, rfl, HS.out.1, HS.out.2⟩
theorem ldsOf_succ {l : List (Nat × ByteArray × ByteArray)} {k : Nat} (h : k < l.length) : ldsOf (l.take (k + 1)) = if em l[k].2.2 = true then ldsOf (l.take k) else ldsOf (l.take k) + 1 := by
  unfold ldsOf
  rw [List.take_succ_eq_append_getElem h, List.countP_append]
  cases hh : em l[k].2.2 <;> simp [hh]

set_option maxHeartbeats 2000000 in
theorem loadsS_any {base : Nat} {l : List (Nat × ByteArray × ByteArray)} {v : Value} (hl : l.length ≤ 100000) {w : World} (h : ReadsF base encC v l w) :
    Calls Tryz.prog 43 #[v] w fun e w' => e = .returned (.int .i64 (ldsOf l)) ∧ Below w.heap.size w w' := by
  have HH := Lib.hid h
  obtain ⟨A, c, rfl, _, _⟩ := h
  go_enter Tryz.func43, Tryz.ntmps43
  go_wp2_with fail
  go_loopw [3, 8] (fun mv kk wr => ∃ k : Nat, k ≤ l.length ∧ mv = .int .i64 (ldsOf (l.take k)) ∧ kk = .int .i64 k ∧ Hid (Below w.heap.size w wr)) (fun _ kk _ => l.length - (intOf kk).toNat)
  case atStart => exact ⟨0, by omega, rfl, rfl, Below.refl _ _⟩
  case round =>
    obtain ⟨k, hk, rfl, rfl, HS⟩ := hrel
    by_cases hlt : k < l.length
    · obtain ⟨A', c', e, _, hr⟩ := HH.out.below HS.out
      cases e
      rcases hr with hr | ⟨g, rfl, _, hrow⟩
      · subst hr; simp at hlt
      have e := fun j (hj : j < 3) => flatK_at encC 3 (fun _ => rfl) l k hlt j hj
      have HT := Lib.hid (ldsOf_succ hlt)
      have hle : ldsOf (l.take k) ≤ 100000 := by
        have := List.countP_le_length (p := fun c : Nat × ByteArray × ByteArray => !em c.2.2) (l := l.take k)
        rw [List.length_take] at this
        unfold ldsOf
        omega
      generalize l[k] = p at *
      obtain ⟨sl, x, y⟩ := p
      have a0 : wr.cell? ⟨g, k * 3, none⟩ = some (.int .i64 sl) := hrow.2 _ _ (e 0 (by omega))
      have a1 : wr.cell? ⟨g, k * 3 + 1, none⟩ = some (.string x) := hrow.2 _ _ (e 1 (by omega))
      have a2 : wr.cell? ⟨g, k * 3 + 2, none⟩ = some (.string y) := hrow.2 _ _ (e 2 (by omega))
      have hgl := hrow.1
      have i1 : (0 : Int) ≤ (k : Int) := by omega
      have i2 : (k : Int) < (l.length : Int) := by omega
      generalize ldsOf (l.take k) = m at *
      clear e hrow
      cases hy : y.toList.isEmpty
      · have HF : Hid (ldsOf (l.take (k + 1)) = m + 1) := HT.out.trans (if_neg (by unfold em; rw [hy]; simp))
        clear HT
        go_wp2_with fail
        go_roundw
        case rel => exact ⟨k + 1, by omega, by rw [HF.out]; go_num, by go_num, HS.out.alloc HS.out.size _⟩
        case measure => simp [intOf]; omega
      · have HF : Hid (ldsOf (l.take (k + 1)) = m) := HT.out.trans (if_pos hy)
        clear HT
        go_wp2_with fail
        go_roundw
        case rel => exact ⟨k + 1, by omega, by rw [HF.out], by go_num, HS.out.alloc HS.out.size _⟩
        case measure => simp [intOf]; omega
    · obtain rfl : k = l.length := by omega
      rw [List.take_of_length_le (Nat.le_refl _)]
      go_wp2_with fail
      go_ret
      exact ⟨rfl, HS.out⟩
end Go.Proofs.YtmjonmoagpkdiabGreatDoor
namespace Go.Proofs.YtmjonmoagpkdiabGreatDoor
open Go.RowKit
set_option linter.unusedSimpArgs false
set_option linter.unusedVariables false

/-- What is handed back where there is no error. -/
def okL {α : Type} (e : Int) (l : List α) : List α := if e = 0 then l else []
def okN (e : Int) (n : Nat) : Nat := if e = 0 then n else 0
theorem okL_ok {α : Type} {e : Int} (h : e = 0) (l : List α) : okL e l = l := if_pos h
theorem okL_bad {α : Type} {e : Int} (h : ¬ e = 0) (l : List α) : okL e l = [] := if_neg h
theorem okN_ok {e : Int} (h : e = 0) (n : Nat) : okN e n = n := if_pos h
theorem okN_bad {e : Int} (h : ¬ e = 0) (n : Nat) : okN e n = 0 := if_neg h
set_option maxHeartbeats 1000000 in
theorem check_any {b1 b2 : Nat} {s : List ByteArray} {p : List (List ByteArray)} {v1 v2 : Value} (hl : s.length ≤ 1000000) (hp : p.length ≤ 1000000) (hps : ∀ l ∈ p, l.length ≤ 1000000) {w : World} (h1 : ReadsF b1 encS v1 s w) (h2 : ListsF b2 v2 p w) :
    Calls Tryz.prog 41 #[v1, v2] w fun e w' => e = .returned (.int .i64 (chkErr s p)) ∧ w = w' := by
  have CS := Lib.hid (checkSetup_any hl h1)
  have CP := Lib.hid (checkParts_any (s.length : Int) hp hps h2)
  obtain ⟨A, c, rfl, _, _⟩ := h1
  obtain ⟨A2, c2, rfl, _, _⟩ := h2
  have HE : Hid (chkErr s p = if setErr s = 0 then partsErr s.length p else setErr s) := rfl
  generalize setErr s = E at *
  generalize partsErr s.length p = F at *
  by_cases h0 : E = 0
  · have HF := Lib.hid (HE.out.trans (if_pos h0))
    subst h0
    go_enter Tryz.func41, Tryz.ntmps41
    go_wp2_with fail
    refine CS.out.mono ?_
    rintro e w' ⟨rfl, rfl⟩
    go_wp2_with fail
    refine CP.out.mono ?_
    rintro e w' ⟨rfl, rfl⟩
    go_wp2_with fail
    go_ret
    exact ⟨ret_int HF.out.symm, rfl⟩
  · have HF := Lib.hid (HE.out.trans (if_neg h0))
    have hne : (E != 0) = true := by simpa using h0
    go_enter Tryz.func41, Tryz.ntmps41
    go_wp2_with fail
    refine CS.out.mono ?_
    rintro e w' ⟨rfl, rfl⟩
    go_wp2_with fail
    go_ret
    exact ⟨ret_int HF.out.symm, rfl⟩
/-- Lists in a block that has just been built of one slice. -/
theorem listsF_one {base : Nat} {u : Value} {l : List ByteArray} {w : World} {g : Nat} {t : TypeId} (h : w.heap[g]? = some (.cells #[u] t (0, 0))) (hg : base ≤ g) (hu : ReadsF base encS u l w) : ListsF base (.slice (some ⟨g, 0, none⟩) 1 1) [l] w := by
  refine ⟨_, 1, rfl, Nat.le_refl _, .inr ⟨g, 0, rfl, hg, lt_of_blk h, fun j hj => ?_⟩⟩
  obtain rfl : j = 0 := by simp at hj; exact hj
  exact ⟨u, blk_cell0 h, hu⟩

theorem small_maxLen {x : ByteArray} (h : keyB x = true) : x.size ≤ maxLen := by
  rcases Nat.eq_zero_or_pos x.size with h0 | h0
  · rw [h0]; exact Nat.zero_le _
  · rw [keyB_some x h0] at h
    simp only [Bool.and_eq_true, decide_eq_true_eq] at h
    unfold maxLen
    omega
theorem setOk_sizes {s : List ByteArray} (h : SetOk s) : ∀ x ∈ s, x.size ≤ maxLen := fun x hx => by
  rcases h.2.2.1 x hx with h | h
  · rw [(em_iff x).mp h]; exact Nat.zero_le _
  · exact small_maxLen h
theorem paOk_sizes {l : List ByteArray} (h : PaOk l) : ∀ x ∈ l, x.size ≤ maxLen := fun x hx => small_maxLen (h.1 x hx)
theorem chkErr_ok {s : List ByteArray} {p : List (List ByteArray)} (h : chkErr s p = 0) : SetOk s ∧ p.length ≤ 200 ∧ ∀ l ∈ p, l.length ≤ s.length ∧ PaOk l := by
  unfold chkErr at h
  by_cases h0 : setErr s = 0
  · rw [if_pos h0] at h
    have := partsErr_ok h
    exact ⟨setErr_ok h0, this.2.2.1, fun l hl => ⟨by have := (this.2.2.2 l hl).1; omega, (this.2.2.2 l hl).2⟩⟩
  · rw [if_neg h0] at h; exact absurd h h0

/-- The errors of two setups. -/
def twoErr (a b : List ByteArray) : Int := if setErr a = 0 then if setErr b = 0 then if a.length = b.length then 0 else 3 else setErr b else setErr a

end Go.Proofs.YtmjonmoagpkdiabGreatDoor
namespace Go.Proofs.YtmjonmoagpkdiabGreatDoor
open Go.RowKit Go.Sort
set_option linter.unusedSimpArgs false
set_option linter.unusedVariables false

/-- slices.Clone of a slice that reads as strings. -/
theorem clone_any {base : Nat} {l : List ByteArray} {v : Value} (hl : l.length ≤ 1000000) {w : World} (h : ReadsF base encS v l w) :
    Calls Tryz.prog 95 #[v] w fun e w' => ∃ u, e = .returned u ∧ Below w.heap.size w w' ∧ w'.ownsRow w.heap.size 9 1 u l.length (l.map Value.string) := by
  obtain ⟨A, c, rfl, hc, hr⟩ := h
  rcases Nat.eq_zero_or_pos l.length with h0 | h0
  · obtain rfl : l = [] := List.length_eq_zero_iff.mp h0
    cases A with
    | none =>
      refine (Tryz.slices_Clone_string_nil 0 c w).mono ?_
      rintro e w' ⟨rfl, rfl⟩
      exact ⟨_, rfl, Below.refl _ _, World.ownsRow_nil _ _ _ _⟩
    | some a =>
      refine (Tryz.slices_Clone_string_zero a c w).mono ?_
      rintro e w' ⟨v', rfl, h1, _, h2⟩
      exact ⟨_, rfl, h2, h1⟩
  · rcases hr with rfl | ⟨g, rfl, _, hr⟩
    · simp at h0
    refine (Tryz.slices_Clone_string g 0 l.length c l w (Nat.le_refl _) (by omega) (fun j hj => ?_)).mono ?_
    · rw [Nat.zero_add, List.getD_eq_getElem?_getD, List.getElem?_eq_getElem hj]
      exact row_strg hr hj
    · rintro e w' ⟨v', rfl, h1, _, h2⟩
      rw [List.take_of_length_le (Nat.le_refl _)] at h1
      exact ⟨_, rfl, h2, h1⟩

theorem grownBy_sw {α : Type} [Inhabited α] (enc : α → Value) (w : World) (g off n : Nat) (d : Array α) (os : Array Obj) : w.grownBy (sortWorld enc w g off n d os) (some g) := by
  unfold sortWorld
  refine ⟨rfl, rfl, rfl, by simp, fun k hk hne => ?_⟩
  rw [heap_grow_old _ _ (by simpa using hk)]
  have : g ≠ k := fun e => hne (by rw [e])
  simp [putRow, mapBlock, Sort.ahead, Array.getElem?_modify, this]
theorem holds_strs {w : World} {g cap : Nat} {cur : Array Value} {e : TypeId} {l : List ByteArray} (hb : w.heap[g]? = some (.cells cur e (0, 0))) (ht : cur.toList.take l.length = l.map Value.string) : Holds Value.string w g 0 l.toArray := by
  intro j hj
  have hj' : j < l.length := by simpa using hj
  refine ⟨?_, by simp [World.frozen?, hb]⟩
  have h1 : (cur.toList.take l.length)[j]? = (l.map Value.string)[j]? := by rw [ht]
  rw [List.getElem?_take_of_lt hj', Array.getElem?_toList] at h1
  rw [Nat.zero_add, cell_of_blk hb, h1]
  simp [hj']
theorem reads_put {w : World} {g cap n : Nat} {l r : List ByteArray} {F : List ByteArray} {base : Nat} (hH : Holds Value.string w g 0 l.toArray) (hg : g < w.heap.size) (hb : base ≤ g) (hF : (r ++ F).length = l.length) (hc : l.length ≤ cap) :
    ReadsF base encS (.slice (some ⟨g, 0, none⟩) r.length cap) r (putRow Value.string (Sort.ahead w n) g 0 (r ++ F).toArray) := by
  have hrl : r.length ≤ l.length := by rw [← hF]; simp
  refine ⟨_, cap, rfl, by omega, .inr ⟨g, rfl, hb, by simpa using hg, fun j u hu => ?_⟩⟩
  rw [show r.flatMap encS = r.map Value.string from flatS_map r] at hu
  have hj : j < r.length := by
    rcases Nat.lt_or_ge j r.length with h | h
    · exact h
    · rw [List.getElem?_eq_none (by simpa using h)] at hu; cases hu
  have hP := (holds_putRow Value.string (Sort.ahead w n) g 0 l.toArray (r ++ F).toArray (fun j hj => hH j hj) (by simpa using hF)) j (by simp; omega)
  rw [Nat.zero_add] at hP
  rw [hP.1]
  rw [List.getElem?_map, List.getElem?_eq_getElem hj] at hu
  rw [← hu, getElem!_pos _ j (by simp; omega)]
  simp [List.getElem_append_left hj]

end Go.Proofs.YtmjonmoagpkdiabGreatDoor
namespace Go.Proofs.YtmjonmoagpkdiabGreatDoor
open Go.RowKit
set_option linter.unusedSimpArgs false
set_option linter.unusedVariables false

def whenI (part : ByteArray) (L : List (List ByteArray)) : Int := if whenOf part L < L.length then (whenOf part L : Int) else -1
theorem when_hit {part : ByteArray} {L : List (List ByteArray)} {k : Nat} (h : k < L.length) (hk : has L[k] part = true) (hb : ∀ i (hi : i < L.length), i < k → has L[i] part = false) : whenOf part L = k := by
  unfold whenOf
  rw [List.findIdx_eq h]
  exact ⟨hk, fun j hj => hb j (by omega) hj⟩
theorem when_none {part : ByteArray} {L : List (List ByteArray)} (hb : ∀ i (hi : i < L.length), has L[i] part = false) : whenOf part L = L.length := by
  unfold whenOf
  rw [List.findIdx_eq_length]
  intro l hl
  obtain ⟨i, hi, rfl⟩ := List.getElem_of_mem hl
  exact hb i hi
theorem whenOf_le (part : ByteArray) (L : List (List ByteArray)) : whenOf part L ≤ L.length := List.findIdx_le_length

set_option maxHeartbeats 2000000 in
theorem idxNeed_any {base : Nat} {L : List (List ByteArray)} {v : Value} (part : ByteArray) (fb : Nat) (hL : L.length ≤ 1000000) {w : World} (h : ListsF base v L w)
    (HC : ∀ (W : World) (j : Nat) (hj : j < L.length) (u : Value), Below w.heap.size w W → ReadsF base encS u L[j] W → Calls Tryz.prog 125 #[u, .pointer (some ⟨fb, 0, none⟩)] W fun e w' => e = .returned (.bool (has L[j] part)) ∧ Below W.heap.size W w') :
    Calls Tryz.prog 124 #[v, .func (.func 125) #[] #[.pointer (some ⟨fb, 0, none⟩)]] w fun e w' => e = .returned (.int .i64 (whenI part L)) ∧ Below w.heap.size w w' := by
  have HH := Lib.hid (And.intro h HC)
  obtain ⟨A, c, rfl, _, _⟩ := h
  clear HC
  go_enter Tryz.func124, Tryz.ntmps124
  go_wp2_with fail
  go_loopw [8] (fun kk wr => ∃ k : Nat, k ≤ L.length ∧ kk = .int .i64 k ∧ Hid (Below w.heap.size w wr ∧ ∀ i (hi : i < L.length), i < k → has L[i] part = false)) (fun kk _ => L.length - (intOf kk).toNat)
  case atStart => exact ⟨0, by omega, rfl, Below.refl _ _, fun i _ h => by omega⟩
  case round =>
    obtain ⟨k, hk, rfl, HS⟩ := hrel
    by_cases hlt : k < L.length
    · obtain ⟨A', c', e, _, hr⟩ := HH.out.1.below HS.out.1
      cases e
      rcases hr with hr | ⟨g, o, rfl, _, hgl, hcells⟩
      · subst hr; simp at hlt
      obtain ⟨u, c0, hu⟩ := hcells k hlt
      have CK := Lib.hid (HH.out.2 wr k hlt u HS.out.1 hu)
      obtain ⟨A3, c3, rfl, _, _⟩ := hu
      have i1 : (0 : Int) ≤ (k : Int) := by omega
      have i2 : (k : Int) < (L.length : Int) := by omega
      clear hcells
      cases hh : has L[k] part
      · rw [hh] at CK
        have HN : Hid (∀ i (hi : i < L.length), i < k + 1 → has L[i] part = false) := fun i hi hik => by
          rcases Nat.lt_or_ge i k with h | h
          · exact HS.out.2 i hi h
          · obtain rfl : i = k := by omega
            exact hh
        clear hh
        generalize L[k] = l at *
        go_wp2_with fail
        refine CK.out.mono ?_
        rintro e w' ⟨rfl, hb⟩
        have HB := Lib.hid (HS.out.1.then_below hb HS.out.1.size)
        clear hb
        go_wp2_with fail
        go_roundw
        case rel => exact ⟨k + 1, by omega, by go_num, HB.out, HN.out⟩
        case measure => simp [intOf]; omega
      · rw [hh] at CK
        have hw := when_hit hlt hh HS.out.2
        have HF : Hid (whenI part L = k) := by
          show whenI part L = k
          unfold whenI
          rw [hw, if_pos hlt]
        clear hh hw
        generalize L[k] = l at *
        go_wp2_with fail
        refine CK.out.mono ?_
        rintro e w' ⟨rfl, hb⟩
        have HB := Lib.hid (HS.out.1.then_below hb HS.out.1.size)
        clear hb
        go_wp2_with fail
        go_ret
        exact ⟨ret_int HF.out.symm, HB.out⟩
    · have HF : Hid (whenI part L = -1) := by
        show whenI part L = -1
        unfold whenI
        rw [when_none (fun i hi => HS.out.2 i hi (by omega)), if_neg (Nat.lt_irrefl _)]
      go_wp2_with fail
      go_ret
      exact ⟨ret_int HF.out.symm, HS.out.1⟩

set_option maxHeartbeats 1000000 in
theorem needC_any {base : Nat} {l : List ByteArray} {u : Value} {fb : Nat} (part : ByteArray) (hl : l.length ≤ 1000000) (hp : PaOk l) {W : World} (hf : W.heap[fb]? = some (.cells #[.string part] 9 (0, 0))) (h : ReadsF base encS u l W) :
    Calls Tryz.prog 125 #[u, .pointer (some ⟨fb, 0, none⟩)] W fun e w' => e = .returned (.bool (has l part)) ∧ Below W.heap.size W w' := by
  have CC := Lib.hid (needsP_any part hl hp h)
  obtain ⟨A, c, rfl, hc, _⟩ := h
  have c0 := blk_cell0 hf
  have hlt := lt_of_blk hf
  clear hf
  generalize has l part = b at *
  go_enter Tryz.func125, Tryz.ntmps125
  go_wp2_with fail
  refine CC.out.mono ?_
  rintro e w' ⟨rfl, q, rfl⟩
  go_wp2_with fail
  go_ret
  exact ⟨rfl, (Below.refl _ _).drawN _⟩

set_option maxHeartbeats 2000000 in
theorem firstNeed_any {base : Nat} {L : List (List ByteArray)} {v : Value} (part : ByteArray) (hL : L.length ≤ 1000000) (hLL : ∀ l ∈ L, l.length ≤ 1000000) (hp : ∀ l ∈ L, PaOk l) {w : World} (h : ListsF base v L w) :
    Calls Tryz.prog 117 #[v, .string part] w fun e w' => e = .returned (.int .i64 (whenOf part L)) ∧ Below w.heap.size w w' := by
  have hW : Below w.heap.size w (w.alloc (.cells #[.string part] 9)) := (Below.refl _ _).alloc (Nat.le_refl _) _
  have hbk : (w.alloc (.cells #[.string part] 9)).heap[w.heap.size]? = some (.cells #[.string part] 9 (0, 0)) := blk_new w _ rfl
  have CI := Lib.hid (idxNeed_any part w.heap.size hL (h.below hW) (fun W j hj u hb hu => needC_any part (hLL _ (List.getElem_mem hj)) (hp _ (List.getElem_mem hj)) (blk_below hb hbk) hu))
  obtain ⟨A, c, rfl, _, _⟩ := h
  have HW := Lib.hid hW
  have hle := whenOf_le part L
  have HE : Hid (whenI part L = if whenOf part L < L.length then (whenOf part L : Int) else -1) := rfl
  clear hbk hW
  by_cases hlt : whenOf part L < L.length
  · rw [if_pos hlt] at HE
    rw [HE.out] at CI
    generalize whenOf part L = m at *
    clear HE
    go_enter Tryz.func117, Tryz.ntmps117
    go_wp2_with fail
    refine CI.out.mono ?_
    rintro e w' ⟨rfl, hb⟩
    have HB := Lib.hid (HW.out.then_below hb HW.out.size)
    clear hb
    go_wp2_with fail
    go_ret
    exact ⟨rfl, HB.out⟩
  · rw [if_neg hlt] at HE
    rw [HE.out] at CI
    have HM : Hid (whenOf part L = L.length) := by show whenOf part L = L.length; omega
    rw [HM.out]
    clear HE hlt hle
    go_enter Tryz.func117, Tryz.ntmps117
    go_wp2_with fail
    refine CI.out.mono ?_
    rintro e w' ⟨rfl, hb⟩
    have HB := Lib.hid (HW.out.then_below hb HW.out.size)
    clear hb
    go_wp2_with fail
    go_ret
    exact ⟨rfl, HB.out⟩
end Go.Proofs.YtmjonmoagpkdiabGreatDoor
namespace Go.Proofs.YtmjonmoagpkdiabGreatDoor
open Go.RowKit Go.Sort Go.Lib
set_option linter.unusedSimpArgs false
set_option linter.unusedVariables false

/-- Draws, and new blocks. -/
def GrS (a b : World) : Prop := ∃ q os, b = grow (a.drewN q) os
theorem GrS.refl (a : World) : GrS a a := ⟨0, #[], by rw [grow_empty]; rfl⟩
theorem grow_drewN (w : World) (os : Array Obj) (q : Nat) : (grow w os).drewN q = grow (w.drewN q) os := rfl
theorem drewN_drewN (w : World) (a b : Nat) : (w.drewN a).drewN b = w.drewN (a + b) := by simp [World.drewN, Nat.add_assoc]
theorem GrS.trans {a b c : World} (h : GrS a b) (k : GrS b c) : GrS a c := by
  obtain ⟨q, os, rfl⟩ := h
  obtain ⟨q', os', rfl⟩ := k
  exact ⟨q + q', os ++ os', by rw [grow_drewN, drewN_drewN, grow_grow]⟩
theorem GrS.alloc {a b : World} (h : GrS a b) (o : Obj) : GrS a (b.alloc o) := h.trans ⟨0, #[o], by rw [alloc_eq_grow]; rfl⟩
theorem GrS.drew {a b : World} (h : GrS a b) : GrS a b.drew := h.trans ⟨1, #[], by rw [grow_empty]; rfl⟩
theorem GrS.below {a b : World} (h : GrS a b) : Below a.heap.size a b := by
  obtain ⟨q, os, rfl⟩ := h
  refine ⟨rfl, rfl, rfl, by show a.heap.size ≤ (a.heap ++ os).size; rw [Array.size_append]; omega, fun i hi => heap_grow_old (a.drewN q) os hi⟩
theorem GrS.size {a b : World} (h : GrS a b) : a.heap.size ≤ b.heap.size := h.below.size

def orI (a b : Int) : Int := if a = 0 then b else a
theorem orL2 (a b : Int) : errsL [a, b] = orI a b := by
  unfold orI errsL errsL
  by_cases h : a = 0
  · rw [if_pos h, if_pos h]
    by_cases h2 : b = 0
    · rw [if_pos h2, h2]; rfl
    · rw [if_neg h2]
  · rw [if_neg h, if_neg h]
set_option maxHeartbeats 1000000 in
theorem cmpOr_any (l : List Int) (hl : l.length ≤ 1000) (g c : Nat) (w : World) (h : LineAt w g (l.map (Value.int .i64))) :
    Calls Tryz.prog 103 #[.slice (some ⟨g, 0, none⟩) l.length c] w fun e w' => e = .returned (.int .i64 (errsL l)) ∧ w = w' := by
  have HL := Lib.hid h
  clear h
  go_enter Tryz.func103, Tryz.ntmps103
  go_wp2_with fail
  go_loopw [8] (fun kk wr => ∃ k : Nat, k ≤ l.length ∧ kk = .int .i64 k ∧ w = wr ∧ Hid (errsL l = errsL (l.drop k))) (fun kk _ => l.length - (intOf kk).toNat)
  case atStart => exact ⟨0, by omega, rfl, rfl, rfl⟩
  case round =>
    obtain ⟨k, hk, rfl, rfl, HO⟩ := hrel
    by_cases hlt : k < l.length
    · obtain ⟨x, hx⟩ : ∃ x, l[k] = x := ⟨_, rfl⟩
      have hc := HL.out.2 k (.int .i64 x) (by simp [hlt, hx])
      have hgl := HL.out.1
      have hD : errsL l = if x = 0 then errsL (l.drop (k + 1)) else x := HO.out.trans (by rw [drop_at l hlt, hx]; rfl)
      have HD := Lib.hid hD
      have i1 : (0 : Int) ≤ (k : Int) := by omega
      have i2 : (k : Int) < (l.length : Int) := by omega
      clear hD hx HO
      cases h0 : (x == 0)
      · have hne : ¬ x = 0 := by simpa using h0
        have HF : Hid (errsL l = x) := HD.out.trans (if_neg hne)
        have h1 : (x != 0) = true := by simpa using hne
        go_wp2_with fail
        go_ret
        exact ⟨ret_int HF.out.symm, rfl⟩
      · obtain rfl : x = 0 := by simpa using h0
        have HF : Hid (errsL l = errsL (l.drop (k + 1))) := HD.out.trans (if_pos rfl)
        go_wp2_with fail
        go_roundw
        case rel => exact ⟨k + 1, by omega, by go_num, by trivial, HF⟩
        case measure => simp [intOf]; omega
    · have HF : Hid (errsL l = 0) := HO.out.trans (by rw [List.drop_eq_nil_of_le (by omega)]; rfl)
      go_wp2_with fail
      go_ret
      exact ⟨ret_int HF.out.symm, rfl⟩

theorem lineAt_new (w : World) (cs : List Value) (t : TypeId) : LineAt (w.alloc (.cells cs.toArray t)) w.heap.size cs := by
  refine ⟨by simp, fun j u hu => ?_⟩
  rw [cell_of_blk (blk_new w _ rfl)]
  simpa using hu
/-- What the closure compares. -/
def cmpI (s : List ByteArray) (wh : List Int) (a b : Nat) : Int := orI (compareInt (wh.getD b 0) (wh.getD a 0)) (compareBytes (bt (nth s b)) (bt (nth s a)))

set_option maxHeartbeats 4000000 in
theorem roomC_any {s : List ByteArray} {wh : List Int} {vb sb gw gs cs z : Nat} (hn : z = s.length) (hwh : wh.length = s.length) (hsl : s.length ≤ 1000000) {W0 : World}
    (hv : W0.heap[vb]? = some (.cells #[.slice (some ⟨gw, 0, none⟩) z z] 22 (0, 0))) (hvr : LineAt W0 gw (wh.map (Value.int .i64)))
    (hs : W0.heap[sb]? = some (.cells #[.slice (some ⟨gs, 0, none⟩) z cs] 34 (0, 0))) (hsr : LineAt W0 gs (s.flatMap encS)) (a b : Nat) (ha : a < z) (hb : b < z) :
    Calls Tryz.prog 119 #[.int .i64 a, .int .i64 b, .pointer (some ⟨vb, 0, none⟩), .pointer (some ⟨sb, 0, none⟩)] W0 fun e w' => e = .returned (.int .i64 (cmpI s wh a b)) ∧ GrS W0 w' := by
  have HE : Hid (cmpI s wh a b = orI (compareInt (wh.getD b 0) (wh.getD a 0)) (compareBytes (bt (nth s b)) (bt (nth s a)))) := rfl
  have wcell : ∀ j, j < z → W0.cell? ⟨gw, j, none⟩ = some (.int .i64 (wh.getD j 0)) := fun j hj => hvr.2 j _ (by rw [List.getElem?_map, List.getD_eq_getElem?_getD, List.getElem?_eq_getElem (show j < wh.length by omega)]; rfl)
  have scell : ∀ j, j < z → W0.cell? ⟨gs, j, none⟩ = some (.string (nth s j)) := fun j hj => by
    have := row_strg hsr (show j < s.length by omega)
    rw [this, nth_at (show j < s.length by omega)]
  have HQ := Lib.hid (And.intro hv (And.intro hs (And.intro (wcell a ha) (And.intro (wcell b hb) (And.intro (scell a ha) (scell b hb))))))
  have hgw : gw < W0.heap.size := hvr.1
  have hgs : gs < W0.heap.size := hsr.1
  have hvlt := lt_of_blk hv
  have hslt := lt_of_blk hs
  have HC := Lib.hid (fun x y W => Tryz.cmp_Compare_int x y W)
  have HS := Lib.hid (fun x y W => Tryz.strings_Compare x y W)
  clear wcell scell hv hvr hs hsr
  rw [HE.out]
  clear HE
  generalize wh.getD a 0 = wa at *
  generalize wh.getD b 0 = wb at *
  generalize nth s a = sa at *
  generalize nth s b = sbb at *
  have i1 : (0 : Int) ≤ (a : Int) := by omega
  have i2 : (a : Int) < (z : Int) := by omega
  have i3 : (0 : Int) ≤ (b : Int) := by omega
  have i4 : (b : Int) < (z : Int) := by omega
  clear hn hwh
  go_enter Tryz.func119, Tryz.ntmps119
  go_wp2_with fail
  refine Rg.rgL GrS
    [(fun vs u => vs 0 = .slice (some ⟨gw, 0, none⟩) z z), (fun vs u => vs 1 = .int .i64 b), (fun vs u => vs 2 = .pointer (some ⟨gw, b, none⟩)), (fun vs u => vs 3 = .int .i64 wb), (fun vs u => vs 4 = .slice (some ⟨gw, 0, none⟩) z z), (fun vs u => vs 5 = .int .i64 a), (fun vs u => vs 6 = .pointer (some ⟨gw, a, none⟩)), (fun vs u => vs 7 = .int .i64 wa), (fun vs u => vs 8 = .int .i64 (compareInt wb wa)), (fun vs u => vs 9 = .slice (some ⟨gs, 0, none⟩) z cs), (fun vs u => vs 10 = .int .i64 b), (fun vs u => vs 11 = .pointer (some ⟨gs, b, none⟩)), (fun vs u => vs 12 = .string sbb), (fun vs u => vs 13 = .slice (some ⟨gs, 0, none⟩) z cs), (fun vs u => vs 14 = .int .i64 a), (fun vs u => vs 15 = .pointer (some ⟨gs, a, none⟩)), (fun vs u => vs 16 = .string sa)]
    [[], [], [0, 1], [0, 1, 2], [], [], [4, 5], [4, 5, 6], [0, 1, 2, 3, 4, 5, 6, 7], [], [], [9, 10], [9, 10, 11], [], [], [13, 14], [13, 14, 15]] [some 7, some 8, some 9, some 10, some 11, some 12, some 13, some 14, some 15, some 16, some 17, some 18, some 19, some 20, some 21, some 22, some 23, some 24, some 25, some 26, some 6] [] (fun _ _ => True) [[], [], [0, 1], [0, 1, 2], [], [], [4, 5], [4, 5, 6], [0, 1, 2, 3, 4, 5, 6, 7], [], [], [9, 10], [9, 10, 11], [], [], [13, 14], [13, 14, 15], [0, 1, 2, 3, 4, 5, 6, 7, 8, 9, 10, 11, 12, 13, 14, 15, 16], [0, 1, 2, 3, 4, 5, 6, 7, 8, 9, 10, 11, 12, 13, 14, 15, 16, 17], [0, 1, 2, 3, 4, 5, 6, 7, 8, 9, 10, 11, 12, 13, 14, 15, 16, 17, 18], [0, 1, 2, 3, 4, 5, 6, 7, 8, 9, 10, 11, 12, 13, 14, 15, 16, 17, 18, 19]]
    (by kernel_rfl) (by decide) (by kernel_rfl) (by kernel_rfl) (by kernel_rfl) (by kernel_rfl) (by kernel_rfl) (fun _ => GrS.refl _) (fun _ _ _ h k => h.trans k) (fun _ _ h => h.size) ?_ trivial ?_ ?_
  · intro t ht vs w w' h hE
    simp only [List.mem_cons, List.not_mem_nil, or_false] at ht
    rcases ht with rfl | rfl | rfl | rfl | rfl | rfl | rfl | rfl | rfl | rfl | rfl | rfl | rfl | rfl | rfl | rfl | rfl
    · exact h
    · exact h
    · exact h
    · exact h
    · exact h
    · exact h
    · exact h
    · exact h
    · exact h
    · exact h
    · exact h
    · exact h
    · exact h
    · exact h
    · exact h
    · exact h
    · exact h
  ·
    refine Rg.cons 0 1 rfl (Rg.plain rfl ?_) ?_
    · intro vs W n hn hI hG hT hF K hK
      simp only [Rg.putsD, List.getD_cons_zero, List.getD_cons_succ, Act.put, List.setIfInBounds_toArray, List.set_cons_zero, List.set_cons_succ] at hK ⊢
      clear hn
      clear hF hI
      have c0 := blk_cell0 (blk_below hG.below HQ.out.1)
      have H := Lib.hid hK
      clear hK hT
      go_simp
      exact H.out _ _ (GrS.refl _) rfl (fun h => by cases h) trivial
    refine Rg.cons 1 2 rfl (Rg.plain rfl ?_) ?_
    · intro vs W n hn hI hG hT hF K hK
      simp only [Rg.putsD, List.getD_cons_zero, List.getD_cons_succ, Act.put, List.setIfInBounds_toArray, List.set_cons_zero, List.set_cons_succ] at hK ⊢
      clear hn
      clear hF hI
      have H := Lib.hid hK
      clear hK hT
      go_simp
      exact H.out _ _ (GrS.refl _) rfl (fun h => by cases h) trivial
    refine Rg.cons 2 3 rfl (Rg.plain rfl ?_) ?_
    · intro vs W n hn hI hG hT hF K hK
      simp only [Rg.putsD, List.getD_cons_zero, List.getD_cons_succ, Act.put, List.setIfInBounds_toArray, List.set_cons_zero, List.set_cons_succ] at hK ⊢
      clear hn
      clear hF hI
      have t0 : vs 0 = .slice (some ⟨gw, 0, none⟩) z z := hT 0 (by decide)
      have t1 : vs 1 = .int .i64 b := hT 1 (by decide)
      simp only [t0, t1] at hK
      have H := Lib.hid hK
      clear hK hT
      go_simp
      exact H.out _ _ (GrS.refl _) rfl (fun h => by cases h) trivial
    refine Rg.cons 3 4 rfl (Rg.plain rfl ?_) ?_
    · intro vs W n hn hI hG hT hF K hK
      simp only [Rg.putsD, List.getD_cons_zero, List.getD_cons_succ, Act.put, List.setIfInBounds_toArray, List.set_cons_zero, List.set_cons_succ] at hK ⊢
      clear hn
      clear hF hI
      have t0 : vs 0 = .slice (some ⟨gw, 0, none⟩) z z := hT 0 (by decide)
      have t1 : vs 1 = .int .i64 b := hT 1 (by decide)
      have t2 : vs 2 = .pointer (some ⟨gw, b, none⟩) := hT 2 (by decide)
      have c0 := (hG.below.cell (p := ⟨gw, b, none⟩) hgw).trans HQ.out.2.2.2.1
      simp only [t0, t1, t2] at hK
      have H := Lib.hid hK
      clear hK hT
      go_simp
      exact H.out _ _ (GrS.refl _) rfl (fun h => by cases h) trivial
    refine Rg.cons 4 5 rfl (Rg.plain rfl ?_) ?_
    · intro vs W n hn hI hG hT hF K hK
      simp only [Rg.putsD, List.getD_cons_zero, List.getD_cons_succ, Act.put, List.setIfInBounds_toArray, List.set_cons_zero, List.set_cons_succ] at hK ⊢
      clear hn
      clear hF hI
      have c0 := blk_cell0 (blk_below hG.below HQ.out.1)
      have H := Lib.hid hK
      clear hK hT
      go_simp
      exact H.out _ _ (GrS.refl _) rfl (fun h => by cases h) trivial
    refine Rg.cons 5 6 rfl (Rg.plain rfl ?_) ?_
    · intro vs W n hn hI hG hT hF K hK
      simp only [Rg.putsD, List.getD_cons_zero, List.getD_cons_succ, Act.put, List.setIfInBounds_toArray, List.set_cons_zero, List.set_cons_succ] at hK ⊢
      clear hn
      clear hF hI
      have H := Lib.hid hK
      clear hK hT
      go_simp
      exact H.out _ _ (GrS.refl _) rfl (fun h => by cases h) trivial
    refine Rg.cons 6 7 rfl (Rg.plain rfl ?_) ?_
    · intro vs W n hn hI hG hT hF K hK
      simp only [Rg.putsD, List.getD_cons_zero, List.getD_cons_succ, Act.put, List.setIfInBounds_toArray, List.set_cons_zero, List.set_cons_succ] at hK ⊢
      clear hn
      clear hF hI
      have t4 : vs 4 = .slice (some ⟨gw, 0, none⟩) z z := hT 4 (by decide)
      have t5 : vs 5 = .int .i64 a := hT 5 (by decide)
      simp only [t4, t5] at hK
      have H := Lib.hid hK
      clear hK hT
      go_simp
      exact H.out _ _ (GrS.refl _) rfl (fun h => by cases h) trivial
    refine Rg.cons 7 8 rfl (Rg.plain rfl ?_) ?_
    · intro vs W n hn hI hG hT hF K hK
      simp only [Rg.putsD, List.getD_cons_zero, List.getD_cons_succ, Act.put, List.setIfInBounds_toArray, List.set_cons_zero, List.set_cons_succ] at hK ⊢
      clear hn
      clear hF hI
      have t4 : vs 4 = .slice (some ⟨gw, 0, none⟩) z z := hT 4 (by decide)
      have t5 : vs 5 = .int .i64 a := hT 5 (by decide)
      have t6 : vs 6 = .pointer (some ⟨gw, a, none⟩) := hT 6 (by decide)
      have c0 := (hG.below.cell (p := ⟨gw, a, none⟩) hgw).trans HQ.out.2.2.1
      simp only [t4, t5, t6] at hK
      have H := Lib.hid hK
      clear hK hT
      go_simp
      exact H.out _ _ (GrS.refl _) rfl (fun h => by cases h) trivial
    refine Rg.cons 8 9 rfl (Rg.plain rfl ?_) ?_
    · intro vs W n hn hI hG hT hF K hK
      simp only [Rg.putsD, List.getD_cons_zero, List.getD_cons_succ, Act.put, List.setIfInBounds_toArray, List.set_cons_zero, List.set_cons_succ] at hK ⊢
      clear hn
      clear hF hI
      have t0 : vs 0 = .slice (some ⟨gw, 0, none⟩) z z := hT 0 (by decide)
      have t1 : vs 1 = .int .i64 b := hT 1 (by decide)
      have t2 : vs 2 = .pointer (some ⟨gw, b, none⟩) := hT 2 (by decide)
      have t3 : vs 3 = .int .i64 wb := hT 3 (by decide)
      have t4 : vs 4 = .slice (some ⟨gw, 0, none⟩) z z := hT 4 (by decide)
      have t5 : vs 5 = .int .i64 a := hT 5 (by decide)
      have t6 : vs 6 = .pointer (some ⟨gw, a, none⟩) := hT 6 (by decide)
      have t7 : vs 7 = .int .i64 wa := hT 7 (by decide)
      simp only [t0, t1, t2, t3, t4, t5, t6, t7] at hK
      have H := Lib.hid hK
      clear hK hT
      go_simp
      refine (HC.out wb wa _).mono ?_
      rintro e w1 ⟨rfl, rfl⟩
      exact H.out _ _ (GrS.refl _) rfl (fun h => by cases h) trivial
    refine Rg.cons 9 10 rfl (Rg.plain rfl ?_) ?_
    · intro vs W n hn hI hG hT hF K hK
      simp only [Rg.putsD, List.getD_cons_zero, List.getD_cons_succ, Act.put, List.setIfInBounds_toArray, List.set_cons_zero, List.set_cons_succ] at hK ⊢
      clear hn
      clear hF hI
      have c0 := blk_cell0 (blk_below hG.below HQ.out.2.1)
      have H := Lib.hid hK
      clear hK hT
      go_simp
      exact H.out _ _ (GrS.refl _) rfl (fun h => by cases h) trivial
    refine Rg.cons 10 11 rfl (Rg.plain rfl ?_) ?_
    · intro vs W n hn hI hG hT hF K hK
      simp only [Rg.putsD, List.getD_cons_zero, List.getD_cons_succ, Act.put, List.setIfInBounds_toArray, List.set_cons_zero, List.set_cons_succ] at hK ⊢
      clear hn
      clear hF hI
      have H := Lib.hid hK
      clear hK hT
      go_simp
      exact H.out _ _ (GrS.refl _) rfl (fun h => by cases h) trivial
    refine Rg.cons 11 12 rfl (Rg.plain rfl ?_) ?_
    · intro vs W n hn hI hG hT hF K hK
      simp only [Rg.putsD, List.getD_cons_zero, List.getD_cons_succ, Act.put, List.setIfInBounds_toArray, List.set_cons_zero, List.set_cons_succ] at hK ⊢
      clear hn
      clear hF hI
      have t9 : vs 9 = .slice (some ⟨gs, 0, none⟩) z cs := hT 9 (by decide)
      have t10 : vs 10 = .int .i64 b := hT 10 (by decide)
      simp only [t9, t10] at hK
      have H := Lib.hid hK
      clear hK hT
      go_simp
      exact H.out _ _ (GrS.refl _) rfl (fun h => by cases h) trivial
    refine Rg.cons 12 13 rfl (Rg.plain rfl ?_) ?_
    · intro vs W n hn hI hG hT hF K hK
      simp only [Rg.putsD, List.getD_cons_zero, List.getD_cons_succ, Act.put, List.setIfInBounds_toArray, List.set_cons_zero, List.set_cons_succ] at hK ⊢
      clear hn
      clear hF hI
      have t9 : vs 9 = .slice (some ⟨gs, 0, none⟩) z cs := hT 9 (by decide)
      have t10 : vs 10 = .int .i64 b := hT 10 (by decide)
      have t11 : vs 11 = .pointer (some ⟨gs, b, none⟩) := hT 11 (by decide)
      have c0 := (hG.below.cell (p := ⟨gs, b, none⟩) hgs).trans HQ.out.2.2.2.2.2
      simp only [t9, t10, t11] at hK
      have H := Lib.hid hK
      clear hK hT
      go_simp
      exact H.out _ _ (GrS.refl _) rfl (fun h => by cases h) trivial
    refine Rg.cons 13 14 rfl (Rg.plain rfl ?_) ?_
    · intro vs W n hn hI hG hT hF K hK
      simp only [Rg.putsD, List.getD_cons_zero, List.getD_cons_succ, Act.put, List.setIfInBounds_toArray, List.set_cons_zero, List.set_cons_succ] at hK ⊢
      clear hn
      clear hF hI
      have c0 := blk_cell0 (blk_below hG.below HQ.out.2.1)
      have H := Lib.hid hK
      clear hK hT
      go_simp
      exact H.out _ _ (GrS.refl _) rfl (fun h => by cases h) trivial
    refine Rg.cons 14 15 rfl (Rg.plain rfl ?_) ?_
    · intro vs W n hn hI hG hT hF K hK
      simp only [Rg.putsD, List.getD_cons_zero, List.getD_cons_succ, Act.put, List.setIfInBounds_toArray, List.set_cons_zero, List.set_cons_succ] at hK ⊢
      clear hn
      clear hF hI
      have H := Lib.hid hK
      clear hK hT
      go_simp
      exact H.out _ _ (GrS.refl _) rfl (fun h => by cases h) trivial
    refine Rg.cons 15 16 rfl (Rg.plain rfl ?_) ?_
    · intro vs W n hn hI hG hT hF K hK
      simp only [Rg.putsD, List.getD_cons_zero, List.getD_cons_succ, Act.put, List.setIfInBounds_toArray, List.set_cons_zero, List.set_cons_succ] at hK ⊢
      clear hn
      clear hF hI
      have t13 : vs 13 = .slice (some ⟨gs, 0, none⟩) z cs := hT 13 (by decide)
      have t14 : vs 14 = .int .i64 a := hT 14 (by decide)
      simp only [t13, t14] at hK
      have H := Lib.hid hK
      clear hK hT
      go_simp
      exact H.out _ _ (GrS.refl _) rfl (fun h => by cases h) trivial
    refine Rg.cons 16 17 rfl (Rg.plain rfl ?_) ?_
    · intro vs W n hn hI hG hT hF K hK
      simp only [Rg.putsD, List.getD_cons_zero, List.getD_cons_succ, Act.put, List.setIfInBounds_toArray, List.set_cons_zero, List.set_cons_succ] at hK ⊢
      clear hn
      clear hF hI
      have t13 : vs 13 = .slice (some ⟨gs, 0, none⟩) z cs := hT 13 (by decide)
      have t14 : vs 14 = .int .i64 a := hT 14 (by decide)
      have t15 : vs 15 = .pointer (some ⟨gs, a, none⟩) := hT 15 (by decide)
      have c0 := (hG.below.cell (p := ⟨gs, a, none⟩) hgs).trans HQ.out.2.2.2.2.1
      simp only [t13, t14, t15] at hK
      have H := Lib.hid hK
      clear hK hT
      go_simp
      exact H.out _ _ (GrS.refl _) rfl (fun h => by cases h) trivial
    exact Rg.nil
  · intro vs W hG hI hT hF
    have t0 : vs 0 = .slice (some ⟨gw, 0, none⟩) z z := hT 0 (by decide)
    have t1 : vs 1 = .int .i64 b := hT 1 (by decide)
    have t2 : vs 2 = .pointer (some ⟨gw, b, none⟩) := hT 2 (by decide)
    have t3 : vs 3 = .int .i64 wb := hT 3 (by decide)
    have t4 : vs 4 = .slice (some ⟨gw, 0, none⟩) z z := hT 4 (by decide)
    have t5 : vs 5 = .int .i64 a := hT 5 (by decide)
    have t6 : vs 6 = .pointer (some ⟨gw, a, none⟩) := hT 6 (by decide)
    have t7 : vs 7 = .int .i64 wa := hT 7 (by decide)
    have t8 : vs 8 = .int .i64 (compareInt wb wa) := hT 8 (by decide)
    have t9 : vs 9 = .slice (some ⟨gs, 0, none⟩) z cs := hT 9 (by decide)
    have t10 : vs 10 = .int .i64 b := hT 10 (by decide)
    have t11 : vs 11 = .pointer (some ⟨gs, b, none⟩) := hT 11 (by decide)
    have t12 : vs 12 = .string sbb := hT 12 (by decide)
    have t13 : vs 13 = .slice (some ⟨gs, 0, none⟩) z cs := hT 13 (by decide)
    have t14 : vs 14 = .int .i64 a := hT 14 (by decide)
    have t15 : vs 15 = .pointer (some ⟨gs, a, none⟩) := hT 15 (by decide)
    have t16 : vs 16 = .string sa := hT 16 (by decide)
    simp only [List.length_cons, List.length_nil, Nat.reduceAdd, List.range, List.range.loop, List.drop_succ_cons, List.drop_zero, Rg.putsD, List.getD_cons_zero, List.getD_cons_succ, Act.put, List.setIfInBounds_toArray, List.set_cons_zero, List.set_cons_succ, t0, t1, t2, t3, t4, t5, t6, t7, t8, t9, t10, t11, t12, t13, t14, t15, t16]
    clear hT t0 t1 t2 t3 t4 t5 t6 t7 t8 t9 t10 t11 t12 t13 t14 t15 t16
    have HG := Lib.hid ((GrS.refl W0).drew.trans hG)
    clear hF hG hI HQ
    go_wp2_with fail
    refine (HS.out _ _ _).mono ?_
    rintro e w1 ⟨rfl, rfl⟩
    go_wp2_with fail
    have CO := Lib.hid (cmpOr_any [compareInt wb wa, compareBytes (bt sbb) (bt sa)] (by simp) w1.heap.size 2 (w1.alloc (.cells #[.int .i64 (compareInt wb wa), .int .i64 (compareBytes (bt sbb) (bt sa))] 3)) (lineAt_new w1 _ _))
    rw [orL2] at CO
    simp only [List.length_cons, List.length_nil] at CO
    refine CO.out.mono ?_
    rintro e w2 ⟨rfl, rfl⟩
    go_wp2_with fail
    go_ret
    exact ⟨rfl, HG.out.alloc _⟩
end Go.Proofs.YtmjonmoagpkdiabGreatDoor
namespace Go.Proofs.YtmjonmoagpkdiabGreatDoor
open Go.RowKit Go.Sort Go.Lib
set_option linter.unusedSimpArgs false
set_option linter.unusedVariables false

theorem cmpI_lt (s : List ByteArray) (wh : List Int) (a b : Nat) : cmpI s wh a b < 0 ↔ wh.getD b 0 < wh.getD a 0 ∨ (wh.getD b 0 = wh.getD a 0 ∧ bt (nth s b) < bt (nth s a)) := by
  unfold cmpI orI
  have h := cmpB_lt (bt (nth s b)) (bt (nth s a))
  generalize wh.getD b 0 = x
  generalize wh.getD a 0 = y
  rcases Int.lt_trichotomy x y with h1 | h1 | h1
  · have e : compareInt x y = -1 := if_pos h1
    rw [e, if_neg (show ¬ (-1 : Int) = 0 by decide)]
    exact ⟨fun _ => .inl h1, fun _ => by decide⟩
  · subst h1
    have e : compareInt x x = 0 := by unfold compareInt; rw [if_neg (Int.lt_irrefl _), if_neg (by omega)]
    rw [e, if_pos rfl, h]
    exact ⟨fun h => .inr ⟨rfl, h⟩, fun h => h.elim (fun h => absurd h (Int.lt_irrefl _)) (fun h => h.2)⟩
  · have e : compareInt x y = 1 := by unfold compareInt; rw [if_neg (by omega), if_pos h1]
    rw [e, if_neg (show ¬ (1 : Int) = 0 by decide)]
    exact ⟨fun h => absurd h (by decide), fun h => h.elim (fun h => by omega) (fun h => by omega)⟩
theorem swoRoom (s : List ByteArray) (wh : List Int) (z : Nat) : SWO (ltOf fun x y : Fin z => cmpI s wh x.val y.val) := by
  refine ⟨fun x => ?_, fun x y t h1 h2 => ?_, fun x y t h1 h2 => ?_⟩
  · unfold ltOf
    simp only [decide_eq_false_iff_not, cmpI_lt]
    rintro (h | ⟨_, h⟩)
    · omega
    · exact List.lt_irrefl _ h
  · unfold ltOf at *
    simp only [decide_eq_true_eq, cmpI_lt] at *
    rcases h1 with h1 | ⟨a1, h1⟩ <;> rcases h2 with h2 | ⟨a2, h2⟩
    · exact .inl (by omega)
    · exact .inl (by omega)
    · exact .inl (by omega)
    · exact .inr ⟨by omega, List.lt_trans h2 h1⟩
  · unfold ltOf at *
    simp only [decide_eq_false_iff_not, cmpI_lt, not_or, not_and] at *
    obtain ⟨a1, b1⟩ := h1
    obtain ⟨a2, b2⟩ := h2
    refine ⟨by omega, fun e => ?_⟩
    have e1 : wh.getD y.val 0 = wh.getD x.val 0 := by omega
    have e2 : wh.getD t.val 0 = wh.getD y.val 0 := by omega
    have l1 := b1 e1
    have l2 := b2 e2
    exact List.not_lt.mpr (List.le_trans (List.not_lt.mp l1) (List.not_lt.mp l2))

theorem permIn_whole {α : Type} [Inhabited α] {d d' : Array α} (h : PermIn 0 d.size d d') : d'.toList.Perm d.toList := by
  obtain ⟨hs, _, hp⟩ := h
  have e1 : d.extract 0 d.size = d := by simp
  have e2 : d'.extract 0 d.size = d' := by rw [← hs]; simp
  rw [e1, e2] at hp
  exact hp
theorem sortedIn_whole {α : Type} [Inhabited α] {lt : α → α → Bool} {d : Array α} {n : Nat} (hn : d.size = n) (h : SortedIn lt 0 n d) : d.toList.Pairwise fun x y => lt y x = false := by
  rw [List.pairwise_iff_getElem]
  intro i j hi hj hij
  have hi' : i < d.size := by simpa using hi
  have hj' : j < d.size := by simpa using hj
  have := h i j (Nat.zero_le _) hij (by omega)
  rw [getElem!_pos d j hj', getElem!_pos d i hi'] at this
  simpa using this

theorem own_sw {α : Type} [Inhabited α] (enc : α → Value) {w : World} {base g cap n : Nat} {e : TypeId} {os : Array Obj} {cur : Array Value} {l l' : List α} (hl : l'.length = l.length) (hbase : base ≤ g) (hb : w.heap[g]? = some (.cells cur e (0, 0)))
    (h1 : l.length ≤ cap) (h2 : cap ≤ maxLen) (h3 : cur.size = cap * 1) :
    (sortWorld enc w g 0 n l'.toArray os).ownsRow base e 1 (.slice (some ⟨g, 0, none⟩) l.length cap) l.length (l'.map enc) := by
  have hg : g < w.heap.size := lt_of_blk hb
  have hh : (sortWorld enc w g 0 n l'.toArray os).heap[g]? = some (.cells (putCells enc 0 l'.toArray cur) e (0, 0)) := by
    unfold sortWorld
    rw [heap_grow_old _ _ (by simpa using hg)]
    simp [putRow, mapBlock, Sort.ahead, Array.getElem?_modify, hb, onCells]
  refine ⟨by simp [hl], .inr ⟨g, cap, _, rfl, hbase, hh, h1, h2, by simp [putCells, h3], ?_⟩⟩
  rw [Nat.mul_one, ← hl]
  apply List.ext_getElem?
  intro j
  by_cases hj : j < l'.length
  · rw [List.getElem?_take_of_lt hj, Array.getElem?_toList]
    simp [putCells, hj, show j < cur.size by omega]
  · rw [List.getElem?_take_eq_none (by omega), List.getElem?_eq_none (by simp; omega)]

theorem holds_own {α : Type} [Inhabited α] (enc : α → Value) {w : World} {g : Nat} {cur : Array Value} {e : TypeId} {l : List α} (hb : w.heap[g]? = some (.cells cur e (0, 0))) (ht : cur.toList.take l.length = l.map enc) : Holds enc w g 0 l.toArray := by
  intro j hj
  have hj' : j < l.length := by simpa using hj
  refine ⟨?_, by simp [World.frozen?, hb]⟩
  have h1 : (cur.toList.take l.length)[j]? = (l.map enc)[j]? := by rw [ht]
  rw [List.getElem?_take_of_lt hj', Array.getElem?_toList] at h1
  rw [Nat.zero_add, cell_of_blk hb, h1]
  simp [hj']

def encI (j : Nat) : Value := .int .i64 j
/-- What lies still while the slots are sorted. -/
def RoomAt (s : List ByteArray) (wh : List Int) (vb sb gw : Nat) (A : Option Addr) (cs : Nat) (w : World) : Prop :=
  w.heap[vb]? = some (.cells #[.slice (some ⟨gw, 0, none⟩) s.length s.length] 22 (0, 0)) ∧ w.heap[gw]? = some (.cells (wh.map (Value.int .i64)).toArray 3 (0, 0)) ∧
  w.heap[sb]? = some (.cells #[.slice A s.length cs] 34 (0, 0)) ∧ ReadsF 0 encS (.slice A s.length cs) s w
set_option maxHeartbeats 1000000 in
theorem sortRoom_any {s parts : List ByteArray} {later : List (List ByteArray)} {wh : List Int} {vb sb gw : Nat} {A : Option Addr} {cs : Nat} (hsl : s.length ≤ 100) (hwh : wh.length = s.length) {base : Nat} {v : Value} {w : World} (hR : RoomAt s wh vb sb gw A cs w)
    (hown : w.ownsRow base 3 1 v (spares s parts s.length).length ((spares s parts s.length).map encI)) (hB : base ≤ w.heap.size)
    (hd : ∀ j, v.ownBlock = some j → j ≠ vb ∧ j ≠ sb ∧ j ≠ gw ∧ ∀ g, A = some ⟨g, 0, none⟩ → j ≠ g) (hw : ∀ i ∈ spares s parts s.length, wh.getD i 0 = (whenOf (nth s i) later : Int)) :
    Calls Tryz.prog 118 #[v, .func (.func 119) #[] #[.pointer (some ⟨vb, 0, none⟩), .pointer (some ⟨sb, 0, none⟩)]] w fun e w' => e = .returned (.tuple #[]) ∧
      w.grownBy w' v.ownBlock ∧ ∃ R : List Nat, R.Perm (spares s parts s.length) ∧ (R.Pairwise fun i j => better later (nth s j) (nth s i) = false) ∧ w'.ownsRow base 3 1 v R.length (R.map encI) := by
  rcases Nat.eq_zero_or_pos (spares s parts s.length).length with h0 | h0
  · obtain ⟨A', c', rfl, _⟩ := own_form hown
    have h00 := List.length_eq_zero_iff.mp h0
    rw [h0]
    refine (AnyF.slices_SortFunc_none { Tryz.sortI with } A' c' _ w).mono ?_
    rintro e w' ⟨rfl, rfl⟩
    refine ⟨rfl, ⟨rfl, rfl, rfl, Nat.le_refl _, fun _ _ _ => rfl⟩, [], ?_, .nil, ?_⟩
    · rw [h00]
    · have := hown
      rw [h00] at this
      exact this
  · rcases hown.2 with ⟨rfl, he⟩ | ⟨g, cap, cur, rfl, hb, hc, h1, h2, h3, h4⟩
    · omega
    have hlt : ∀ i ∈ spares s parts s.length, i < s.length := fun i hi => by
      have := (List.mem_filter.mp hi).1
      simpa using this
    have hz : 0 < s.length := by
      obtain ⟨i, hi⟩ := List.exists_mem_of_length_pos h0
      have := hlt i hi
      omega
    haveI : Inhabited (Fin s.length) := ⟨⟨0, hz⟩⟩
    obtain ⟨dl, hdl⟩ : ∃ dl : List (Fin s.length), dl.map Fin.val = spares s parts s.length := by
      refine ⟨(spares s parts s.length).pmap (fun i h => ⟨i, h⟩) hlt, ?_⟩
      rw [List.map_pmap]
      simp
    have hdn : dl.length = (spares s parts s.length).length := by rw [← hdl, List.length_map]
    have hme : (spares s parts s.length).map encI = dl.map (fun x : Fin s.length => Value.int .i64 (x.val : Int)) := by rw [← hdl, List.map_map]; rfl
    obtain ⟨d1, d2, d3, d4⟩ := hd g rfl
    obtain ⟨r1, r2, r3, A', c', e0, hc0, r4⟩ := hR
    cases e0
    rcases r4 with r4 | ⟨gs, rfl, _, r4⟩
    · rw [r4] at hz; simp at hz
    have d5 := d4 gs rfl
    have eg : ∀ args w, (callFunc 119 args).run Tryz.prog w = .ok (.enter 119 args) w := enters_of Tryz.func119 (by kernel_rfl) rfl
    have hH : Holds (fun x : Fin s.length => Value.int .i64 (x.val : Int)) w g 0 dl.toArray := holds_own _ hc (by rw [← hme, hdn]; simpa using h4)
    have hcmp : CmpLays1 Tryz.prog 119 #[.pointer (some ⟨vb, 0, none⟩), .pointer (some ⟨sb, 0, none⟩)] (fun x : Fin s.length => Value.int .i64 (x.val : Int)) (fun x y => cmpI s wh x.val y.val) g 0 dl.toArray.size w := by
      intro m os dk hs x y
      have hgr := grownBy_sw (fun x : Fin s.length => Value.int .i64 (x.val : Int)) w g 0 m dk os
      have hblk : ∀ {j : Nat} {o : Obj}, w.heap[j]? = some o → g ≠ j → (sortWorld (fun x : Fin s.length => Value.int .i64 (x.val : Int)) w g 0 m dk os).heap[j]? = some o := fun h hne =>
        (hgr.block _ (lt_of_blk h) (fun e => hne (by cases e; rfl))).trans h
      have hrow : ∀ {j : Nat} {l : List Value}, LineAt w j l → g ≠ j → LineAt (sortWorld (fun x : Fin s.length => Value.int .i64 (x.val : Int)) w g 0 m dk os) j l := fun h hne => by
        refine ⟨Nat.lt_of_lt_of_le h.1 hgr.size, fun k u hu => ?_⟩
        rw [← h.2 k u hu]
        unfold World.cell?
        rw [hgr.block _ h.1 (fun e => hne (by cases e; rfl))]
      have hwl : LineAt w gw (wh.map (Value.int .i64)) := ⟨lt_of_blk r2, fun j u hu => by rw [cell_of_blk r2]; simpa using hu⟩
      exact roomC_any rfl hwh (by omega) (hblk r1 d1) (hrow hwl d3) (hblk r3 d2) (hrow r4 d5) x.val y.val x.isLt y.isLt
    have hcon := Any.slices_SortFunc Tryz.sortI (fun x : Fin s.length => Value.int .i64 (x.val : Int)) (fun _ => rfl) (fun x y => cmpI s wh x.val y.val) (swoRoom s wh s.length) 119 #[.pointer (some ⟨vb, 0, none⟩), .pointer (some ⟨sb, 0, none⟩)] g 0 cap dl.toArray w eg hcmp hH (lt_of_blk hc) (by
      have := List.length_filter_le (fun i => !em (nth s i) && !has parts (nth s i)) (List.range s.length)
      rw [List.length_range] at this
      rw [List.size_toArray, hdn]
      unfold spares
      omega)
    change Calls Tryz.prog 118 _ _ _ at hcon
    rw [List.size_toArray, hdn] at hcon
    refine hcon.mono ?_
    rintro e w' ⟨rfl, d', n, os, hp, hs, rfl⟩
    have hl : d'.toList.length = dl.length := by have := hp.1; simpa [hdn] using this
    have hpe : d'.toList.Perm dl := by simpa using permIn_whole (d := dl.toArray) (by simpa [hdn] using hp)
    refine ⟨rfl, grownBy_sw _ _ _ _ _ _ _, d'.toList.map Fin.val, by rw [← hdl]; exact hpe.map _, ?_, ?_⟩
    · rw [List.pairwise_map]
      have hm : ∀ x ∈ d'.toList, wh.getD x.val 0 = (whenOf (nth s x.val) later : Int) := fun x hx => hw _ (by rw [← hdl]; exact List.mem_map.mpr ⟨x, hpe.mem_iff.mp hx, rfl⟩)
      refine (sortedIn_whole (n := dl.length) (by simpa using hl) (by simpa [hdn] using hs)).imp_of_mem ?_
      intro x y hx hy h
      have hnl : ¬ cmpI s wh y.val x.val < 0 := by
        have : ltOf (fun x y : Fin s.length => cmpI s wh x.val y.val) y x = false := h
        unfold ltOf at this
        simpa using this
      rw [cmpI_lt, hm x hx, hm y hy] at hnl
      unfold better
      rw [Bool.or_eq_false_iff, Bool.and_eq_false_iff, decide_eq_false_iff_not, decide_eq_false_iff_not, decide_eq_false_iff_not]
      refine ⟨fun h => hnl (.inl (by omega)), ?_⟩
      by_cases e : whenOf (nth s y.val) later = whenOf (nth s x.val) later
      · exact .inr fun h => hnl (.inr ⟨by omega, h⟩)
      · exact .inl e
    · have ho := own_sw (fun x : Fin s.length => Value.int .i64 (x.val : Int)) (n := n) (os := os) (l := dl) (l' := d'.toList) hl hb hc (by omega) h2 h3
      rw [hdn] at ho
      rw [show d'.toList.toArray = d' by simp] at ho
      rw [List.length_map, List.map_map, show d'.toList.length = (spares s parts s.length).length by rw [hl, hdn]]
      exact ho
end Go.Proofs.YtmjonmoagpkdiabGreatDoor
namespace Go.Proofs.YtmjonmoagpkdiabGreatDoor
open Go.RowKit Go.Sort Go.Lib
set_option linter.unusedSimpArgs false
set_option linter.unusedVariables false

theorem int_info : (Tryz.prog.info? 3).map (fun i => (i.zero, i.size, i.bytes)) = some (some (.int .i64 0), 1, 8) := by kernel_rfl
/-- A row of noughts is made. -/
theorem run_makeInts (n : Nat) (hn : n ≤ 1000000) (W : World) : (Instr.makeSlice 22 (.int .i64 n) (.int .i64 n)).run Tryz.prog W = .ok (.slice (some ⟨W.heap.size, 0, none⟩) n n) (W.alloc (.cells (Array.replicate n (.int .i64 0)) 3)) := by
  obtain ⟨i0, hi, hz0, hz1, hz2⟩ := info_parts int_info
  have h := run_make (P := Tryz.prog) W 22 3 i0 (.int .i64 0) Tryz.underlying22 hi hz0 .i64 .i64 n n (by omega) (by omega) (by rw [hz2]; omega) (by omega)
  rw [h, hz1]
  have e : madeCells (Value.int .i64 0).cells ((n : Int).toNat * 1) = Array.replicate n (.int .i64 0) := by
    apply Array.ext
    · simp [madeCells]
    · intro j h1 h2
      simp [madeCells, Value.cells, Nat.mod_one]
  rw [e]
  simp

/-- Nothing is appended. -/
theorem run_append_nothing (t e : TypeId) (ht : Tryz.prog.underlying t = some (.slice e)) (i : TypeInfo) (hi : Tryz.prog.info? e = some i) (ty : TypeId) (A : Option Addr) (L C c : Nat) (hA : (∃ b : Nat, A = some ⟨b, 0, none⟩) ∨ (A = none ∧ L = 0 ∧ C = 0)) (hLC : L ≤ C) (w : World) :
    (Builtin.append_ #[t, t] ty #[.slice A L C, .slice none 0 c]).run Tryz.prog w = .ok (.slice A L C) w := by
  rcases hA with ⟨b, rfl⟩ | ⟨rfl, rfl, rfl⟩
  · have := run_append_room_src (P := Tryz.prog) w t t ty e i ht hi b 0 L C (.slice none 0 c) 0 [] (Src.ofNil w ht c) (by omega) (fun j hj => by simp at hj) (fun j hj => by simp at hj)
    rw [this]
    rfl
  · have hs := Src.ofNil (P := Tryz.prog) (size := i.size) w ht c
    simp [Builtin.append_, run_underlying ht, sizeOf, typeInfo, hi, hs.len, hs.cells, Builtin.lenOf, Builtin.firstCells]
theorem wpList_append_nothing {w : World} {ops : Array Oper} {rest : List Oper} {o : Oper} {a : Act} {Q : Exit → Act → World → Prop} (hg : o.guard = none) (s x : Operand) (t e : TypeId)
    (hop : o.op = .call { callee := .builtin .append, args := #[s, x], argTypes := #[t, t] }) (ht : Tryz.prog.underlying t = some (.slice e)) (i : TypeInfo) (hi : Tryz.prog.info? e = some i) (A : Option Addr) (L C c : Nat)
    (hs : a.eval s = .slice A L C) (hx : a.eval x = .slice none 0 c) (hA : (∃ b : Nat, A = some ⟨b, 0, none⟩) ∨ (A = none ∧ L = 0 ∧ C = 0)) (hLC : L ≤ C)
    (hK : wpList Tryz.prog ops Q rest (a.put o.dst (.slice A L C)) w) : wpList Tryz.prog ops Q (o :: rest) a w := by
  refine wpList_plain hg fun K' hK' => ?_
  have hrun := run_append_nothing t e ht i hi o.type A L C c hA hLC w
  unfold Oper.wp
  simp [execOp, hop, resolve, invoke, builtin, hs, hx, hrun, Result.andThen]
  exact hK' _ _ hK
theorem own_slice {w : World} {base : Nat} {e : TypeId} {size n : Nat} {v : Value} {xs : List Value} (h : w.ownsRow base e size v n xs) : ∃ A c, v = .slice A n c ∧ n ≤ c ∧ ((∃ b : Nat, A = some ⟨b, 0, none⟩) ∨ (A = none ∧ n = 0 ∧ c = 0)) := by
  rcases h.2 with ⟨rfl, rfl⟩ | ⟨g, cap, cur, rfl, hb, hc, h1, h2, _⟩
  · exact ⟨none, 0, rfl, Nat.le_refl _, .inr ⟨rfl, rfl, rfl⟩⟩
  · exact ⟨_, cap, rfl, h1, .inl ⟨g, rfl⟩⟩

theorem empties_succ (s : List ByteArray) (k : Nat) : empties s (k + 1) = if em (nth s k) = true then empties s k ++ [k] else empties s k := by
  unfold empties
  rw [List.range_succ, List.filter_append]
  cases h : em (nth s k) <;> simp [h]
theorem spares_succ (s parts : List ByteArray) (k : Nat) : spares s parts (k + 1) = if em (nth s k) = true then spares s parts k else if has parts (nth s k) = true then spares s parts k else spares s parts k ++ [k] := by
  unfold spares
  rw [List.range_succ, List.filter_append]
  cases h : em (nth s k) <;> cases h2 : has parts (nth s k) <;> simp [h, h2]
theorem empties_len (s : List ByteArray) (k : Nat) : (empties s k).length ≤ k := by
  have := List.length_filter_le (fun i => em (nth s i)) (List.range k)
  rw [List.length_range] at this
  exact this
theorem spares_len (s parts : List ByteArray) (k : Nat) : (spares s parts k).length ≤ k := by
  have := List.length_filter_le (fun i => !em (nth s i) && !has parts (nth s i)) (List.range k)
  rw [List.length_range] at this
  exact this
theorem spares_lt {s parts : List ByteArray} {k i : Nat} (h : i ∈ spares s parts k) : i < k := by
  have := (List.mem_filter.mp h).1
  simpa using this
theorem map_enc_snoc (l : List Nat) (k : Nat) : (l ++ [k]).map encI = l.map encI ++ [.int .i64 (k : Int)] := by rw [List.map_append]; rfl
theorem RoomAt.below {s : List ByteArray} {wh : List Int} {vb sb gw : Nat} {A : Option Addr} {cs : Nat} {w w' : World} (h : RoomAt s wh vb sb gw A cs w) (hb : Below w.heap.size w w') : RoomAt s wh vb sb gw A cs w' :=
  ⟨blk_below hb h.1, blk_below hb h.2.1, blk_below hb h.2.2.1, h.2.2.2.below hb⟩
theorem RoomAt.grown {s : List ByteArray} {wh : List Int} {vb sb gw B : Nat} {A : Option Addr} {cs : Nat} {w w' : World} {row : Option Nat} (h : RoomAt s wh vb sb gw A cs w) (hg : w.grownBy w' row) (hr : ∀ j, row = some j → B ≤ j) (h1 : vb < B) (h2 : sb < B) (h3 : gw < B) (h4 : ∀ g, A = some ⟨g, 0, none⟩ → g < B) : RoomAt s wh vb sb gw A cs w' := by
  have hne : ∀ {j : Nat}, j < B → some j ≠ row := fun hj e => by have := hr _ e.symm; omega
  refine ⟨(hg.block _ (lt_of_blk h.1) (hne h1)).trans h.1, (hg.block _ (lt_of_blk h.2.1) (hne h3)).trans h.2.1, (hg.block _ (lt_of_blk h.2.2.1) (hne h2)).trans h.2.2.1, ?_⟩
  obtain ⟨A', c', e, hc, hr4⟩ := h.2.2.2
  cases e
  refine ⟨A, cs, rfl, hc, hr4.imp_right ?_⟩
  rintro ⟨g, rfl, h0, hl⟩
  refine ⟨g, rfl, h0, Nat.lt_of_lt_of_le hl.1 hg.size, fun j u hu => ?_⟩
  rw [← hl.2 j u hu]
  unfold World.cell?
  rw [hg.block _ hl.1 (hne (h4 g rfl))]

/-- What stands at the beginning of a round. -/
def RmSt (w : World) (s : List ByteArray) (later : List (List ByteArray)) (A : Option Addr) (cs : Nat) (l7 l8 lw : List Nat) (v7 v8 : Value) (wr : World) : Prop :=
  Below w.heap.size w wr ∧ w.heap.size + 3 ≤ wr.heap.size ∧
  (∃ wh : List Int, wh.length = s.length ∧ RoomAt s wh (w.heap.size + 1 + 1) w.heap.size (w.heap.size + 1) A cs wr ∧ ∀ i ∈ lw, wh.getD i 0 = (whenOf (nth s i) later : Int)) ∧
  wr.ownsRow (w.heap.size + 3) 3 1 v7 l7.length (l7.map encI) ∧ wr.ownsRow (w.heap.size + 3) 3 1 v8 l8.length (l8.map encI) ∧
  (∀ j, v7.ownBlock = some j → v8.ownBlock ≠ some j)
section
variable {w wr w' : World} {s : List ByteArray} {later : List (List ByteArray)} {A : Option Addr} {cs : Nat} {l7 l8 lw : List Nat} {v7 v8 : Value}
theorem RmSt.below (h : RmSt w s later A cs l7 l8 lw v7 v8 wr) (hb : Below wr.heap.size wr w') : RmSt w s later A cs l7 l8 lw v7 v8 w' := by
  obtain ⟨h1, h2, ⟨wh, h3, h4, h5⟩, h6, h7, h8⟩ := h
  exact ⟨h1.then_below hb h1.size, Nat.le_trans h2 hb.size, ⟨wh, h3, h4.below hb, h5⟩, own_below h6 hb, own_below h7 hb, h8⟩
theorem RmSt.put7 (h : RmSt w s later A cs l7 l8 lw v7 v8 wr) (hA : ∀ g, A = some ⟨g, 0, none⟩ → g < w.heap.size) {k g cap : Nat} (hg : wr.grownBy w' v7.ownBlock)
    (hown : w'.ownsRow (w.heap.size + 3) 3 1 (.slice (some ⟨g, 0, none⟩) (l7.length + 1) cap) (l7.length + 1) (l7.map encI ++ [.int .i64 (k : Int)])) (hat : v7.ownBlock = some g ∨ wr.heap.size ≤ g) :
    RmSt w s later A cs (l7 ++ [k]) l8 lw (.slice (some ⟨g, 0, none⟩) (l7.length + 1) cap) v8 w' := by
  obtain ⟨h1, h2, ⟨wh, h3, h4, h5⟩, h6, h7, h8⟩ := h
  have hr := own_row h6
  refine ⟨h1.grown hg h1.size (fun j e => by have := hr j e; omega), Nat.le_trans h2 hg.size, ⟨wh, h3, h4.grown hg (B := w.heap.size + 3) hr (by omega) (by omega) (by omega) (fun g e => by have := hA g e; omega), h5⟩, ?_, ?_, ?_⟩
  · rw [map_enc_snoc, List.length_append]
    exact hown
  · refine h7.kept hg ?_
    cases hq : v8.ownBlock with
    | none => exact .inl rfl
    | some j => exact .inr fun e => h8 j e.symm hq
  · intro j hj
    simp [Value.ownBlock] at hj
    subst hj
    rcases hat with h | h
    · exact h8 _ h
    · intro e
      have := (h7.lt _ e).2
      omega
theorem RmSt.put8 (h : RmSt w s later A cs l7 l8 lw v7 v8 wr) (hA : ∀ g, A = some ⟨g, 0, none⟩ → g < w.heap.size) {k g cap : Nat} (hg : wr.grownBy w' v8.ownBlock)
    (hown : w'.ownsRow (w.heap.size + 3) 3 1 (.slice (some ⟨g, 0, none⟩) (l8.length + 1) cap) (l8.length + 1) (l8.map encI ++ [.int .i64 (k : Int)])) (hat : v8.ownBlock = some g ∨ wr.heap.size ≤ g) :
    RmSt w s later A cs l7 (l8 ++ [k]) lw v7 (.slice (some ⟨g, 0, none⟩) (l8.length + 1) cap) w' := by
  obtain ⟨h1, h2, ⟨wh, h3, h4, h5⟩, h6, h7, h8⟩ := h
  have hr := own_row h7
  refine ⟨h1.grown hg h1.size (fun j e => by have := hr j e; omega), Nat.le_trans h2 hg.size, ⟨wh, h3, h4.grown hg (B := w.heap.size + 3) hr (by omega) (by omega) (by omega) (fun g e => by have := hA g e; omega), h5⟩, ?_, ?_, ?_⟩
  · refine h6.kept hg ?_
    cases hq : v7.ownBlock with
    | none => exact .inl rfl
    | some j => exact .inr fun e => h8 j hq e.symm
  · rw [map_enc_snoc, List.length_append]
    exact hown
  · intro j hj e
    simp [Value.ownBlock] at e
    subst e
    rcases hat with h | h
    · exact h8 _ hj h
    · have := (h6.lt _ hj).2
      omega
theorem RmSt.putW (h : RmSt w s later A cs l7 l8 lw v7 v8 wr) (hA : ∀ g, A = some ⟨g, 0, none⟩ → g < w.heap.size) {k : Nat} (hk : k < s.length) (hlw : ∀ i ∈ lw, i < k) :
    RmSt w s later A cs l7 l8 (lw ++ [k]) v7 v8 (wr.setCell ⟨w.heap.size + 1, k, none⟩ (.int .i64 (whenOf (nth s k) later : Int))) := by
  obtain ⟨h1, h2, ⟨wh, h3, h4, h5⟩, h6, h7, h8⟩ := h
  refine ⟨h1.setCell (by show w.heap.size ≤ w.heap.size + 1; omega) _, by simpa [World.setCell] using h2, ⟨wh.set k (whenOf (nth s k) later : Int), by simpa using h3, ⟨blk_far h4.1 (by show w.heap.size + 1 + 1 ≠ w.heap.size + 1; omega) _, ?_, blk_far h4.2.2.1 (by show w.heap.size ≠ w.heap.size + 1; omega) _, ?_⟩, ?_⟩, own_far h6 (by show w.heap.size + 1 < w.heap.size + 3; omega) _, own_far h7 (by show w.heap.size + 1 < w.heap.size + 3; omega) _, h8⟩
  · have := blk_set (i := k) h4.2.1 (.int .i64 (whenOf (nth s k) later : Int))
    rw [this]
    simp [List.map_set]
  · obtain ⟨A', c', e, hc, hr4⟩ := h4.2.2.2
    cases e
    refine ⟨A, cs, rfl, hc, hr4.imp_right ?_⟩
    rintro ⟨g, rfl, h0, hl⟩
    refine ⟨g, rfl, h0, by simpa [World.setCell] using hl.1, fun j u hu => ?_⟩
    rw [World.cell?_setCell_other _ _ _ _ (fun e => by have h9 := congrArg Addr.block e; have h10 := hA g rfl; simp only at h9; omega)]
    exact hl.2 j u hu
  · intro i hi
    rcases List.mem_append.mp hi with hi | hi
    · have := hlw i hi
      rw [List.getD_eq_getElem?_getD, List.getElem?_set_ne (by omega), ← List.getD_eq_getElem?_getD]
      exact h5 i hi
    · simp only [List.mem_singleton] at hi
      subst hi
      rw [List.getD_eq_getElem?_getD, List.getElem?_set_self (by omega)]
      rfl
end

set_option maxRecDepth 100000 in
set_option maxHeartbeats 8000000 in
theorem roomFor_any {b1 b2 b3 : Nat} {s parts : List ByteArray} {later : List (List ByteArray)} {v1 v2 v3 : Value} (hs : SetOk s) (hp : PaOk parts) (hpl : parts.length ≤ 1000000) (hL : later.length ≤ 1000000) (hLL : ∀ l ∈ later, l.length ≤ 1000000) (hLP : ∀ l ∈ later, PaOk l)
    {w : World} (h1 : ReadsF b1 encS v1 s w) (h2 : ReadsF b2 encS v2 parts w) (h3 : ListsF b3 v3 later w) :
    Calls Tryz.prog 97 #[v1, v2, v3] w fun e w' => ∃ u, e = .returned u ∧ Below w.heap.size w w' ∧ ∃ R : List Nat, R.Perm (spares s parts s.length) ∧ (R.Pairwise fun i j => better later (nth s j) (nth s i) = false) ∧ w'.ownsRow w.heap.size 3 1 u (empties s s.length ++ R).length ((empties s s.length ++ R).map encI) := by
  have hn100 := hs.2.1
  have HH := Lib.hid (And.intro (h1.least (Nat.zero_le _)) (And.intro h2 h3))
  obtain ⟨A, cs, rfl, hcs, hrr⟩ := h1
  have hAg : ∀ g, A = some ⟨g, 0, none⟩ → g < w.heap.size := fun g e => by
    rcases hrr with hr | ⟨g', e2, _, hr⟩
    · exact absurd hr hs.1
    · rw [e] at e2
      cases e2
      exact hr.1
  obtain ⟨A2, c2, rfl, _, _⟩ := h2
  obtain ⟨A3, c3, rfl, _, _⟩ := h3
  have HA := Lib.hid hAg
  have hmk := run_makeInts s.length (by omega)
  clear hrr hAg
  have CN := Lib.hid (fun (x : ByteArray) (W : World) (h : ReadsF b2 encS (.slice A2 parts.length c2) parts W) => needsP_any x hpl hp h)
  have CF := Lib.hid (fun (x : ByteArray) (W : World) (h : ListsF b3 (.slice A3 later.length c3) later W) => firstNeed_any x hL hLL hLP h)
  go_enter Tryz.func97, Tryz.ntmps97
  go_wp2_with fail
  have HM := Lib.hid hmk
  clear hmk
  have H0 : Hid (RmSt w s later A cs (empties s 0) (spares s parts 0) (spares s parts 0) (.slice none 0 0) (.slice none 0 0) (((w.alloc (.cells #[.slice A s.length cs] 34)).alloc (.cells (Array.replicate s.length (.int .i64 0)) 3)).alloc (.cells #[.slice (some ⟨w.heap.size + 1, 0, none⟩) s.length s.length] 22))) := by
    have hb1 : Below w.heap.size w (w.alloc (.cells #[.slice A s.length cs] 34)) := (Below.refl _ _).alloc (Nat.le_refl _) _
    have hb3 := (hb1.alloc (by simp) (.cells (Array.replicate s.length (.int .i64 0)) 3)).alloc (by simp; omega) (.cells #[.slice (some ⟨w.heap.size + 1, 0, none⟩) s.length s.length] 22)
    refine ⟨hb3, by simp, ⟨List.replicate s.length 0, by simp, ⟨blk_new _ _ (by simp), ?_, ?_, HH.out.1.below hb3⟩, fun i hi => by simp [spares] at hi⟩, World.ownsRow_nil _ _ _ _, World.ownsRow_nil _ _ _ _, by simp [Value.ownBlock]⟩
    · have e : ((List.replicate s.length (0 : Int)).map (Value.int .i64)).toArray = Array.replicate s.length (.int .i64 0) := by simp
      rw [e]
      exact blk_alloc (blk_new _ _ (by simp)) _
    · exact blk_alloc (blk_alloc (blk_new w _ rfl) _) _
  go_loopw [7, 8, 17] (fun v7 v8 kk wr => ∃ k : Nat, k ≤ s.length ∧ kk = .int .i64 k ∧ Hid (RmSt w s later A cs (empties s k) (spares s parts k) (spares s parts k) v7 v8 wr)) (fun _ _ kk _ => s.length - (intOf kk).toNat)
  case atStart => exact ⟨0, by omega, rfl, H0⟩
  case round =>
    clear H0
    obtain ⟨k, hk, rfl, HS⟩ := hrel
    by_cases hlt : k < s.length
    · obtain ⟨hb, hsz, ⟨wh, hwl, hR, hwv⟩, ho7, ho8, hne⟩ := HS.out
      have hread := hR.2.2.2
      obtain ⟨A', c', e, _, hr⟩ := hread
      cases e
      rcases hr with hr | ⟨g, rfl, _, hrow⟩
      · exact absurd hr hs.1
      have q1 := row_strg hrow hlt
      rw [← nth_at hlt] at q1
      have hg1 := hrow.1
      have i1 : (0 : Int) ≤ (k : Int) := by omega
      have i2 : (k : Int) < (s.length : Int) := by omega
      obtain ⟨A7, k7, rfl, _⟩ := own_form ho7
      obtain ⟨A8, k8, rfl, _⟩ := own_form ho8
      have HES := Lib.hid (empties_succ s k)
      have HPS := Lib.hid (spares_succ s parts k)
      have HSL := Lib.hid (fun i (h : i ∈ spares s parts k) => spares_lt h)
      have hl7 := empties_len s k
      have hl8 := spares_len s parts k
      have hzr : w.heap.size < wr.heap.size := by omega
      obtain ⟨x, hx⟩ : ∃ x, nth s k = x := ⟨_, rfl⟩
      rw [hx] at q1 HES HPS
      have HX := Lib.hid hx
      have HN := Lib.hid (CN.out x wr (HH.out.2.1.below hb))
      clear hx hrow hR hwv hwl ho7 ho8 hne
      generalize empties s k = l7 at *
      generalize spares s parts k = l8 at *
      cases he : x.toList.isEmpty
      · rw [if_neg (show ¬ em x = true by unfold em; rw [he]; simp)] at HES HPS
        cases hh : has parts x
        · rw [hh] at HN
          rw [if_neg (by rw [hh]; simp)] at HPS
          clear hh
          go_wp2_with fail
          refine HN.out.mono ?_
          rintro e w1 ⟨rfl, q, rfl⟩
          have H1 := Lib.hid (HS.out.below ((Below.refl _ _).drawN q))
          clear HS HN
          generalize wr.drewN q = w1 at *
          have hz1 : w.heap.size + 3 ≤ w1.heap.size := H1.out.2.1
          obtain ⟨i0, hi0, hz0, hzz1, hz2⟩ := info_parts int_info
          have HI := Lib.hid (And.intro hi0 (And.intro hz0 (And.intro hzz1 hz2)))
          clear hi0 hz0 hzz1 hz2
          go_wp2_with (at_builtin; refine hold ?_)
          refine loose ?_
          refine wpList_append_lies _ rfl _ _ 22 rfl (w.heap.size + 3) 3 i0 _ 1 8 Tryz.underlying22 HI.out.1 HI.out.2.1 HI.out.2.2.1 HI.out.2.2.2 rfl (by omega) _ l8.length (l8.map encI) rfl (H1.out.2.2.2.2.1.alloc _) ⟨w1.heap.size, 0, none⟩ 1 1 [.int .i64 (k : Int)] rfl rfl (cell_one_new _ _ _) (by intro u hu; simp at hu; subst hu; rfl) (by omega) (by unfold maxLen; omega) (by omega) (by simp; omega) (w1.heap.size + 1) (by simp) ?_
          intro g8 cap8 w2 hown' hg' hat hlt'
          have H2 := Lib.hid ((H1.out.below ((Below.refl _ _).alloc (Nat.le_refl _) (.cells #[.int .i64 (k : Int)] 3))).put8 HA.out hg' hown' (hat.imp id (fun e => by simp; omega)))
          clear hown' hg' hat hlt' H1 HI
          obtain ⟨W0, rfl⟩ : ∃ W0 : World, W0 = w2 := ⟨_, rfl⟩
          go_wp2_with fail
          refine Rg.rgL (fun a b => Below a.heap.size a b)
            [(fun vs u => vs 0 = .slice (some ⟨w.heap.size + 1, 0, none⟩) s.length s.length), (fun vs u => vs 1 = .int .i64 k), (fun vs u => vs 2 = .slice A3 later.length c3), (fun vs u => vs 3 = .string x), (fun vs u => vs 4 = .int .i64 (whenOf x later))]
            [[], [], [], [], [2, 3]] [some 38, some 39, some 40, some 41, some 42, some 43, none] [] (fun _ _ => True) [[], [], [], [], [2, 3], [0, 1, 2, 3, 4], [0, 1, 2, 3, 4, 5]]
            (by kernel_rfl) (by decide) (by kernel_rfl) (by kernel_rfl) (by kernel_rfl) (by kernel_rfl) (by kernel_rfl) (fun _ => Below.refl _ _) (fun _ _ _ h k => h.ext k) (fun _ _ h => h.size) ?_ trivial ?_ ?_
          · intro t ht vs w w' h hE
            simp only [List.mem_cons, List.not_mem_nil, or_false] at ht
            rcases ht with rfl | rfl | rfl | rfl | rfl
            · exact h
            · exact h
            · exact h
            · exact h
            · exact h
          ·
            refine Rg.cons 0 1 rfl (Rg.plain rfl ?_) ?_
            · intro vs W n hn hI hG hT hF K hK
              simp only [Rg.putsD, List.getD_cons_zero, List.getD_cons_succ, Act.put, List.setIfInBounds_toArray, List.set_cons_zero, List.set_cons_succ] at hK ⊢
              clear hn
              clear hF hI
              obtain ⟨_, _, hrm, _⟩ := (H2.out.below (w' := W) ((Below.refl _ W0).drew.ext hG)).2.2.1
              have c0 := blk_cell0 hrm.1
              clear hrm
              have H := Lib.hid hK
              clear hK hT
              go_simp
              exact H.out _ _ (Below.refl _ _) rfl (fun h => by cases h) trivial
            refine Rg.cons 1 2 rfl (Rg.plain rfl ?_) ?_
            · intro vs W n hn hI hG hT hF K hK
              simp only [Rg.putsD, List.getD_cons_zero, List.getD_cons_succ, Act.put, List.setIfInBounds_toArray, List.set_cons_zero, List.set_cons_succ] at hK ⊢
              clear hn
              clear hF hI
              have H := Lib.hid hK
              clear hK hT
              go_simp
              exact H.out _ _ (Below.refl _ _) rfl (fun h => by cases h) trivial
            refine Rg.cons 2 3 rfl (Rg.plain rfl ?_) ?_
            · intro vs W n hn hI hG hT hF K hK
              simp only [Rg.putsD, List.getD_cons_zero, List.getD_cons_succ, Act.put, List.setIfInBounds_toArray, List.set_cons_zero, List.set_cons_succ] at hK ⊢
              clear hn
              clear hF hI
              have H := Lib.hid hK
              clear hK hT
              go_simp
              exact H.out _ _ (Below.refl _ _) rfl (fun h => by cases h) trivial
            refine Rg.cons 3 4 rfl (Rg.plain rfl ?_) ?_
            · intro vs W n hn hI hG hT hF K hK
              simp only [Rg.putsD, List.getD_cons_zero, List.getD_cons_succ, Act.put, List.setIfInBounds_toArray, List.set_cons_zero, List.set_cons_succ] at hK ⊢
              clear hn
              clear hF hI
              have H := Lib.hid hK
              clear hK hT
              go_simp
              exact H.out _ _ (Below.refl _ _) rfl (fun h => by cases h) trivial
            refine Rg.cons 4 5 rfl (Rg.plain rfl ?_) ?_
            · intro vs W n hn hI hG hT hF K hK
              simp only [Rg.putsD, List.getD_cons_zero, List.getD_cons_succ, Act.put, List.setIfInBounds_toArray, List.set_cons_zero, List.set_cons_succ] at hK ⊢
              clear hn
              clear hF hI
              have t2 : vs 2 = .slice A3 later.length c3 := hT 2 (by decide)
              have t3 : vs 3 = .string x := hT 3 (by decide)
              have HG := Lib.hid hG
              clear hG
              simp only [t2, t3] at hK
              have H := Lib.hid hK
              clear hK hT
              go_simp
              refine (CF.out x _ (HH.out.2.2.below ((H2.out.1.drew).then_below HG.out H2.out.1.size))).mono ?_
              rintro e w6 ⟨rfl, b6⟩
              exact H.out _ _ b6 rfl (fun h => by cases h) trivial
            exact Rg.nil
          · intro vs W hG hI hT hF
            have t0 : vs 0 = .slice (some ⟨w.heap.size + 1, 0, none⟩) s.length s.length := hT 0 (by decide)
            have t1 : vs 1 = .int .i64 k := hT 1 (by decide)
            have t2 : vs 2 = .slice A3 later.length c3 := hT 2 (by decide)
            have t3 : vs 3 = .string x := hT 3 (by decide)
            have t4 : vs 4 = .int .i64 (whenOf x later) := hT 4 (by decide)
            simp only [List.length_cons, List.length_nil, Nat.reduceAdd, List.range, List.range.loop, List.drop_succ_cons, List.drop_zero, Rg.putsD, List.getD_cons_zero, List.getD_cons_succ, Act.put, List.setIfInBounds_toArray, List.set_cons_zero, List.set_cons_succ, t0, t1, t2, t3, t4]
            clear hT t0 t1 t2 t3 t4
            have H3 := Lib.hid (H2.out.below (w' := W) ((Below.refl _ W0).drew.ext hG))
            clear hF hG hI H2
            have H4 := Lib.hid (H3.out.putW HA.out hlt HSL.out)
            rw [HX.out] at H4
            obtain ⟨wh, hwl, hrm, _⟩ := H3.out.2.2.1
            have c0 : W.cell? ⟨w.heap.size + 1, k, none⟩ = some (.int .i64 (wh.getD k 0)) := by
              rw [cell_of_blk hrm.2.1, List.getElem?_toArray, List.getElem?_map, List.getD_eq_getElem?_getD, List.getElem?_eq_getElem (show k < wh.length by omega)]
              rfl
            have f0 : W.frozen? ⟨w.heap.size + 1, k, none⟩ = false := frozen_of_blk hrm.2.1 k
            have hwz : w.heap.size + 3 ≤ W.heap.size := H3.out.2.1
            clear hrm hwl H3
            generalize wh.getD k 0 = old at *
            go_wp2_with fail
            go_roundw
            case rel => exact ⟨k + 1, by omega, by go_num, by rw [HES.out, HPS.out]; exact H4.out⟩
            case measure => simp [intOf]; omega
        · rw [hh] at HN
          rw [if_pos hh] at HPS
          clear hh
          go_wp2_with fail
          refine HN.out.mono ?_
          rintro e w1 ⟨rfl, q, rfl⟩
          have H1 := Lib.hid (HS.out.below ((Below.refl _ _).drawN q))
          clear HS
          go_wp2_with fail
          go_roundw
          case rel => exact ⟨k + 1, by omega, by go_num, by rw [HES.out, HPS.out]; exact H1.out⟩
          case measure => simp [intOf]; omega
      · rw [if_pos (show em x = true from he)] at HES HPS
        obtain ⟨i0, hi0, hz0, hzz1, hz2⟩ := info_parts int_info
        have HI := Lib.hid (And.intro hi0 (And.intro hz0 (And.intro hzz1 hz2)))
        clear hi0 hz0 hzz1 hz2
        go_wp2_with (at_builtin; refine hold ?_)
        refine loose ?_
        refine wpList_append_lies _ rfl _ _ 22 rfl (w.heap.size + 3) 3 i0 _ 1 8 Tryz.underlying22 HI.out.1 HI.out.2.1 HI.out.2.2.1 HI.out.2.2.2 rfl (by omega) _ l7.length (l7.map encI) rfl (HS.out.2.2.2.1.alloc _) ⟨wr.heap.size, 0, none⟩ 1 1 [.int .i64 (k : Int)] rfl rfl (cell_one_new _ _ _) (by intro u hu; simp at hu; subst hu; rfl) (by omega) (by unfold maxLen; omega) (by omega) (by simp; omega) (wr.heap.size + 1) (by simp) ?_
        intro g7 cap7 w' hown' hg' hat hlt'
        have HF := Lib.hid ((HS.out.below ((Below.refl _ _).alloc (Nat.le_refl _) (.cells #[.int .i64 (k : Int)] 3))).put7 HA.out hg' hown' (hat.imp id (fun e => by simp; omega)))
        clear hown' hg' hat hlt' HS
        go_wp2_with fail
        go_roundw
        case rel => exact ⟨k + 1, by omega, by go_num, by rw [HES.out, HPS.out]; exact HF.out⟩
        case measure => simp [intOf]; omega
    · obtain rfl : k = s.length := by omega
      obtain ⟨hb, hsz, ⟨wh, hwl, hR, hwv⟩, ho7, ho8, hne⟩ := HS.out
      have hd8 : ∀ j, u8.ownBlock = some j → w.heap.size + 3 ≤ j := own_row ho8
      have CS := Lib.hid (sortRoom_any (later := later) hn100 hwl hR ho8 hsz (fun j hj => by
        have h1 := hd8 j hj
        exact ⟨by omega, by omega, by omega, fun g e => by have := HA.out g e; omega⟩) hwv)
      have HO := Lib.hid (And.intro hb (And.intro hsz (And.intro ho7 (And.intro hd8 (And.intro hne ho8)))))
      have hl7 := empties_len s s.length
      have hl8 := spares_len s parts s.length
      obtain ⟨A7, k7, e7, hc7, ha7⟩ := own_slice ho7
      obtain ⟨A8, k8, e8, hc8, ha8⟩ := own_slice ho8
      subst e7 e8
      clear hb hsz hR hwv hwl ho7 ho8 hne hd8
      go_wp2_with fail
      refine CS.out.mono ?_
      rintro e w2 ⟨rfl, hg, R, hperm, hsort, ho⟩
      have hRl : R.length = (spares s parts s.length).length := hperm.length_eq
      have ho7' : w2.ownsRow (w.heap.size + 3) 3 1 (.slice A7 (empties s s.length).length k7) (empties s s.length).length ((empties s s.length).map encI) := by
        refine HO.out.2.2.1.kept hg ?_
        cases hq : (Value.slice A7 (empties s s.length).length k7).ownBlock with
        | none => exact .inl rfl
        | some j => exact .inr fun e => HO.out.2.2.2.2.1 j hq e.symm
      have hB2 : Below w.heap.size w w2 := HO.out.1.grown hg HO.out.1.size (fun j e => by have := HO.out.2.2.2.1 j e; omega)
      have hz2 : w.heap.size + 3 ≤ w2.heap.size := Nat.le_trans HO.out.2.1 hg.size
      have HQ := Lib.hid (And.intro hB2 (And.intro hperm (And.intro hsort (And.intro ho7' ho))))
      clear CS hB2 hperm hsort ho7' hg ho
      obtain ⟨i0, hi0, hz0, hzz1, hz2'⟩ := info_parts int_info
      have HI := Lib.hid (And.intro hi0 (And.intro hz0 (And.intro hzz1 hz2')))
      clear hi0 hz0 hzz1 hz2'
      rcases ha8 with ⟨b8, rfl⟩ | ⟨rfl, h80, rfl⟩
      · go_wp2_with (at_builtin; refine hold ?_)
        refine loose ?_
        refine wpList_append_own _ rfl _ _ 22 rfl (w.heap.size + 3) 3 i0 _ 1 8 Tryz.underlying22 HI.out.1 HI.out.2.1 HI.out.2.2.1 HI.out.2.2.2 rfl (by omega) _ (empties s s.length).length ((empties s s.length).map encI) rfl HQ.out.2.2.2.1 ⟨b8, 0, none⟩ (spares s parts s.length).length k8 (R.map encI) rfl (by rw [List.length_map, hRl]; omega) ?_ (by intro u hu; obtain ⟨j, _, rfl⟩ := List.mem_map.mp hu; rfl) (by unfold maxLen; omega) (by omega) (by omega) ?_
        · intro j u hu
          exact HQ.out.2.2.2.2.cells rfl j u hu
        intro v' w3 hown' hg' _
        have HF : Hid (Below w.heap.size w w3 ∧ w3.ownsRow w.heap.size 3 1 v' ((empties s s.length) ++ R).length (((empties s s.length) ++ R).map encI)) := by
          refine ⟨HQ.out.1.grown hg' HQ.out.1.size (fun j e => by have := own_row HQ.out.2.2.2.1 j e; omega), ?_⟩
          rw [List.length_append, List.map_append, hRl]
          exact own_mono hown' (by omega)
        clear hown' hg'
        go_wp2_with fail
        go_ret
        exact ⟨_, rfl, HF.out.1, R, HQ.out.2.1, HQ.out.2.2.1, HF.out.2⟩
      · go_wp2_with (at_builtin; refine hold ?_)
        refine loose ?_
        have hR0 : R = [] := List.length_eq_zero_iff.mp (by omega)
        have HR0 := Lib.hid hR0
        clear hR0
        refine wpList_append_nothing rfl _ _ 22 3 rfl Tryz.underlying22 i0 HI.out.1 A7 (empties s s.length).length k7 0 rfl rfl ha7 hc7 ?_
        go_wp2_with fail
        go_ret
        refine ⟨_, rfl, HQ.out.1, R, HQ.out.2.1, HQ.out.2.2.1, ?_⟩
        rw [HR0.out, List.append_nil]
        exact own_mono HQ.out.2.2.2.1 (by omega)
end Go.Proofs.YtmjonmoagpkdiabGreatDoor
namespace Go.Proofs.YtmjonmoagpkdiabGreatDoor
open Go.RowKit
set_option linter.unusedSimpArgs false
set_option linter.unusedVariables false

theorem fill_step (is : List Nat) : ∀ (xs : List ByteArray) (out : List ByteArray) (k : Nat) (h1 : k < is.length) (h2 : k < xs.length), fill out (is.take (k + 1)) (xs.take (k + 1)) = (fill out (is.take k) (xs.take k)).set is[k] xs[k] := by
  induction is with
  | nil => intro xs out k h1; simp at h1
  | cons i is ih =>
    intro xs out k h1 h2
    cases xs with
    | nil => simp at h2
    | cons x xs =>
      cases k with
      | zero =>
        simp only [Nat.zero_add, List.take_succ_cons, List.take_zero, fill, List.getElem_cons_zero]
      | succ k =>
        simp only [List.take_succ_cons, fill, List.getElem_cons_succ]
        exact ih xs (out.set i x) k (by simpa using h1) (by simpa using h2)
theorem fill_take (xs : List ByteArray) : ∀ (is : List Nat) (out : List ByteArray), xs.length ≤ is.length → fill out (is.take xs.length) xs = fill out is xs := by
  induction xs with
  | nil => intro is out _; cases is <;> rfl
  | cons x xs ih =>
    intro is out h
    cases is with
    | nil => simp at h
    | cons i is =>
      simp only [List.length_cons, List.take_succ_cons, fill]
      exact ih is (out.set i x) (by simpa using h)
theorem fill_length (xs : List ByteArray) : ∀ (is : List Nat) (out : List ByteArray), (fill out is xs).length = out.length := by
  induction xs with
  | nil => intro is out; cases is <;> rfl
  | cons x xs ih =>
    intro is out
    cases is with
    | nil => rfl
    | cons i is => rw [fill, ih]; simp

def encIL (j : Nat) : List Value := [encI j]
theorem flatI_map (l : List Nat) : l.flatMap encIL = l.map encI := by
  induction l with
  | nil => rfl
  | cons a l ih => simp only [List.flatMap_cons, ih]; rfl
theorem row_int {w : World} {g : Nat} {l : List Nat} (h : LineAt w g (l.flatMap encIL)) {k : Nat} (hk : k < l.length) : w.cell? ⟨g, k, none⟩ = some (.int .i64 (l[k] : Int)) := by
  refine h.2 k _ ?_
  rw [flatI_map, List.getElem?_map, List.getElem?_eq_getElem hk]
  rfl
theorem own_strs {w : World} {base : Nat} {v : Value} {l : List ByteArray} (h : w.ownsRow base 9 1 v l.length (l.map Value.string)) : ReadsF base encS v l w := by
  refine readsF_own (T := 9) (size := 1) ?_
  rw [show l.flatMap encS = l.map Value.string from flatS_map l]
  exact h

set_option maxRecDepth 100000 in
set_option maxHeartbeats 4000000 in
theorem nextP_any {b1 b2 b3 : Nat} {s parts : List ByteArray} {later : List (List ByteArray)} {v1 v2 v3 : Value} (hs : SetOk s) (hp : PaOk parts) (hps : parts.length ≤ s.length) (hL : later.length ≤ 1000000) (hLL : ∀ l ∈ later, l.length ≤ 1000000) (hLP : ∀ l ∈ later, PaOk l)
    {w : World} (h1 : ReadsF b1 encS v1 s w) (h2 : ReadsF b2 encS v2 parts w) (h3 : ListsF b3 v3 later w) :
    Calls Tryz.prog 71 #[v1, v2, v3] w fun e w' => ∃ u, e = .returned u ∧ Below w.heap.size w w' ∧ w'.ownsRow w.heap.size 9 1 u (nextOf s parts later).length ((nextOf s parts later).map Value.string) := by
  have hn100 := hs.2.1
  have HH := Lib.hid (And.intro h1 (And.intro h2 h3))
  have CC := Lib.hid (clone_any (by omega) h1)
  have CM := Lib.hid (fun (W : World) (h : ReadsF b1 encS v1 s W) => missingIn_any (by omega) (setOk_sizes hs) h)
  have CR := Lib.hid (fun (W : World) (h1 : ReadsF b1 encS v1 s W) (h2 : ReadsF b2 encS v2 parts W) (h3 : ListsF b3 v3 later W) => roomFor_any hs hp (by omega) hL hLL hLP h1 h2 h3)
  have CI := Lib.hid (fun (W : World) (fb : Nat) (hm : MissAt s fb W) (h : ReadsF b2 encS v2 parts W) => missIn1_any (by omega) (paOk_sizes hp) hm h)
  have HN := Lib.hid (fun (R : List Nat) (hR : R.Perm (spares s parts s.length)) (hsort : R.Pairwise fun i j => better later (nth s j) (nth s i) = false) => And.intro (room_next hs hp hR hsort (room_enough hs hp hps hR)) (room_enough hs hp hps hR))
  have hs0 : 0 < s.length := by
    rcases Nat.eq_zero_or_pos s.length with h | h
    · exact absurd (List.length_eq_zero_iff.mp h) hs.1
    · exact h
  have hml : (missOf s parts).length ≤ parts.length := List.length_filter_le _ _
  obtain ⟨A1, c1, rfl, _, _⟩ := h1
  obtain ⟨A2, c2, rfl, _, _⟩ := h2
  obtain ⟨A3, c3, rfl, _, _⟩ := h3
  go_enter Tryz.func71, Tryz.ntmps71
  go_wp2_with fail
  refine CC.out.mono ?_
  rintro e w1 ⟨u1, rfl, b1', o1⟩
  obtain ⟨gm, capm, rfl, hgb, hgl, hcap, _, _⟩ := own_read o1 hs0
  have H1 := Lib.hid (And.intro b1' o1)
  clear b1' o1 CC
  go_wp2_with fail
  refine (CM.out _ (HH.out.1.below H1.out.1)).mono ?_
  rintro e w2 ⟨fb, rfl, b2', hm⟩
  have H2 := Lib.hid (And.intro b2' (And.intro hm (H1.out.1.then_below b2' H1.out.1.size)))
  clear b2' hm CM
  go_wp2_with fail
  refine (CR.out _ (HH.out.1.below H2.out.2.2) (HH.out.2.1.below H2.out.2.2) (HH.out.2.2.below H2.out.2.2)).mono ?_
  rintro e w3 ⟨u3, rfl, b3', R, hperm, hsort, o3⟩
  have HR := Lib.hid (HN.out R hperm hsort)
  have hRb : ∀ i ∈ empties s s.length ++ R, i < s.length := fun i hi => by
    rcases List.mem_append.mp hi with h | h
    · have := (List.mem_filter.mp h).1; simpa using this
    · exact spares_lt (hperm.mem_iff.mp h)
  have H3 := Lib.hid (And.intro b3' (And.intro o3 (And.intro (H2.out.2.2.then_below b3' H2.out.2.2.size) hRb)))
  clear b3' o3 hperm hsort hRb CR HN
  generalize empties s s.length ++ R = room at *
  obtain ⟨Ar, cr, rfl, hcr, _⟩ := own_slice H3.out.2.1
  go_wp2_with fail
  refine (CI.out _ _ (H2.out.2.1.below H3.out.1) (HH.out.2.1.below H3.out.2.2.1)).mono ?_
  rintro e w4 ⟨u4, rfl, b4, o4⟩
  have hr4 : ReadsF w1.heap.size encS u4 (missOf s parts) w4 := (readsF_own (enc := encS) o4).least (Nat.le_trans H2.out.1.size H3.out.1.size)
  have hrm4 : ReadsF w1.heap.size encIL (.slice Ar room.length cr) room w4 := ((readsF_own (enc := encIL) (T := 3) (size := 1) (by rw [flatI_map]; exact H3.out.2.1)).least (H2.out.1.size)).below b4
  have hb4 : Below w.heap.size w w4 := H3.out.2.2.1.then_below b4 H3.out.2.2.1.size
  have ho4 : w4.ownsRow w.heap.size 9 1 (.slice (some ⟨gm, 0, none⟩) s.length capm) s.length (s.map Value.string) := own_below (own_below (own_below H1.out.2 H2.out.1) H3.out.1) b4
  have H4 : Hid (Below w.heap.size w w4 ∧ w4.ownsRow w.heap.size 9 1 (.slice (some ⟨gm, 0, none⟩) s.length capm) s.length ((fill s (room.take 0) ((missOf s parts).take 0)).map Value.string) ∧ ReadsF w1.heap.size encIL (.slice Ar room.length cr) room w4 ∧ ReadsF w1.heap.size encS u4 (missOf s parts) w4) := ⟨hb4, ho4, hrm4, hr4⟩
  have HRB := Lib.hid H3.out.2.2.2
  have hmr := HR.out.2
  have HFIN : Hid (fill s room (missOf s parts) = nextOf s parts later) := HR.out.1
  have hgl1 : gm < w1.heap.size := hgl
  clear b4 o4 hr4 hrm4 hb4 ho4 H3 H2 H1 CI HR
  obtain ⟨Am, cm, rfl, hcm, _⟩ := H4.out.2.2.2
  have HML : Hid ((missOf s parts).length ≤ s.length) := Nat.le_trans hml hps
  obtain ⟨miss, hmiss⟩ : ∃ miss, missOf s parts = miss := ⟨_, rfl⟩
  rw [hmiss] at H4 HFIN HML hmr hcm ⊢
  clear hmiss hml
  have hmn : miss.length ≤ s.length := HML.out
  go_wp2_with fail
  go_loopw [24] (fun kk wr => ∃ k : Nat, k ≤ miss.length ∧ kk = .int .i64 k ∧ Hid (Below w.heap.size w wr ∧ wr.ownsRow w.heap.size 9 1 (.slice (some ⟨gm, 0, none⟩) s.length capm) s.length ((fill s (room.take k) (miss.take k)).map Value.string) ∧ ReadsF w1.heap.size encIL (.slice Ar room.length cr) room wr ∧ ReadsF w1.heap.size encS (.slice Am miss.length cm) miss wr)) (fun kk _ => miss.length - (intOf kk).toNat)
  case atStart => exact ⟨0, by omega, rfl, H4⟩
  case round =>
    obtain ⟨k, hk, rfl, HS⟩ := hrel
    by_cases hlt : k < miss.length
    · have hltr : k < room.length := by omega
      obtain ⟨A', c', e, _, hr⟩ := HS.out.2.2.1
      cases e
      rcases hr with hr | ⟨gr, rfl, hgr, hrow⟩
      · subst hr; simp at hltr
      obtain ⟨A'', c'', e, _, hr⟩ := HS.out.2.2.2
      cases e
      rcases hr with hr | ⟨gs, rfl, hgs, hrow2⟩
      · subst hr; simp at hlt
      have q1 := row_int hrow hltr
      have q2 := row_strg hrow2 hlt
      have hir := HRB.out room[k] (List.getElem_mem hltr)
      have HST := Lib.hid (fill_step room miss s k hltr hlt)
      have hg1 := hrow.1
      have hg2 := hrow2.1
      generalize room[k] = r at *
      generalize miss[k] = x at *
      have HFL : Hid ((fill s (room.take k) (miss.take k)).length = s.length) := fill_length _ _ _
      obtain ⟨old, hold⟩ : ∃ old, (fill s (room.take k) (miss.take k))[r]? = some old := ⟨_, List.getElem?_eq_getElem (by rw [HFL.out]; exact hir)⟩
      have c0 : wr.cell? ⟨gm, r, none⟩ = some (.string old) := by
        obtain ⟨g', cap', hv, _, _, _, _, hrd⟩ := own_read HS.out.2.1 hs0
        cases hv
        exact hrd r _ (by rw [List.getElem?_map, hold]; rfl)
      have f0 : wr.frozen? ⟨gm, r, none⟩ = false := own_frozen HS.out.2.1 r
      have hgm2 : gm < wr.heap.size := own_lt HS.out.2.1 gm rfl
      have i1 : (0 : Int) ≤ (k : Int) := by omega
      have i2 : (k : Int) < (miss.length : Int) := by omega
      have i3 : (k : Int) < (room.length : Int) := by omega
      have i4 : (0 : Int) ≤ (r : Int) := by omega
      have i5 : (r : Int) < (s.length : Int) := by omega
      have HF : Hid (Below w.heap.size w (wr.setCell ⟨gm, r, none⟩ (.string x)) ∧ (wr.setCell ⟨gm, r, none⟩ (.string x)).ownsRow w.heap.size 9 1 (.slice (some ⟨gm, 0, none⟩) s.length capm) s.length ((fill s (room.take (k + 1)) (miss.take (k + 1))).map Value.string) ∧ ReadsF w1.heap.size encIL (.slice (some ⟨gr, 0, none⟩) room.length cr) room (wr.setCell ⟨gm, r, none⟩ (.string x)) ∧ ReadsF w1.heap.size encS (.slice (some ⟨gs, 0, none⟩) miss.length cm) miss (wr.setCell ⟨gm, r, none⟩ (.string x))) := by
        refine ⟨HS.out.1.setCell hgb _, ?_, HS.out.2.2.1.far hgl1 _, HS.out.2.2.2.far hgl1 _⟩
        have := own_set HS.out.2.1 r (.string x)
        rw [HST.out, List.map_set]
        exact this
      clear hrow hrow2 hold
      go_wp2_with fail
      go_roundw
      case rel => exact ⟨k + 1, by omega, by go_num, HF⟩
      case measure => simp [intOf]; omega
    · obtain rfl : k = miss.length := by omega
      have HE : Hid (fill s (room.take miss.length) (miss.take miss.length) = nextOf s parts later) := by
        show _ = _
        rw [List.take_of_length_le (Nat.le_refl miss.length), fill_take miss room s hmr, HFIN.out]
      go_wp2_with fail
      go_ret
      refine ⟨_, rfl, HS.out.1, ?_⟩
      have := HS.out.2.1
      rw [HE.out] at this
      rw [nextOf_length]
      exact this
end Go.Proofs.YtmjonmoagpkdiabGreatDoor
namespace Go.Proofs.YtmjonmoagpkdiabGreatDoor
open Go.RowKit
set_option linter.unusedSimpArgs false
set_option linter.unusedVariables false

theorem lst_info : (Tryz.prog.info? 34).map (fun i => (i.zero, i.size, i.bytes)) = some (some (.slice none 0 0), 1, 24) := by kernel_rfl
theorem ReadsF.grownS {base : Nat} {u : Value} {l : List ByteArray} {w w' : World} {row : Option Nat} (h : ReadsF base encS u l w) (hg : w.grownBy w' row) (hr : ∀ g, row = some g → ∀ x, w.cell? ⟨g, 0, none⟩ ≠ some (.string x)) : ReadsF base encS u l w' := by
  obtain ⟨A, c, e, hc, h⟩ := h
  refine ⟨A, c, e, hc, ?_⟩
  rcases Nat.eq_zero_or_pos l.length with h0 | h0
  · exact .inl (List.length_eq_zero_iff.mp h0)
  rcases h with h | ⟨g, e, hb, hl⟩
  · exact .inl h
  · refine .inr ⟨g, e, hb, Nat.lt_of_lt_of_le hl.1 hg.size, fun j u hu => ?_⟩
    rw [← hl.2 j u hu]
    unfold World.cell?
    rw [hg.block _ hl.1 (fun e => hr g e.symm _ (row_strg hl h0))]

/-- The setups that have been made so far. -/
def StSt (w : World) (s : List ByteArray) (p : List (List ByteArray)) (k : Nat) (us : List Value) (v0 v5 : Value) (wr : World) : Prop :=
  Below w.heap.size w wr ∧ ReadsF 0 encS v0 (upTo s p k) wr ∧ (k = 0 → v5 = .slice none 0 0) ∧
  us.length = k ∧ wr.ownsRow w.heap.size 34 1 v5 k us ∧ ∀ j, j < k → ∃ u, us[j]? = some u ∧ ReadsF w.heap.size encS u (upTo s p (j + 1)) wr
theorem StSt.below {w wr w' : World} {s : List ByteArray} {p : List (List ByteArray)} {k : Nat} {us : List Value} {v0 v5 : Value} (h : StSt w s p k us v0 v5 wr) (hb : Below wr.heap.size wr w') : StSt w s p k us v0 v5 w' := by
  obtain ⟨h1, h2, h3, h4, h5, h6⟩ := h
  refine ⟨h1.then_below hb h1.size, h2.below hb, h3, h4, own_below h5 hb, fun j hj => ?_⟩
  obtain ⟨u, a, b⟩ := h6 j hj
  exact ⟨u, a, b.below hb⟩
theorem StSt.next {w wr w' : World} {s : List ByteArray} {p : List (List ByteArray)} {k : Nat} {us : List Value} {v0 v5 v0' v5' : Value} (h : StSt w s p k us v0 v5 wr) (hg : wr.grownBy w' v5.ownBlock) (hu : ReadsF w.heap.size encS v0' (upTo s p (k + 1)) wr)
    (hown : w'.ownsRow w.heap.size 34 1 v5' (k + 1) (us ++ [v0'])) : StSt w s p (k + 1) (us ++ [v0']) v0' v5' w' := by
  obtain ⟨h1, h2, h3, h4, h5, h6⟩ := h
  have hr : ∀ g, v5.ownBlock = some g → ∀ x, wr.cell? ⟨g, 0, none⟩ ≠ some (.string x) := fun g e x hx => by
    rcases Nat.eq_zero_or_pos k with h0 | h0
    · rw [h3 h0] at e
      simp [Value.ownBlock] at e
    · obtain ⟨u, a, A, c, b, _⟩ := h6 0 h0
      have := h5.cells e 0 u a
      rw [b] at this
      have h9 : (⟨g, 0, none⟩ : Addr).add 0 = ⟨g, 0, none⟩ := rfl
      rw [h9, hx] at this
      cases this
  refine ⟨h1.grown hg h1.size (fun j e => own_row h5 j e), (hu.grownS hg hr).least (Nat.zero_le _), fun h => by omega, by simp [h4], hown, fun j hj => ?_⟩
  rcases Nat.lt_or_ge j k with hlt | hge
  · obtain ⟨u, a, b⟩ := h6 j hlt
    exact ⟨u, by rw [List.getElem?_append_left (by omega)]; exact a, b.grownS hg hr⟩
  · obtain rfl : j = k := by omega
    exact ⟨v0', by rw [List.getElem?_append_right (by omega), h4]; simp, hu.grownS hg hr⟩

set_option maxRecDepth 100000 in
set_option maxHeartbeats 800000 in
theorem setups_any {b1 b2 : Nat} {s : List ByteArray} {p : List (List ByteArray)} {v1 v2 : Value} (hs : SetOk s) (hp : p.length ≤ 200) (hpp : ∀ l ∈ p, l.length ≤ s.length ∧ PaOk l) {w : World} (h1 : ReadsF b1 encS v1 s w) (h2 : ListsF b2 v2 p w) :
    Calls Tryz.prog 42 #[v1, v2] w fun e w' => ∃ u, e = .returned u ∧ Below w.heap.size w w' ∧ ListsF w.heap.size u (setupsOf s p) w' := by
  have hn100 := hs.2.1
  have HH := Lib.hid (And.intro h1 h2)
  have HU := Lib.hid (fun k (hk : k ≤ p.length) => upTo_ok hs (fun l hl => (hpp l hl).2) k hk)
  have CN : Hid (∀ (W : World) (k : Nat) (l : List ByteArray) (u v x : Value), k < p.length → p.getD k [] = l → ReadsF 0 encS u (upTo s p k) W → ReadsF b2 encS v l W → ListsF b2 x (p.drop (k + 1)) W →
      Calls Tryz.prog 71 #[u, v, x] W fun e w' => ∃ u, e = .returned u ∧ Below W.heap.size W w' ∧ w'.ownsRow W.heap.size 9 1 u (upTo s p (k + 1)).length ((upTo s p (k + 1)).map Value.string)) := by
    rintro W k l u v x hk rfl ha hb hc
    have hm : p.getD k [] ∈ p := by rw [List.getD_eq_getElem?_getD, List.getElem?_eq_getElem hk]; exact List.getElem_mem hk
    exact nextP_any (HU.out k (by omega)).1 (hpp _ hm).2 (by rw [(HU.out k (by omega)).2]; exact (hpp _ hm).1) (by simp; omega) (fun l hl => by have := (hpp l (List.mem_of_mem_drop hl)).1; omega) (fun l hl => (hpp l (List.mem_of_mem_drop hl)).2) ha hb hc
  obtain ⟨A1, c1, rfl, z1, z2⟩ := h1
  obtain ⟨A2, c2, rfl, hc2, z3⟩ := h2
  clear z1 z2 z3
  have H0 : Hid (StSt w s p 0 [] (.slice A1 s.length c1) (.slice none 0 0) w) := ⟨Below.refl _ _, HH.out.1.least (Nat.zero_le _), fun _ => rfl, rfl, World.ownsRow_nil _ _ _ _, fun j hj => by omega⟩
  go_enter Tryz.func42, Tryz.ntmps42
  go_wp2_with fail
  go_loopw [0, 5, 10] (fun v0 v5 kk wr => ∃ (k : Nat) (us : List Value), k ≤ p.length ∧ kk = .int .i64 k ∧ Hid (StSt w s p k us v0 v5 wr)) (fun _ _ kk _ => p.length - (intOf kk).toNat)
  case atStart => exact ⟨0, [], by omega, rfl, H0⟩
  case round =>
    clear H0
    obtain ⟨k, us, hk, rfl, HS⟩ := hrel
    by_cases hlt : k < p.length
    · obtain ⟨A', c', e, z1, hr⟩ := HH.out.2.below HS.out.1
      cases e
      clear z1
      rcases hr with hr | ⟨g, o, rfl, hgb, hgl, hcells⟩
      · subst hr; simp at hlt
      obtain ⟨u, q1, hu⟩ := hcells k hlt
      obtain ⟨A5, c5, rfl, z1, z2⟩ := own_slice HS.out.2.2.2.2.1
      clear z1 z2
      have hD : p.getD k [] = p[k] := by rw [List.getD_eq_getElem?_getD, List.getElem?_eq_getElem hlt]; rfl
      obtain ⟨l, hl⟩ : ∃ l, p[k] = l := ⟨_, rfl⟩
      rw [hl] at hD hu
      have HD := Lib.hid hD
      clear hl hD
      have HC := Lib.hid (And.intro hcells hu)
      obtain ⟨Au, cu, rfl, z1, z2⟩ := hu
      clear z1 z2
      have i1 : (0 : Int) ≤ (k : Int) := by omega
      have i2 : (k : Int) < (p.length : Int) := by omega
      have hrd0 := HS.out.2.1
      obtain ⟨A0, c0, rfl, z1, z2⟩ := hrd0
      clear z1 z2
      clear hcells
      by_cases hcz : c2 = k + 1
      · subst hcz
        go_wp2_with fail
        have HL : Hid (ListsF b2 (.slice (some ⟨g, o, none⟩) 0 0) (p.drop (k + 1)) wr) := by
          have h0 : p.drop (k + 1) = [] := List.drop_eq_nil_of_le (by omega)
          rw [h0]
          exact ⟨_, 0, rfl, Nat.le_refl _, .inl rfl⟩
        refine (CN.out wr k l _ _ _ hlt HD.out HS.out.2.1 HC.out.2 HL.out).mono ?_
        rintro e w2 ⟨u2, rfl, hb2, ho2⟩
        have H2 := Lib.hid (And.intro (HS.out.below hb2) ((own_strs ho2).least HS.out.1.size))
        have hz2 : w.heap.size ≤ w2.heap.size := (HS.out.below hb2).1.size
        obtain ⟨i0, hi0, hz0, hzz1, hz2'⟩ := info_parts lst_info
        have HI := Lib.hid (And.intro hi0 (And.intro hz0 (And.intro hzz1 hz2')))
        have hus : Hid (w2.ownsRow w.heap.size 34 1 (.slice A5 k c5) k us) := H2.out.1.2.2.2.2.1
        have hu2 := H2.out.2
        obtain ⟨Ax, cx, rfl, z1, z2⟩ := hu2
        clear z1 z2
        clear hb2 ho2 HS HC HL hi0 hz0 hzz1 hz2'
        go_wp2_with (at_builtin; refine hold ?_)
        refine loose ?_
        refine wpList_append_own _ rfl _ _ 62 rfl w.heap.size 34 i0 _ 1 24 Tryz.underlying62 HI.out.1 HI.out.2.1 HI.out.2.2.1 HI.out.2.2.2 rfl (by omega) _ k us rfl (hus.out.alloc _) ⟨w2.heap.size, 0, none⟩ 1 1 [.slice Ax (upTo s p (k + 1)).length cx] rfl rfl (cell_one_new _ _ _) (by intro u hu; simp at hu; subst hu; rfl) (by unfold maxLen; omega) (by omega) (by simp; omega) ?_
        intro v' w3 hown' hg' _
        have hal : Below w2.heap.size w2 (w2.alloc (.cells #[.slice Ax (upTo s p (k + 1)).length cx] 34)) := (Below.refl _ _).alloc (Nat.le_refl _) _
        have HF := Lib.hid ((H2.out.1.below hal).next hg' (H2.out.2.below hal) hown')
        clear hal
        clear hown' hg'
        go_wp2_with fail
        go_roundw
        case rel => exact ⟨k + 1, _, by omega, by go_num, HF⟩
        case measure => simp [intOf]; omega
      · go_wp2_with fail
        have HL : Hid (ListsF b2 (.slice (some ⟨g, o + (k + 1), none⟩) (p.length - (k + 1)) (c2 - (k + 1))) (p.drop (k + 1)) wr) := by
          refine ⟨_, _, by rw [List.length_drop], by rw [List.length_drop]; omega, .inr ⟨g, o + (k + 1), rfl, hgb, hgl, fun j hj => ?_⟩⟩
          rw [List.length_drop] at hj
          obtain ⟨u, a, b⟩ := HC.out.1 (k + 1 + j) (by omega)
          refine ⟨u, by rw [Nat.add_assoc]; exact a, ?_⟩
          rw [List.getElem_drop]
          exact b
        refine (CN.out wr k l _ _ _ hlt HD.out HS.out.2.1 HC.out.2 HL.out).mono ?_
        rintro e w2 ⟨u2, rfl, hb2, ho2⟩
        have H2 := Lib.hid (And.intro (HS.out.below hb2) ((own_strs ho2).least HS.out.1.size))
        have hz2 : w.heap.size ≤ w2.heap.size := (HS.out.below hb2).1.size
        obtain ⟨i0, hi0, hz0, hzz1, hz2'⟩ := info_parts lst_info
        have HI := Lib.hid (And.intro hi0 (And.intro hz0 (And.intro hzz1 hz2')))
        have hus : Hid (w2.ownsRow w.heap.size 34 1 (.slice A5 k c5) k us) := H2.out.1.2.2.2.2.1
        have hu2 := H2.out.2
        obtain ⟨Ax, cx, rfl, z1, z2⟩ := hu2
        clear z1 z2
        clear hb2 ho2 HS HC HL hi0 hz0 hzz1 hz2'
        go_wp2_with (at_builtin; refine hold ?_)
        refine loose ?_
        refine wpList_append_own _ rfl _ _ 62 rfl w.heap.size 34 i0 _ 1 24 Tryz.underlying62 HI.out.1 HI.out.2.1 HI.out.2.2.1 HI.out.2.2.2 rfl (by omega) _ k us rfl (hus.out.alloc _) ⟨w2.heap.size, 0, none⟩ 1 1 [.slice Ax (upTo s p (k + 1)).length cx] rfl rfl (cell_one_new _ _ _) (by intro u hu; simp at hu; subst hu; rfl) (by unfold maxLen; omega) (by omega) (by simp; omega) ?_
        intro v' w3 hown' hg' _
        have hal : Below w2.heap.size w2 (w2.alloc (.cells #[.slice Ax (upTo s p (k + 1)).length cx] 34)) := (Below.refl _ _).alloc (Nat.le_refl _) _
        have HF := Lib.hid ((H2.out.1.below hal).next hg' (H2.out.2.below hal) hown')
        clear hal
        clear hown' hg'
        go_wp2_with fail
        go_roundw
        case rel => exact ⟨k + 1, _, by omega, by go_num, HF⟩
        case measure => simp [intOf]; omega
    · obtain rfl : k = p.length := by omega
      obtain ⟨A5, c5, rfl, hc5, _⟩ := own_slice HS.out.2.2.2.2.1
      go_wp2_with fail
      go_ret
      refine ⟨_, rfl, HS.out.1, A5, c5, by rw [setupsOf_len]; rfl, by rw [setupsOf_len]; exact hc5, ?_⟩
      rcases Nat.eq_zero_or_pos p.length with h0 | h0
      · left
        have : p = [] := List.length_eq_zero_iff.mp h0
        rw [this]
        rfl
      · obtain ⟨g, cap, e, hgb, hgl, _, _, hrd⟩ := own_read HS.out.2.2.2.2.1 h0
        cases e
        refine .inr ⟨g, 0, rfl, hgb, hgl, fun j hj => ?_⟩
        rw [setupsOf_len] at hj
        obtain ⟨u, a, b⟩ := HS.out.2.2.2.2.2 j hj
        refine ⟨u, by rw [Nat.zero_add]; exact hrd j u a, ?_⟩
        have e2 : (setupsOf s p)[j]'(by rw [setupsOf_len]; exact hj) = upTo s p (j + 1) := by
          simp only [setupsOf_map, List.getElem_map, List.getElem_range]
        rw [e2]
        exact b
end Go.Proofs.YtmjonmoagpkdiabGreatDoor
namespace Go.Proofs.YtmjonmoagpkdiabGreatDoor
open Go.RowKit
set_option linter.unusedSimpArgs false
set_option linter.unusedVariables false

/-- The sum of loads, list by list. -/
def curOf (s : List ByteArray) (L : List (List ByteArray)) : Nat → List ByteArray
  | 0 => s
  | k + 1 => L.getD k []
def sumK (s : List ByteArray) (L : List (List ByteArray)) : Nat → Nat
  | 0 => 0
  | k + 1 => sumK s L k + loadsOf (curOf s L k) (curOf s L (k + 1))
theorem sumK_cons (s x : List ByteArray) (r : List (List ByteArray)) : ∀ k, sumK s (x :: r) (k + 1) = loadsOf s x + sumK x r k := by
  intro k
  induction k with
  | zero => simp [sumK, curOf]
  | succ k ih =>
    rw [sumK, ih, sumK]
    have e : curOf s (x :: r) (k + 1) = curOf x r k := by cases k <;> rfl
    have e2 : curOf s (x :: r) (k + 1 + 1) = curOf x r (k + 1) := rfl
    rw [e, e2]
    omega
theorem sumOf_K (L : List (List ByteArray)) : ∀ s, sumOf s L = sumK s L L.length := by
  induction L with
  | nil => intro s; rfl
  | cons x r ih => intro s; rw [sumOf, ih, List.length_cons, sumK_cons]
theorem sumK_le (s : List ByteArray) (L : List (List ByteArray)) (n : Nat) (hs : s.length ≤ n) (hL : ∀ l ∈ L, l.length ≤ n) : ∀ k, k ≤ L.length → sumK s L k ≤ k * n := by
  intro k
  induction k with
  | zero => intro _; simp [sumK]
  | succ k ih =>
    intro hk
    have h1 := ih (by omega)
    have h2 := loadsOf_le (curOf s L k) (curOf s L (k + 1))
    have h3 : (curOf s L k).length ≤ n := by
      cases k with
      | zero => exact hs
      | succ k =>
        have : L.getD k [] ∈ L := by rw [List.getD_eq_getElem?_getD, List.getElem?_eq_getElem (show k < L.length by omega)]; exact List.getElem_mem _
        exact hL _ this
    rw [sumK, Nat.add_mul]
    omega
theorem setupsOf_mem {s : List ByteArray} {p : List (List ByteArray)} (hs : SetOk s) (hp : ∀ l ∈ p, PaOk l) : ∀ l ∈ setupsOf s p, l.length = s.length := fun l hl => by
  rw [setupsOf_map] at hl
  obtain ⟨k, hk, rfl⟩ := List.mem_map.mp hl
  exact (upTo_ok hs hp (k + 1) (by have := List.mem_range.mp hk; omega)).2

set_option maxRecDepth 100000 in
set_option maxHeartbeats 400000 in
theorem total_any {b1 b2 : Nat} {s : List ByteArray} {p : List (List ByteArray)} {v1 v2 : Value} (hl : s.length ≤ 1000000) (hp : p.length ≤ 1000000) (hps : ∀ l ∈ p, l.length ≤ 1000000) {w : World} (h1 : ReadsF b1 encS v1 s w) (h2 : ListsF b2 v2 p w) :
    Calls Tryz.prog 19 #[v1, v2] w fun e w' => e = .returned (.tuple #[.int .i64 (okN (chkErr s p) (totalOf s p)), .int .i64 (chkErr s p)]) ∧ Below w.heap.size w w' := by
  have CC := Lib.hid (check_any hl hp hps h1 h2)
  have HO := Lib.hid (@chkErr_ok s p)
  have HH := Lib.hid (And.intro (h1.least (Nat.zero_le _)) (And.intro h1 h2))
  generalize chkErr s p = E at *
  by_cases h0 : E = 0
  rotate_left
  · have hne : (E != 0) = true := by simpa using h0
    rw [okN_bad h0]
    obtain ⟨A1, c1, rfl, _, _⟩ := h1
    obtain ⟨A2, c2, rfl, _, _⟩ := h2
    go_enter Tryz.func19, Tryz.ntmps19
    go_wp2_with fail
    refine CC.out.mono ?_
    rintro e w' ⟨rfl, rfl⟩
    go_wp2_with fail
    refine bodyPost_ret (v := .tuple #[.int .i64 0, .int .i64 E]) (by unfold results; simp only [Tryz.results19]; go_simp) rfl ⟨rfl, Below.refl _ _⟩
  obtain ⟨hok, hp200, hpp⟩ := HO.out h0
  rw [okN_ok h0]
  subst h0
  clear HO
  have CS := Lib.hid (setups_any hok hp200 hpp h1 h2)
  have hn100 := hok.2.1
  have hm := setupsOf_mem hok (fun l hl => (hpp l hl).2)
  have HT : Hid (totalOf s p = sumK s (setupsOf s p) (setupsOf s p).length) := sumOf_K _ _
  have hLp : (setupsOf s p).length = p.length := setupsOf_len _ _
  obtain ⟨L, hL⟩ : ∃ L, setupsOf s p = L := ⟨_, rfl⟩
  rw [hL] at CS hm HT hLp
  rw [HT.out]
  have HLE : Hid (∀ k, k ≤ L.length → sumK s L k ≤ 20000) := fun k hk => by
    have := sumK_le s L 100 hn100 (fun l hl => by rw [hm l hl]; exact hn100) k hk
    omega
  have HLN : Hid (∀ k, k ≤ L.length → (curOf s L k).length = s.length) := fun k hk => by
    cases k with
    | zero => rfl
    | succ k =>
      have : L.getD k [] ∈ L := by rw [List.getD_eq_getElem?_getD, List.getElem?_eq_getElem (show k < L.length by omega)]; exact List.getElem_mem _
      exact hm _ this
  have hL200 : L.length ≤ 200 := by omega
  clear hL hm HT hLp
  obtain ⟨A1, c1, rfl, z1, z2⟩ := h1
  obtain ⟨A2, c2, rfl, z3, z4⟩ := h2
  clear z1 z2 z3 z4
  go_enter Tryz.func19, Tryz.ntmps19
  go_wp2_with fail
  refine CC.out.mono ?_
  rintro e w' ⟨rfl, rfl⟩
  go_wp2_with fail
  refine CS.out.mono ?_
  rintro e w1 ⟨u, rfl, hb1, hr1⟩
  have H1 := Lib.hid (And.intro hb1 hr1)
  obtain ⟨AL, cL, rfl, z1, z2⟩ := hr1
  clear z1 z2 hb1 CS
  go_wp2_with fail
  go_loopw [0, 7, 20] (fun v0 tv kk wr => ∃ k : Nat, k ≤ L.length ∧ kk = .int .i64 k ∧ tv = .int .i64 (sumK s L k) ∧ Hid (Below w1.heap.size w1 wr ∧ ReadsF 0 encS v0 (curOf s L k) wr)) (fun _ _ kk _ => L.length - (intOf kk).toNat)
  case atStart => exact ⟨0, by omega, rfl, rfl, Below.refl _ _, HH.out.1.below H1.out.1⟩
  case round =>
    obtain ⟨k, hk, rfl, rfl, HS⟩ := hrel
    by_cases hlt : k < L.length
    · obtain ⟨A', c', e, z1, hr⟩ := H1.out.2.below HS.out.1
      cases e
      clear z1
      rcases hr with hr | ⟨g, o, rfl, hgb, hgl, hcells⟩
      · subst hr; simp at hlt
      obtain ⟨u, q1, hu⟩ := hcells k hlt
      have hD : curOf s L (k + 1) = L[k] := by show L.getD k [] = L[k]; rw [List.getD_eq_getElem?_getD, List.getElem?_eq_getElem hlt]; rfl
      rw [← hD] at hu
      have hSK : sumK s L (k + 1) = sumK s L k + loadsOf (curOf s L k) (curOf s L (k + 1)) := rfl
      have hle := HLE.out (k + 1) (by omega)
      have hln := HLN.out k (by omega)
      have hln2 := HLN.out (k + 1) (by omega)
      have HU := Lib.hid (And.intro (hu.least (Nat.zero_le _)) hSK)
      rw [hSK] at hle
      have hmq : sumK s L k + loadsOf (curOf s L k) (curOf s L (k + 1)) ≤ 20000 := hle
      have CD := Lib.hid (changes_any (base := 0) (by omega) (by omega) HS.out.2 HU.out.1)
      generalize sumK s L k = m at *
      generalize curOf s L k = x at *
      obtain ⟨y, hy⟩ : ∃ y, curOf s L (k + 1) = y := ⟨_, rfl⟩
      rw [hy] at CD HU hln2 hmq
      have HY := Lib.hid hy
      clear hD hu hSK hy hle
      have hrd0 := HS.out.2
      obtain ⟨A0, c0, rfl, z1, z2⟩ := hrd0
      have hu2 := HU.out.1
      obtain ⟨Au, cu, rfl, z3, z4⟩ := hu2
      have HLL := Lib.hid (And.intro hln hln2)
      clear z1 z2 z3 z4 hcells hln hln2
      have i1 : (0 : Int) ≤ (k : Int) := by omega
      have i2 : (k : Int) < (L.length : Int) := by omega
      go_wp2_with fail
      refine CD.out.mono ?_
      rintro e w2 ⟨uc, rfl, hb2, ho2⟩
      have CL := Lib.hid (loadsS_any (l := chgOf x y) (Nat.le_trans (chgK_len _ _ _) (by rw [HLL.out.1]; omega)) (readsF_own ho2))
      have HEQ : Hid (ldsOf (chgOf x y) = loadsOf x y) := rfl
      rw [HEQ.out] at CL
      have HB2 := Lib.hid (And.intro hb2 (HU.out.1.below hb2))
      clear hb2 ho2
      generalize loadsOf x y = q at *
      go_wp2_with fail
      refine CL.out.mono ?_
      rintro e w3 ⟨rfl, hb3⟩
      have HB := Lib.hid (And.intro ((HS.out.1.then_below HB2.out.1 HS.out.1.size).then_below hb3 (Nat.le_trans HS.out.1.size HB2.out.1.size)) (HB2.out.2.below hb3))
      clear hb3
      go_wp2_with fail
      go_roundw
      case rel => exact ⟨k + 1, by omega, by go_num, by rw [HU.out.2]; go_num, HB.out.1, by rw [HY.out]; exact HB.out.2⟩
      case measure => simp [intOf]; omega
    · obtain rfl : k = L.length := by omega
      go_wp2_with fail
      have HF : Hid (Below w.heap.size w wr) := H1.out.1.then_below HS.out.1 H1.out.1.size
      refine bodyPost_ret (v := .tuple #[.int .i64 (sumK s L L.length), .int .i64 0]) (by unfold results; simp only [Tryz.results19]; go_simp) rfl ⟨rfl, HF.out⟩

end Go.Proofs.YtmjonmoagpkdiabGreatDoor
namespace Go.Proofs.YtmjonmoagpkdiabGreatDoor
open Go.RowKit
set_option linter.unusedSimpArgs false
set_option linter.unusedVariables false

/-! ### the check on fixed setups -/
abbrev kA : ByteArray := ⟨#[97]⟩
abbrev kB : ByteArray := ⟨#[98]⟩
theorem em_dS : em ⟨#[]⟩ = true := (em_iff _).mpr rfl
theorem em_A : em kA = false := key_not_em (by decide)
theorem em_B : em kB = false := key_not_em (by decide)
theorem bts {a b : ByteArray} : a = b ↔ bt a = bt b := ⟨fun h => by rw [h], bt_inj⟩
theorem loaded_chk : chkErr [⟨#[]⟩] [[kA], [kB]] = 0 := by
  have h1 : setErr [⟨#[]⟩] = 0 := by simp [setErr, seErr, em_dS]
  have h2 : keyB kA = true := by decide
  have h3 : keyB kB = true := by decide
  unfold chkErr
  rw [if_pos h1]
  simp [partsErr, psErr, paErr, inR, h2, h3]
theorem loaded_total : totalOf [⟨#[]⟩] [[kA], [kB]] = 2 := by
  have n1 : ¬ kA = dS := by rw [bts]; decide
  have n2 : ¬ kB = kA := by rw [bts]; decide
  have n3 : ¬ dS = kA := by rw [bts]; decide
  have n4 : ¬ kA = kB := by rw [bts]; decide
  have m1 : missOf [dS] [kA] = [kA] := by simp [missOf, has_false, n1]
  have m2 : missOf [kA] [kB] = [kB] := by simp [missOf, has_false, n2]
  have x1 : nextOf [dS] [kA] [[kB]] = [kA] := by
    unfold nextOf
    rw [m1]
    have : em dS = true := em_dS
    simp [nextGo, pickB, stepB, cand, nth, this]
  have x2 : nextOf [kA] [kB] [] = [kB] := by
    unfold nextOf
    rw [m2]
    have : has [kB] kA = false := has_false.mpr (by simp [n4])
    simp [nextGo, pickB, stepB, cand, nth, this]
  have l1 : loadsOf [dS] [kA] = 1 := by
    have e : chgOf [dS] [kA] = [(0, dS, kA)] := by
      unfold chgOf
      rw [show ([dS] : List ByteArray).length = 0 + 1 from rfl, chgK_next (by simpa [nth] using n3)]
      rfl
    unfold loadsOf ldsOf
    rw [e]
    simp [em_A]
  have l2 : loadsOf [kA] [kB] = 1 := by
    have e : chgOf [kA] [kB] = [(0, kA, kB)] := by
      unfold chgOf
      rw [show ([kA] : List ByteArray).length = 0 + 1 from rfl, chgK_next (by simp [nth])]
      rfl
    unfold loadsOf ldsOf
    rw [e]
    simp [em_B]
  show sumOf [dS] (setupsOf [dS] [[kA], [kB]]) = 2
  rw [setupsOf, x1, setupsOf, x2, setupsOf, sumOf, sumOf, sumOf, l1, l2]

/-! ### the reference, part by part -/
def stepN (parts : List ByteArray) (later : List (List ByteArray)) (out : List ByteArray) (x : ByteArray) : List ByteArray := match pickB parts later out out.length with | some i => out.set i x | none => out
def outK (parts : List ByteArray) (later : List (List ByteArray)) (s : List ByteArray) (xs : List ByteArray) : Nat → List ByteArray
  | 0 => s
  | k + 1 => stepN parts later (outK parts later s xs k) (nth xs k)
theorem outK_cons (parts : List ByteArray) (later : List (List ByteArray)) (s : List ByteArray) (x : ByteArray) (xs : List ByteArray) : ∀ k, outK parts later s (x :: xs) (k + 1) = outK parts later (stepN parts later s x) xs k := by
  intro k
  induction k with
  | zero => rfl
  | succ k ih => rw [outK, ih]; rfl
theorem nextGo_K (parts : List ByteArray) (later : List (List ByteArray)) (xs : List ByteArray) : ∀ s, nextGo parts later s xs = outK parts later s xs xs.length := by
  induction xs with
  | nil => intro s; rfl
  | cons x xs ih => intro s; rw [nextGo, ih, List.length_cons, outK_cons]; rfl
theorem stepN_length (parts : List ByteArray) (later : List (List ByteArray)) (out : List ByteArray) (x : ByteArray) : (stepN parts later out x).length = out.length := by
  unfold stepN
  split <;> simp
theorem outK_length (parts : List ByteArray) (later : List (List ByteArray)) (s : List ByteArray) (xs : List ByteArray) : ∀ k, (outK parts later s xs k).length = s.length := by
  intro k
  induction k with
  | zero => rfl
  | succ k ih => rw [outK, stepN_length, ih]
theorem outK_inv {parts : List ByteArray} {later : List (List ByteArray)} {s xs : List ByteArray} (hs : SetOk s) (hn : xs.Nodup) (hx : ∀ x ∈ xs, keyB x = true ∧ x ∉ s) :
    ∀ k, k ≤ xs.length → SetOk (outK parts later s xs k) ∧ ∀ j (h : j < xs.length), k ≤ j → xs[j] ∉ outK parts later s xs k := by
  intro k
  induction k with
  | zero => intro _; exact ⟨hs, fun j h _ => (hx _ (List.getElem_mem h)).2⟩
  | succ k ih =>
    intro hk
    obtain ⟨h1, h2⟩ := ih (by omega)
    have hlt : k < xs.length := by omega
    have e : nth xs k = xs[k] := nth_at hlt
    refine ⟨?_, fun j hj hkj hc => ?_⟩
    · have := nextGo_ok (parts := parts) (later := later) [nth xs k] _ h1 (by simp) (fun y hy => by
        simp only [List.mem_singleton] at hy
        subst hy
        rw [e]
        exact ⟨(hx _ (List.getElem_mem hlt)).1, h2 k hlt (Nat.le_refl _)⟩)
      exact this
    · rw [outK] at hc
      unfold stepN at hc
      have hmem : xs[j] = nth xs k ∨ xs[j] ∈ outK parts later s xs k := by
        split at hc
        · rcases List.mem_or_eq_of_mem_set hc with h | h
          · exact .inr h
          · exact .inl h
        · exact .inr hc
      rcases hmem with h | h
      · rw [e] at h
        have := (List.pairwise_iff_getElem.mp hn) k j hlt hj (by omega)
        exact this h.symm
      · exact h2 j hj (by omega) h
theorem pickB_none {parts : List ByteArray} {later : List (List ByteArray)} {out : List ByteArray} : ∀ k, pickB parts later out k = none → ∀ i, i < k → cand parts (nth out i) = false := by
  intro k
  induction k with
  | zero => intro _ i h; omega
  | succ k ih =>
    intro h i hi
    rw [pickB] at h
    unfold stepB at h
    by_cases hc : cand parts (nth out k) = false
    · rw [if_pos hc] at h
      rcases Nat.lt_or_ge i k with h1 | h1
      · exact ih h i h1
      · obtain rfl : i = k := by omega
        exact hc
    · rw [if_neg hc] at h
      cases hb : pickB parts later out k with
      | none => rw [hb] at h; cases h
      | some j =>
        rw [hb] at h
        simp only at h
        split at h
        · cases h
        split at h
        · cases h
        split at h <;> cases h
/-- There is always a slot. -/
theorem pickB_some {parts : List ByteArray} {later : List (List ByteArray)} {out : List ByteArray} {x : ByteArray} (ho : SetOk out) (hp : parts.length ≤ out.length) (hx : x ∈ parts) (hxo : x ∉ out) : ∃ i, pickB parts later out out.length = some i ∧ i < out.length := by
  cases h : pickB parts later out out.length with
  | some i => exact ⟨i, rfl, (pickB_lt _ _ _ _ _ h).1⟩
  | none =>
    exfalso
    have hc := pickB_none _ h
    have hin : ∀ y ∈ out, y ∈ parts ∧ em y = false := fun y hy => by
      obtain ⟨i, hi, rfl⟩ := List.getElem_of_mem hy
      have := hc i hi
      rw [nth_at hi] at this
      unfold cand at this
      simp only [Bool.not_eq_eq_eq_not, Bool.not_false, Bool.and_eq_true, Bool.not_true] at this
      exact ⟨has_iff.mp this.1, this.2⟩
    have hnd : (x :: out).Nodup := by
      rw [List.nodup_cons]
      refine ⟨hxo, ?_⟩
      refine ho.2.2.2.imp_of_mem ?_
      intro a b ha _ h
      exact h (hin a ha).2
    have := nodup_sub (x :: out) parts hnd (fun y hy => by
      rcases List.mem_cons.mp hy with rfl | hy
      · exact hx
      · exact (hin y hy).1)
    simp at this
    omega
end Go.Proofs.YtmjonmoagpkdiabGreatDoor
