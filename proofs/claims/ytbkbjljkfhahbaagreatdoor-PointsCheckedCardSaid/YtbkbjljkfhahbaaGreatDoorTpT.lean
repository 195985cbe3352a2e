/-
  The program writes points.
-/
import Derived.Test.YtbkbjljkfhahbaaGreatDoorTpM
import Derived.Test.YtbkbjljkfhahbaaGreatDoorTxN
namespace Go.Proofs.YtbkbjljkfhahbaaGreatDoor
open Go.RowKit
set_option linter.unusedSimpArgs false
set_option linter.unusedVariables false

set_option maxRecDepth 100000 in
set_option maxHeartbeats 8000000 in
theorem ptText_any (l : List (Int × Int)) (hl : l.length ≤ 1000000) {v : Value} (w : World) (h : Reads encP v l w) (hGl : Gl w) (hw : gLow ≤ w.heap.size) :
    Calls Tryz.prog 23 #[v] w fun e w' => e = .returned (.tuple #[.string (if ptsErr 500 l = 0 then ptsB l else dS), .int .i64 (ptsErr 500 l)]) ∧ Below w.heap.size w w' := by
  have CX := Lib.hid (checkPoints_any l hl 500 h)
  have HF := Lib.hid (fun (h : ptsErr 500 l = 0) => ptsErr_ok h)
  have HA := Lib.hid h
  obtain ⟨A, c, rfl, _⟩ := h
  generalize ptsErr 500 l = E at *
  by_cases hE : E = 0
  rotate_left
  · rw [if_neg hE]
    have hne1 : (E == 0) = false := by simpa using hE
    have hne2 : (E != 0) = true := by simpa using hE
    go_enter Tryz.func23, Tryz.ntmps23
    go_wp2_with fail
    refine CX.out.mono ?_
    rintro e w1 ⟨rfl, b1⟩
    have HB := Lib.hid b1
    clear b1
    go_wp2_with fail
    refine bodyPost_ret (v := .tuple #[.string ⟨#[]⟩, .int .i64 E]) (by unfold results; simp only [Tryz.results23]; go_simp) rfl ⟨rfl, HB.out⟩
  subst hE
  rw [if_pos rfl]
  have HP := Lib.hid (HF.out rfl)
  have hl5 : l.length ≤ 500 := by have := HP.out.1; omega
  clear HF
  go_enter Tryz.func23, Tryz.ntmps23
  go_wp2_with fail
  refine CX.out.mono ?_
  rintro e w1 ⟨rfl, b1⟩
  have HS1 : Hid (Below w.heap.size w w1 ∧ w1.ownsRow w.heap.size 9 1 (.slice none 0 0) 0 ((ptsL (l.take 0)).map Value.string)) := ⟨b1, World.ownsRow_nil _ _ _ _⟩
  have hz1 := b1.size
  clear b1 CX
  go_wp2_with fail
  go_loopw [5, 15] (fun v5 kk wr => ∃ k : Nat, k ≤ l.length ∧ kk = .int .i64 k ∧ w.heap.size ≤ wr.heap.size ∧ Hid (Below w.heap.size w wr ∧ wr.ownsRow w.heap.size 9 1 v5 k ((ptsL (l.take k)).map Value.string))) (fun _ kk _ => l.length - (intOf kk).toNat)
  case atStart => exact ⟨0, by omega, rfl, hz1, HS1⟩
  case round =>
    obtain ⟨k, hk, rfl, hwz, HS⟩ := hrel
    obtain ⟨A6, c6, rfl, hc6, _⟩ := own_slice' HS.out.2
    by_cases hlt : k < l.length
    · obtain ⟨p, hp⟩ : ∃ p, l[k] = p := ⟨_, rfl⟩
      have HN := Lib.hid (ptsL_succ l hlt)
      rw [hp] at HN
      have hok : okPt p = true := HP.out.2 p (by rw [← hp]; exact List.getElem_mem hlt)
      obtain ⟨A', c', e, hr⟩ := HA.out.below HS.out.1
      cases e
      rcases hr with rfl | ⟨g, rfl, hrow⟩
      · simp at hlt
      obtain ⟨q0, q1⟩ := row_pt hrow hlt
      rw [hp] at q0 q1
      have HSZ := Lib.hid (ptLine_size hok)
      have HOK := Lib.hid (okPt_spec hok)
      obtain ⟨x, y⟩ := p
      dsimp only at q0 q1 HOK
      have hg1 : g < wr.heap.size := hrow.1
      have HP9 := Lib.hid hp
      have CI := Lib.hid (fun (n : Int) (h0 : -500000 ≤ n) (h1 : n ≤ 500000) (u : World) (hu : Below w.heap.size w u) => itoa_any n (by omega) (by omega) u (hGl.below hu hw))
      have CL := Lib.hid (fun (v : Value) (u : World) (h : StrsAt v (ptW (x, y)) u) => line_any (ptW (x, y)) h (by simp [ptW]) (Nat.le_trans (line_len HSZ.out) (by omega)))
      have H6 : Hid (Below w.heap.size w (wr.alloc (.cells #[.int .i64 x, .int .i64 y] 45)) ∧ (wr.alloc (.cells #[.int .i64 x, .int .i64 y] 45)).ownsRow w.heap.size 9 1 (.slice A6 k c6) k ((ptsL (l.take k)).map Value.string) ∧ (wr.alloc (.cells #[.int .i64 x, .int .i64 y] 45)).heap[wr.heap.size]? = some (.cells #[.int .i64 x, .int .i64 y] 45 (0, 0))) :=
        ⟨HS.out.1.alloc hwz _, World.ownsRow.alloc HS.out.2 _, blk_new wr _ rfl⟩
      have i1 : (0 : Int) ≤ (k : Int) := by omega
      have i2 : (k : Int) < (l.length : Int) := by omega
      clear hrow hp HS HS1
      go_upto_region 8 with (fail)
      generalize wr.alloc (.cells #[.int .i64 x, .int .i64 y] 45) = wx at *
      have hxl := lt_of_blk H6.out.2.2
      have hzx := H6.out.1.size
      refine Rg.rgL (fun a b => Below a.heap.size a b)
        [(fun vs u => vs 0 = .slice A6 k c6), (fun vs u => vs 1 = .pointer (some ⟨wr.heap.size, 0, none⟩)), (fun vs u => vs 2 = .int .i64 x), (fun vs u => vs 3 = .string (itB x)), (fun vs u => vs 4 = .pointer (some ⟨wr.heap.size, 1, none⟩)), (fun vs u => vs 5 = .int .i64 y), (fun vs u => vs 6 = .string (itB y)), (fun vs u => ∃ b : Nat, vs 7 = .slice (some ⟨b, 0, none⟩) 2 2 ∧ u.heap[b]? = some (.cells #[.string (itB x), .string (itB y)] 9 (0, 0))), (fun vs u => vs 8 = .string (lineB (ptW (x, y)))), (fun vs u => ∃ b : Nat, vs 9 = .slice (some ⟨b, 0, none⟩) 1 1 ∧ u.heap[b]? = some (.cells #[.string (lineB (ptW (x, y)))] 9 (0, 0)))]
        [[], [], [1], [1, 2], [], [4], [1, 2, 3, 4, 5], [1, 2, 3, 4, 5, 6], [1, 2, 3, 4, 5, 6, 7], [1, 2, 3, 4, 5, 6, 7, 8]] [some 19, some 20, some 21, some 22, some 23, some 24, some 25, some 26, some 27, some 28, some 29, some 5] [7, 9] (fun _ _ => True) [[], [], [1], [1, 2], [], [4], [1, 2, 3, 4, 5], [1, 2, 3, 4, 5, 6], [1, 2, 3, 4, 5, 6, 7], [1, 2, 3, 4, 5, 6, 7, 8], [0, 1, 2, 3, 4, 5, 6, 7, 8, 9], [0, 1, 2, 3, 4, 5, 6, 7, 8, 9, 10]]
        (by kernel_rfl) (by decide) (by kernel_rfl) (by kernel_rfl) (by kernel_rfl) (by kernel_rfl) (by kernel_rfl) (fun _ => Below.refl _ _) (fun _ _ _ h k => h.ext k) (fun _ _ h => h.size) ?_ trivial ?_ ?_
      · intro t ht vs w w' h hE
        simp only [List.mem_cons, List.not_mem_nil, or_false] at ht
        rcases ht with rfl | rfl | rfl | rfl | rfl | rfl | rfl | rfl | rfl | rfl
        · exact h
        · exact h
        · exact h
        · exact h
        · exact h
        · exact h
        · exact h
        · obtain ⟨b, e, k⟩ := h
          exact ⟨b, e, blk_below hE k⟩
        · exact h
        · obtain ⟨b, e, k⟩ := h
          exact ⟨b, e, blk_below hE k⟩
      ·
        refine Rg.cons 0 1 rfl (Rg.plain rfl ?_) ?_
        · intro vs W n hn hI hG hT hF K hK
          simp only [Rg.putsD, List.getD_cons_zero, List.getD_cons_succ, Act.put, List.setIfInBounds_toArray, List.set_cons_zero, List.set_cons_succ] at hK ⊢
          clear hn
          clear hF hI
          have H := Lib.hid hK
          clear hK hT
          go_simp
          exact H.out _ _ (Below.refl _ _) rfl (fun h => by cases h) trivial
        refine Rg.cons 1 2 rfl (Rg.plain rfl ?_) ?_
        · intro vs W n hn hI hG hT hF K hK
          simp only [Rg.putsD, List.getD_cons_zero, List.getD_cons_succ, Act.put, List.setIfInBounds_toArray, List.set_cons_zero, List.set_cons_succ] at hK ⊢
          clear hn
          clear hF hI
          have H := Lib.hid hK
          clear hK hT
          go_simp
          exact H.out _ _ (Below.refl _ _) rfl (fun h => by cases h) trivial
        refine Rg.cons 2 3 rfl (Rg.plain rfl ?_) ?_
        · intro vs W n hn hI hG hT hF K hK
          simp only [Rg.putsD, List.getD_cons_zero, List.getD_cons_succ, Act.put, List.setIfInBounds_toArray, List.set_cons_zero, List.set_cons_succ] at hK ⊢
          clear hn
          clear hF hI
          have t1 : vs 1 = .pointer (some ⟨wr.heap.size, 0, none⟩) := hT 1 (by decide)
          obtain ⟨c0, c1, _, _⟩ := blk2 (blk_below hG H6.out.2.2)
          simp only [t1] at hK
          have H := Lib.hid hK
          clear hK hT
          go_simp
          exact H.out _ _ (Below.refl _ _) rfl (fun h => by cases h) trivial
        refine Rg.cons 3 4 rfl (Rg.plain rfl ?_) ?_
        · intro vs W n hn hI hG hT hF K hK
          simp only [Rg.putsD, List.getD_cons_zero, List.getD_cons_succ, Act.put, List.setIfInBounds_toArray, List.set_cons_zero, List.set_cons_succ] at hK ⊢
          clear hn
          clear hF hI
          have t1 : vs 1 = .pointer (some ⟨wr.heap.size, 0, none⟩) := hT 1 (by decide)
          have t2 : vs 2 = .int .i64 x := hT 2 (by decide)
          have HG := Lib.hid hG
          clear hG
          simp only [t1, t2] at hK
          have H := Lib.hid hK
          clear hK hT
          go_simp
          refine (CI.out x HOK.out.1.1 HOK.out.1.2 _ (H6.out.1.drew.then_below HG.out hzx)).mono ?_
          rintro e w6 ⟨rfl, b6⟩
          exact H.out _ _ b6 rfl (fun h => by cases h) trivial
        refine Rg.cons 4 5 rfl (Rg.plain rfl ?_) ?_
        · intro vs W n hn hI hG hT hF K hK
          simp only [Rg.putsD, List.getD_cons_zero, List.getD_cons_succ, Act.put, List.setIfInBounds_toArray, List.set_cons_zero, List.set_cons_succ] at hK ⊢
          clear hn
          clear hF hI
          have H := Lib.hid hK
          clear hK hT
          go_simp
          exact H.out _ _ (Below.refl _ _) rfl (fun h => by cases h) trivial
        refine Rg.cons 5 6 rfl (Rg.plain rfl ?_) ?_
        · intro vs W n hn hI hG hT hF K hK
          simp only [Rg.putsD, List.getD_cons_zero, List.getD_cons_succ, Act.put, List.setIfInBounds_toArray, List.set_cons_zero, List.set_cons_succ] at hK ⊢
          clear hn
          clear hF hI
          have t4 : vs 4 = .pointer (some ⟨wr.heap.size, 1, none⟩) := hT 4 (by decide)
          obtain ⟨c0, c1, _, _⟩ := blk2 (blk_below hG H6.out.2.2)
          simp only [t4] at hK
          have H := Lib.hid hK
          clear hK hT
          go_simp
          exact H.out _ _ (Below.refl _ _) rfl (fun h => by cases h) trivial
        refine Rg.cons 6 7 rfl (Rg.plain rfl ?_) ?_
        · intro vs W n hn hI hG hT hF K hK
          simp only [Rg.putsD, List.getD_cons_zero, List.getD_cons_succ, Act.put, List.setIfInBounds_toArray, List.set_cons_zero, List.set_cons_succ] at hK ⊢
          clear hn
          clear hF hI
          have t1 : vs 1 = .pointer (some ⟨wr.heap.size, 0, none⟩) := hT 1 (by decide)
          have t2 : vs 2 = .int .i64 x := hT 2 (by decide)
          have t3 : vs 3 = .string (itB x) := hT 3 (by decide)
          have t4 : vs 4 = .pointer (some ⟨wr.heap.size, 1, none⟩) := hT 4 (by decide)
          have t5 : vs 5 = .int .i64 y := hT 5 (by decide)
          have HG := Lib.hid hG
          clear hG
          simp only [t1, t2, t3, t4, t5] at hK
          have H := Lib.hid hK
          clear hK hT
          go_simp
          refine (CI.out y HOK.out.2.1 HOK.out.2.2 _ (H6.out.1.drew.then_below HG.out hzx)).mono ?_
          rintro e w6 ⟨rfl, b6⟩
          exact H.out _ _ b6 rfl (fun h => by cases h) trivial
        refine Rg.cons 7 8 rfl (Rg.plain rfl ?_) ?_
        · intro vs W n hn hI hG hT hF K hK
          simp only [Rg.putsD, List.getD_cons_zero, List.getD_cons_succ, Act.put, List.setIfInBounds_toArray, List.set_cons_zero, List.set_cons_succ] at hK ⊢
          clear hn
          clear hF hI
          have t1 : vs 1 = .pointer (some ⟨wr.heap.size, 0, none⟩) := hT 1 (by decide)
          have t2 : vs 2 = .int .i64 x := hT 2 (by decide)
          have t3 : vs 3 = .string (itB x) := hT 3 (by decide)
          have t4 : vs 4 = .pointer (some ⟨wr.heap.size, 1, none⟩) := hT 4 (by decide)
          have t5 : vs 5 = .int .i64 y := hT 5 (by decide)
          have t6 : vs 6 = .string (itB y) := hT 6 (by decide)
          simp only [t1, t2, t3, t4, t5, t6] at hK
          have H := Lib.hid hK
          clear hK hT
          go_simp
          exact H.out _ _ ((Below.refl _ _).alloc (Nat.le_refl _) _) (show ∃ b : Nat, _ = _ ∧ _ = _ from ⟨_, rfl, blk_new W _ rfl⟩) (fun _ => ⟨W.heap.size, rfl, Nat.le_refl _, by simp⟩) trivial
        refine Rg.cons 8 9 rfl (Rg.plain rfl ?_) ?_
        · intro vs W n hn hI hG hT hF K hK
          simp only [Rg.putsD, List.getD_cons_zero, List.getD_cons_succ, Act.put, List.setIfInBounds_toArray, List.set_cons_zero, List.set_cons_succ] at hK ⊢
          clear hn
          clear hF hI
          have t1 : vs 1 = .pointer (some ⟨wr.heap.size, 0, none⟩) := hT 1 (by decide)
          have t2 : vs 2 = .int .i64 x := hT 2 (by decide)
          have t3 : vs 3 = .string (itB x) := hT 3 (by decide)
          have t4 : vs 4 = .pointer (some ⟨wr.heap.size, 1, none⟩) := hT 4 (by decide)
          have t5 : vs 5 = .int .i64 y := hT 5 (by decide)
          have t6 : vs 6 = .string (itB y) := hT 6 (by decide)
          have t7 : ∃ b : Nat, vs 7 = .slice (some ⟨b, 0, none⟩) 2 2 ∧ W.heap[b]? = some (.cells #[.string (itB x), .string (itB y)] 9 (0, 0)) := hT 7 (by decide)
          obtain ⟨b17, e17, k17⟩ := t7
          simp only [e17] at hK
          have K17 := Lib.hid k17
          clear k17
          simp only [t1, t2, t3, t4, t5, t6] at hK
          have H := Lib.hid hK
          clear hK hT
          go_simp
          refine (CL.out _ _ (strs_blk (ws := ptW (x, y)) K17.out rfl)).mono ?_
          rintro e w6 ⟨rfl, b6⟩
          exact H.out _ _ b6 rfl (fun h => by cases h) trivial
        refine Rg.cons 9 10 rfl (Rg.plain rfl ?_) ?_
        · intro vs W n hn hI hG hT hF K hK
          simp only [Rg.putsD, List.getD_cons_zero, List.getD_cons_succ, Act.put, List.setIfInBounds_toArray, List.set_cons_zero, List.set_cons_succ] at hK ⊢
          clear hn
          clear hF hI
          have t1 : vs 1 = .pointer (some ⟨wr.heap.size, 0, none⟩) := hT 1 (by decide)
          have t2 : vs 2 = .int .i64 x := hT 2 (by decide)
          have t3 : vs 3 = .string (itB x) := hT 3 (by decide)
          have t4 : vs 4 = .pointer (some ⟨wr.heap.size, 1, none⟩) := hT 4 (by decide)
          have t5 : vs 5 = .int .i64 y := hT 5 (by decide)
          have t6 : vs 6 = .string (itB y) := hT 6 (by decide)
          have t7 : ∃ b : Nat, vs 7 = .slice (some ⟨b, 0, none⟩) 2 2 ∧ W.heap[b]? = some (.cells #[.string (itB x), .string (itB y)] 9 (0, 0)) := hT 7 (by decide)
          have t8 : vs 8 = .string (lineB (ptW (x, y))) := hT 8 (by decide)
          simp only [t1, t2, t3, t4, t5, t6, t8] at hK
          have H := Lib.hid hK
          clear hK hT
          go_simp
          exact H.out _ _ ((Below.refl _ _).alloc (Nat.le_refl _) _) (show ∃ b : Nat, _ = _ ∧ _ = _ from ⟨_, rfl, blk_new W _ rfl⟩) (fun _ => ⟨W.heap.size, rfl, Nat.le_refl _, by simp⟩) trivial
        exact Rg.nil
      · intro vs W hG hI hT hF
        have t0 : vs 0 = .slice A6 k c6 := hT 0 (by decide)
        have t1 : vs 1 = .pointer (some ⟨wr.heap.size, 0, none⟩) := hT 1 (by decide)
        have t2 : vs 2 = .int .i64 x := hT 2 (by decide)
        have t3 : vs 3 = .string (itB x) := hT 3 (by decide)
        have t4 : vs 4 = .pointer (some ⟨wr.heap.size, 1, none⟩) := hT 4 (by decide)
        have t5 : vs 5 = .int .i64 y := hT 5 (by decide)
        have t6 : vs 6 = .string (itB y) := hT 6 (by decide)
        have t7 : ∃ b : Nat, vs 7 = .slice (some ⟨b, 0, none⟩) 2 2 ∧ W.heap[b]? = some (.cells #[.string (itB x), .string (itB y)] 9 (0, 0)) := hT 7 (by decide)
        have t8 : vs 8 = .string (lineB (ptW (x, y))) := hT 8 (by decide)
        have t9 : ∃ b : Nat, vs 9 = .slice (some ⟨b, 0, none⟩) 1 1 ∧ W.heap[b]? = some (.cells #[.string (lineB (ptW (x, y)))] 9 (0, 0)) := hT 9 (by decide)
        simp only [List.length_cons, List.length_nil, Nat.reduceAdd, List.range, List.range.loop, List.drop_succ_cons, List.drop_zero, Rg.putsD, List.getD_cons_zero, List.getD_cons_succ, Act.put, List.setIfInBounds_toArray, List.set_cons_zero, List.set_cons_succ, t0, t1, t2, t3, t4, t5, t6, t8]
        clear hT t0 t1 t2 t3 t4 t5 t6 t8
        obtain ⟨bq, e19, k19⟩ := t9
        have H7 : Hid (Below w.heap.size w W ∧ W.ownsRow w.heap.size 9 1 (.slice A6 k c6) k ((ptsL (l.take k)).map Value.string) ∧ W.heap[bq]? = some (.cells #[.string (lineB (ptW (x, y)))] 9 (0, 0))) :=
          ⟨H6.out.1.drew.then_below hG hzx, own_below (w := wx.drew) H6.out.2.1.drew hG, k19⟩
        have E19 := Lib.hid e19
        have hWs : w.heap.size ≤ W.heap.size := H7.out.1.size
        clear hF hI hG e19 k19 t7 H6 hxl
        simp only [E19.out]
        obtain ⟨i0, hi, hz0, hz1', hz2⟩ := info_parts str_infoT
        have HI := Lib.hid (And.intro hi (And.intro hz0 (And.intro hz1' hz2)))
        clear hi hz0 hz1' hz2
        refine wpList_append_own _ rfl _ _ 58 rfl w.heap.size 9 i0 _ 1 16 Tryz.underlying58 HI.out.1 HI.out.2.1 HI.out.2.2.1 HI.out.2.2.2 rfl (by omega) _ k ((ptsL (l.take k)).map Value.string) rfl H7.out.2.1 ⟨bq, 0, none⟩ 1 1 [.string (lineB (ptW (x, y)))] rfl rfl ?c1 (by intro u hu; simp at hu; subst hu; rfl) ?c2 ?c3 hWs ?_
        case c1 =>
          intro j u hu
          rw [addr_new, cell_of_blk H7.out.2.2]
          simpa using hu
        case c2 => unfold maxLen; omega
        case c3 => omega
        intro v' w8 hown' hg' _
        have HF8 : Hid (Below w.heap.size w w8 ∧ w8.ownsRow w.heap.size 9 1 v' (k + 1) ((ptsL (l.take (k + 1))).map Value.string)) := by
          refine ⟨H7.out.1.grown hg' hWs (fun j hj => (H7.out.2.1.lt j hj).1), ?_⟩
          rw [HN.out, List.map_append]
          exact hown'
        have hz8 := HF8.out.1.size
        clear hown' hg' H7 HN
        go_wp2_with fail
        go_roundw
        case rel => exact ⟨k + 1, by omega, by go_num, hz8, HF8⟩
        case measure => simp [intOf]; omega
    · obtain rfl : k = l.length := by omega
      have HS9 := HS.out.2
      rw [List.take_of_length_le (Nat.le_refl _)] at HS9
      have hts := ptsB_size HP.out.2 hl5
      have CT := Lib.hid (text_any (ptsL l) (strs_own HS9 (by simp [ptsL])) (by simp [ptsL]; omega) (by
        have h1 := hts
        unfold ptsB at h1
        rw [← bt_size, bt_joinB] at h1
        exact Nat.le_trans h1 (by omega)))
      have hts2 : ¬ 200000 < (joinB (ptsL l) dS).size := Nat.not_lt.mpr (Nat.le_trans hts (by omega))
      rw [if_neg hts2, if_neg hts2] at CT
      rw [show joinB (ptsL l) dS = ptsB l from rfl] at CT
      have HB := Lib.hid HS.out.1
      clear HS HS9 HS1 hts hts2
      go_wp2_with fail
      refine CT.out.mono ?_
      rintro e w9 ⟨rfl, b9⟩
      have HB9 := Lib.hid (HB.out.then_below b9 HB.out.size)
      clear b9
      go_wp2_with fail
      refine bodyPost_ret (v := .tuple #[.string (ptsB l), .int .i64 0]) (by unfold results; simp only [Tryz.results23]; go_simp) rfl ⟨rfl, HB9.out⟩
end Go.Proofs.YtbkbjljkfhahbaaGreatDoor
