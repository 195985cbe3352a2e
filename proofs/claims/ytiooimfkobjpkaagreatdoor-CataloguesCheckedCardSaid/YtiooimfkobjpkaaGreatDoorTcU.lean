/-
  The program writes catalogues.
-/
import Derived.Test.YtiooimfkobjpkaaGreatDoorTcT
namespace Go.Proofs.YtiooimfkobjpkaaGreatDoor
open Go.RowKit
set_option linter.unusedSimpArgs false
set_option linter.unusedVariables false

set_option maxRecDepth 100000 in
set_option maxHeartbeats 16000000 in
theorem catText_any (l : List Pa) (hl : l.length ≤ 100) (hk : ∀ p ∈ l, p.key.size ≤ maxLen ∧ p.pk.size ≤ maxLen) (al : List Al) (ha : al.length ≤ 900) (hz : ∀ a ∈ al, a.par.size ≤ maxLen ∧ a.by_.size ≤ maxLen) {pv av : Value} (w : World) (h1 : Reads encPa pv l w) (h2 : Reads encAl av al w) (hGl : Gl w) (hw : gLow ≤ w.heap.size) :
    Calls Tryz.prog 7 #[.agg #[pv, av]] w fun e w' => e = .returned (.tuple #[.string (if catErr l al = 0 then catB l al else dS), .int .i64 (catErr l al)]) ∧ Below w.heap.size w w' := by
  have CX := Lib.hid (fun (W : World) (h1 : Reads encPa pv l W) (h2 : Reads encAl av al W) => checkCat_any l (by omega) hk al (by omega) hz h1 h2)
  have HF := Lib.hid (fun (h : catErr l al = 0) => catErr_fit h)
  have HR1 := Lib.hid h1
  have HR2 := Lib.hid h2
  obtain ⟨Ap, cp, rfl, _⟩ := h1
  obtain ⟨Aa, ca, rfl, _⟩ := h2
  clear hk hz
  generalize catErr l al = E at *
  obtain ⟨R, hR⟩ : ∃ R, (if E = 0 then catB l al else dS) = R := ⟨_, rfl⟩
  rw [hR]
  have HRR := Lib.hid hR
  clear hR
  have H0 : Hid (CT w (.slice Ap l.length cp) (.slice Aa al.length ca) (w.alloc (.cells #[.slice Ap l.length cp, .slice Aa al.length ca] 29))) := ⟨(Below.refl _ _).alloc (Nat.le_refl _) _, blk_new w _ rfl⟩
  go_enter Tryz.func7, Tryz.ntmps7
  go_upto_region 1 with (fail)
  generalize w.alloc (.cells #[.slice Ap l.length cp, .slice Aa al.length ca] 29) = w0 at *
  obtain ⟨c0, c1, _, _⟩ := blk2 H0.out.k0
  have hgl := lt_of_blk H0.out.k0
  go_wp2_with fail
  refine (CX.out w0 (HR1.out.below H0.out.bel) (HR2.out.below H0.out.bel)).mono ?_
  rintro e w1 ⟨rfl, b1⟩
  have H1 := Lib.hid (H0.out.below b1)
  clear b1 H0 c0 c1 hgl CX
  by_cases hE : E = 0
  rotate_left
  · have HRS : Hid (R = ⟨#[]⟩) := HRR.out.symm.trans (if_neg hE)
    have hne2 : (E != 0) = true := by simpa using hE
    go_wp2_with fail
    refine bodyPost_ret (v := .tuple #[.string ⟨#[]⟩, .int .i64 E]) (by unfold results; simp only [Tryz.results7]; go_simp) rfl ⟨by rw [HRS.out], H1.out.bel⟩
  subst hE
  have HRS : Hid (R = catB l al) := HRR.out.symm.trans (if_pos rfl)
  clear HRR
  have HP := Lib.hid (HF.out rfl)
  clear HF
  obtain ⟨c0, c1, _, _⟩ := blk2 H1.out.k0
  have hgl := lt_of_blk H1.out.k0
  go_wp2_with fail
  clear c0 c1 hgl
  have HS1 : Hid (CT w (.slice Ap l.length cp) (.slice Aa al.length ca) w1 ∧ w1.ownsRow (w.heap.size + 1) 9 1 (.slice none 0 0) 0 ((catL (l.take 0) []).map Value.string)) := ⟨H1.out, World.ownsRow_nil _ _ _ _⟩
  have hz1 := H1.out.bel.size
  clear H1
  go_loopw [5, 19] (fun v5 kk wr => ∃ k : Nat, k ≤ l.length ∧ kk = .int .i64 k ∧ w.heap.size ≤ wr.heap.size ∧ Hid (CT w (.slice Ap l.length cp) (.slice Aa al.length ca) wr ∧ wr.ownsRow (w.heap.size + 1) 9 1 v5 k ((catL (l.take k) []).map Value.string))) (fun _ kk _ => l.length - (intOf kk).toNat)
  case atStart => exact ⟨0, by omega, rfl, hz1, HS1⟩
  case round =>
    obtain ⟨k, hk, rfl, hwz, HS⟩ := hrel
    clear HS1
    obtain ⟨A6, c6, rfl, hc6, _⟩ := own_slice' HS.out.2
    by_cases hlt : k < l.length
    · obtain ⟨p, hp⟩ : ∃ p, l[k] = p := ⟨_, rfl⟩
      have HN := Lib.hid (catL_part l hlt)
      rw [hp] at HN
      have hok : PaFit p := HP.out.1 p (by rw [← hp]; exact List.getElem_mem hlt)
      obtain ⟨A', c', e, hr⟩ := HR1.out.below HS.out.1.bel
      cases e
      rcases hr with rfl | ⟨g, rfl, hrow⟩
      · simp at hlt
      obtain ⟨q0, q1, q2, q3⟩ := row_pa hrow hlt
      rw [hp] at q0 q1 q2 q3
      have HSZ := Lib.hid (partLine_size hok)
      have HOK := Lib.hid hok
      clear hok
      obtain ⟨key, pk, lv, bk⟩ := p
      dsimp only at q0 q1 q2 q3
      have hg1 : g < wr.heap.size := hrow.1
      have HP9 := Lib.hid hp
      have CI := Lib.hid (fun (n : Int) (h0 : -500000 ≤ n) (h1 : n ≤ 720000000) (u : World) (hu : Below w.heap.size w u) => itoa_any n (by omega) (by omega) u (hGl.below hu hw))
      have CL := Lib.hid (fun (v : Value) (u : World) (h : StrsAt v (partW ⟨key, pk, lv, bk⟩) u) => line_any (partW ⟨key, pk, lv, bk⟩) h (by simp [partW]) (Nat.le_trans (line_len HSZ.out) (by omega)))
      have HL1 : Hid (0 ≤ lv ∧ lv ≤ 6 ∧ 0 ≤ bk ∧ bk ≤ 720000000) := ⟨by have := HOK.out.lv.1; dsimp only at this; omega, HOK.out.lv.2, HOK.out.bk.1, HOK.out.bk.2⟩
      have H6 : Hid (CF w (.slice (some ⟨g, 0, none⟩) l.length cp) (.slice Aa al.length ca) wr.heap.size #[.string key, .string pk, .int .i64 lv, .int .i64 bk] 47 (wr.alloc (.cells #[.string key, .string pk, .int .i64 lv, .int .i64 bk] 47)) ∧ (wr.alloc (.cells #[.string key, .string pk, .int .i64 lv, .int .i64 bk] 47)).ownsRow (w.heap.size + 1) 9 1 (.slice A6 k c6) k ((catL (l.take k) []).map Value.string)) :=
        ⟨⟨HS.out.1.below ((Below.refl _ _).alloc (Nat.le_refl _) _), blk_new wr _ rfl⟩, World.ownsRow.alloc HS.out.2 _⟩
      have i1 : (0 : Int) ≤ (k : Int) := by omega
      have i2 : (k : Int) < (l.length : Int) := by omega
      clear hrow hp HS
      go_upto_region 8 with (fail)
      generalize wr.alloc (.cells #[.string key, .string pk, .int .i64 lv, .int .i64 bk] 47) = wx at *
      generalize wr.heap.size = gp at *
      have hxl := lt_of_blk H6.out.1.kp
      have hzx := H6.out.1.ct.bel.size
      clear q0 q1 q2 q3 hg1
      refine Rg.rgL (fun a b => Below a.heap.size a b)
        [(fun vs u => vs 0 = .slice A6 k c6), (fun vs u => vs 1 = .pointer (some ⟨gp, 0, none⟩)), (fun vs u => vs 2 = .string key), (fun vs u => vs 3 = .pointer (some ⟨gp, 1, none⟩)), (fun vs u => vs 4 = .string pk), (fun vs u => vs 5 = .pointer (some ⟨gp, 2, none⟩)), (fun vs u => vs 6 = .int .i64 lv), (fun vs u => vs 7 = .string (itB lv)), (fun vs u => vs 8 = .pointer (some ⟨gp, 3, none⟩)), (fun vs u => vs 9 = .int .i64 bk), (fun vs u => vs 10 = .string (itB bk)), (fun vs u => ∃ b : Nat, vs 11 = .slice (some ⟨b, 0, none⟩) 5 5 ∧ u.heap[b]? = some (.cells #[.string dPart, .string key, .string pk, .string (itB lv), .string (itB bk)] 9 (0, 0))), (fun vs u => vs 12 = .string (lineB (partW ⟨key, pk, lv, bk⟩))), (fun vs u => ∃ b : Nat, vs 13 = .slice (some ⟨b, 0, none⟩) 1 1 ∧ u.heap[b]? = some (.cells #[.string (lineB (partW ⟨key, pk, lv, bk⟩))] 9 (0, 0)))]
        [[], [], [1], [], [3], [], [5], [5, 6], [], [8], [5, 6, 7, 8, 9], [1, 2, 3, 4, 5, 6, 7, 8, 9, 10], [1, 2, 3, 4, 5, 6, 7, 8, 9, 10, 11], [1, 2, 3, 4, 5, 6, 7, 8, 9, 10, 11, 12]] [some 23, some 24, some 25, some 26, some 27, some 28, some 29, some 30, some 31, some 32, some 33, some 34, some 35, some 36, some 37, some 5] [11, 13] (fun _ _ => True) [[], [], [1], [], [3], [], [5], [5, 6], [], [8], [5, 6, 7, 8, 9], [1, 2, 3, 4, 5, 6, 7, 8, 9, 10], [1, 2, 3, 4, 5, 6, 7, 8, 9, 10, 11], [1, 2, 3, 4, 5, 6, 7, 8, 9, 10, 11, 12], [0, 1, 2, 3, 4, 5, 6, 7, 8, 9, 10, 11, 12, 13], [0, 1, 2, 3, 4, 5, 6, 7, 8, 9, 10, 11, 12, 13, 14]]
        (by kernel_rfl) (by decide) (by kernel_rfl) (by kernel_rfl) (by kernel_rfl) (by kernel_rfl) (by kernel_rfl) (fun _ => Below.refl _ _) (fun _ _ _ h k => h.ext k) (fun _ _ h => h.size) ?_ trivial ?_ ?_
      · intro t ht vs w w' h hE
        simp only [List.mem_cons, List.not_mem_nil, or_false] at ht
        rcases ht with rfl | rfl | rfl | rfl | rfl | rfl | rfl | rfl | rfl | rfl | rfl | rfl | rfl | rfl
        · exact h
        · exact h
        · exact h
        · exact h
        · exact h
        · exact h
        · exact h
        · exact h
        · exact h
        · exact h
        · exact h
        · obtain ⟨b, e, k⟩ := h
          exact ⟨b, e, blk_below hE k⟩
        · exact h
        · obtain ⟨b, e, k⟩ := h
          exact ⟨b, e, blk_below hE k⟩
      ·
        refine Rg.cons 0 1 rfl (Rg.plain rfl ?_) ?_
        · intro vs W n hn hI hG hT hF K hK
          simp only [Rg.putsD, List.getD_cons_zero, List.getD_cons_succ, Act.put, List.setIfInBounds_toArray, List.set_cons_zero, List.set_cons_succ] at hK ⊢
          clear hn
          clear hF hI
          have H := Lib.hid hK
          clear hK hT
          go_simp
          exact H.out _ _ (Below.refl _ _) rfl (fun h => by cases h) trivial
        refine Rg.cons 1 2 rfl (Rg.plain rfl ?_) ?_
        · intro vs W n hn hI hG hT hF K hK
          simp only [Rg.putsD, List.getD_cons_zero, List.getD_cons_succ, Act.put, List.setIfInBounds_toArray, List.set_cons_zero, List.set_cons_succ] at hK ⊢
          clear hn
          clear hF hI
          have H := Lib.hid hK
          clear hK hT
          go_simp
          exact H.out _ _ (Below.refl _ _) rfl (fun h => by cases h) trivial
        refine Rg.cons 2 3 rfl (Rg.plain rfl ?_) ?_
        · intro vs W n hn hI hG hT hF K hK
          simp only [Rg.putsD, List.getD_cons_zero, List.getD_cons_succ, Act.put, List.setIfInBounds_toArray, List.set_cons_zero, List.set_cons_succ] at hK ⊢
          clear hn
          clear hF hI
          have t1 : vs 1 = .pointer (some ⟨gp, 0, none⟩) := hT 1 (by decide)
          obtain ⟨c0, c1, c2, c3⟩ := blk4 (blk_below hG H6.out.1.kp)
          simp only [t1] at hK
          have H := Lib.hid hK
          clear hK hT
          go_simp
          exact H.out _ _ (Below.refl _ _) rfl (fun h => by cases h) trivial
        refine Rg.cons 3 4 rfl (Rg.plain rfl ?_) ?_
        · intro vs W n hn hI hG hT hF K hK
          simp only [Rg.putsD, List.getD_cons_zero, List.getD_cons_succ, Act.put, List.setIfInBounds_toArray, List.set_cons_zero, List.set_cons_succ] at hK ⊢
          clear hn
          clear hF hI
          have H := Lib.hid hK
          clear hK hT
          go_simp
          exact H.out _ _ (Below.refl _ _) rfl (fun h => by cases h) trivial
        refine Rg.cons 4 5 rfl (Rg.plain rfl ?_) ?_
        · intro vs W n hn hI hG hT hF K hK
          simp only [Rg.putsD, List.getD_cons_zero, List.getD_cons_succ, Act.put, List.setIfInBounds_toArray, List.set_cons_zero, List.set_cons_succ] at hK ⊢
          clear hn
          clear hF hI
          have t3 : vs 3 = .pointer (some ⟨gp, 1, none⟩) := hT 3 (by decide)
          obtain ⟨c0, c1, c2, c3⟩ := blk4 (blk_below hG H6.out.1.kp)
          simp only [t3] at hK
          have H := Lib.hid hK
          clear hK hT
          go_simp
          exact H.out _ _ (Below.refl _ _) rfl (fun h => by cases h) trivial
        refine Rg.cons 5 6 rfl (Rg.plain rfl ?_) ?_
        · intro vs W n hn hI hG hT hF K hK
          simp only [Rg.putsD, List.getD_cons_zero, List.getD_cons_succ, Act.put, List.setIfInBounds_toArray, List.set_cons_zero, List.set_cons_succ] at hK ⊢
          clear hn
          clear hF hI
          have H := Lib.hid hK
          clear hK hT
          go_simp
          exact H.out _ _ (Below.refl _ _) rfl (fun h => by cases h) trivial
        refine Rg.cons 6 7 rfl (Rg.plain rfl ?_) ?_
        · intro vs W n hn hI hG hT hF K hK
          simp only [Rg.putsD, List.getD_cons_zero, List.getD_cons_succ, Act.put, List.setIfInBounds_toArray, List.set_cons_zero, List.set_cons_succ] at hK ⊢
          clear hn
          clear hF hI
          have t5 : vs 5 = .pointer (some ⟨gp, 2, none⟩) := hT 5 (by decide)
          obtain ⟨c0, c1, c2, c3⟩ := blk4 (blk_below hG H6.out.1.kp)
          simp only [t5] at hK
          have H := Lib.hid hK
          clear hK hT
          go_simp
          exact H.out _ _ (Below.refl _ _) rfl (fun h => by cases h) trivial
        refine Rg.cons 7 8 rfl (Rg.plain rfl ?_) ?_
        · intro vs W n hn hI hG hT hF K hK
          simp only [Rg.putsD, List.getD_cons_zero, List.getD_cons_succ, Act.put, List.setIfInBounds_toArray, List.set_cons_zero, List.set_cons_succ] at hK ⊢
          clear hn
          clear hF hI
          have t5 : vs 5 = .pointer (some ⟨gp, 2, none⟩) := hT 5 (by decide)
          have t6 : vs 6 = .int .i64 lv := hT 6 (by decide)
          have HG := Lib.hid hG
          clear hG
          simp only [t5, t6] at hK
          have H := Lib.hid hK
          clear hK hT
          go_simp
          refine (CI.out lv (by have := HL1.out.1; omega) (by have := HL1.out.2.1; omega) _ (H6.out.1.ct.bel.drew.then_below HG.out hzx)).mono ?_
          rintro e w6 ⟨rfl, b6⟩
          exact H.out _ _ b6 rfl (fun h => by cases h) trivial
        refine Rg.cons 8 9 rfl (Rg.plain rfl ?_) ?_
        · intro vs W n hn hI hG hT hF K hK
          simp only [Rg.putsD, List.getD_cons_zero, List.getD_cons_succ, Act.put, List.setIfInBounds_toArray, List.set_cons_zero, List.set_cons_succ] at hK ⊢
          clear hn
          clear hF hI
          have H := Lib.hid hK
          clear hK hT
          go_simp
          exact H.out _ _ (Below.refl _ _) rfl (fun h => by cases h) trivial
        refine Rg.cons 9 10 rfl (Rg.plain rfl ?_) ?_
        · intro vs W n hn hI hG hT hF K hK
          simp only [Rg.putsD, List.getD_cons_zero, List.getD_cons_succ, Act.put, List.setIfInBounds_toArray, List.set_cons_zero, List.set_cons_succ] at hK ⊢
          clear hn
          clear hF hI
          have t8 : vs 8 = .pointer (some ⟨gp, 3, none⟩) := hT 8 (by decide)
          obtain ⟨c0, c1, c2, c3⟩ := blk4 (blk_below hG H6.out.1.kp)
          simp only [t8] at hK
          have H := Lib.hid hK
          clear hK hT
          go_simp
          exact H.out _ _ (Below.refl _ _) rfl (fun h => by cases h) trivial
        refine Rg.cons 10 11 rfl (Rg.plain rfl ?_) ?_
        · intro vs W n hn hI hG hT hF K hK
          simp only [Rg.putsD, List.getD_cons_zero, List.getD_cons_succ, Act.put, List.setIfInBounds_toArray, List.set_cons_zero, List.set_cons_succ] at hK ⊢
          clear hn
          clear hF hI
          have t5 : vs 5 = .pointer (some ⟨gp, 2, none⟩) := hT 5 (by decide)
          have t6 : vs 6 = .int .i64 lv := hT 6 (by decide)
          have t7 : vs 7 = .string (itB lv) := hT 7 (by decide)
          have t8 : vs 8 = .pointer (some ⟨gp, 3, none⟩) := hT 8 (by decide)
          have t9 : vs 9 = .int .i64 bk := hT 9 (by decide)
          have HG := Lib.hid hG
          clear hG
          simp only [t5, t6, t7, t8, t9] at hK
          have H := Lib.hid hK
          clear hK hT
          go_simp
          refine (CI.out bk (by have := HL1.out.2.2.1; omega) HL1.out.2.2.2 _ (H6.out.1.ct.bel.drew.then_below HG.out hzx)).mono ?_
          rintro e w6 ⟨rfl, b6⟩
          exact H.out _ _ b6 rfl (fun h => by cases h) trivial
        refine Rg.cons 11 12 rfl (Rg.plain rfl ?_) ?_
        · intro vs W n hn hI hG hT hF K hK
          simp only [Rg.putsD, List.getD_cons_zero, List.getD_cons_succ, Act.put, List.setIfInBounds_toArray, List.set_cons_zero, List.set_cons_succ] at hK ⊢
          clear hn
          clear hF hI
          have t1 : vs 1 = .pointer (some ⟨gp, 0, none⟩) := hT 1 (by decide)
          have t2 : vs 2 = .string key := hT 2 (by decide)
          have t3 : vs 3 = .pointer (some ⟨gp, 1, none⟩) := hT 3 (by decide)
          have t4 : vs 4 = .string pk := hT 4 (by decide)
          have t5 : vs 5 = .pointer (some ⟨gp, 2, none⟩) := hT 5 (by decide)
          have t6 : vs 6 = .int .i64 lv := hT 6 (by decide)
          have t7 : vs 7 = .string (itB lv) := hT 7 (by decide)
          have t8 : vs 8 = .pointer (some ⟨gp, 3, none⟩) := hT 8 (by decide)
          have t9 : vs 9 = .int .i64 bk := hT 9 (by decide)
          have t10 : vs 10 = .string (itB bk) := hT 10 (by decide)
          simp only [t1, t2, t3, t4, t5, t6, t7, t8, t9, t10] at hK
          have H := Lib.hid hK
          clear hK hT
          go_simp
          exact H.out _ _ ((Below.refl _ _).alloc (Nat.le_refl _) _) (show ∃ b : Nat, _ = _ ∧ _ = _ from ⟨_, rfl, blk_new W _ rfl⟩) (fun _ => ⟨W.heap.size, rfl, Nat.le_refl _, by simp⟩) trivial
        refine Rg.cons 12 13 rfl (Rg.plain rfl ?_) ?_
        · intro vs W n hn hI hG hT hF K hK
          simp only [Rg.putsD, List.getD_cons_zero, List.getD_cons_succ, Act.put, List.setIfInBounds_toArray, List.set_cons_zero, List.set_cons_succ] at hK ⊢
          clear hn
          clear hF hI
          have t1 : vs 1 = .pointer (some ⟨gp, 0, none⟩) := hT 1 (by decide)
          have t2 : vs 2 = .string key := hT 2 (by decide)
          have t3 : vs 3 = .pointer (some ⟨gp, 1, none⟩) := hT 3 (by decide)
          have t4 : vs 4 = .string pk := hT 4 (by decide)
          have t5 : vs 5 = .pointer (some ⟨gp, 2, none⟩) := hT 5 (by decide)
          have t6 : vs 6 = .int .i64 lv := hT 6 (by decide)
          have t7 : vs 7 = .string (itB lv) := hT 7 (by decide)
          have t8 : vs 8 = .pointer (some ⟨gp, 3, none⟩) := hT 8 (by decide)
          have t9 : vs 9 = .int .i64 bk := hT 9 (by decide)
          have t10 : vs 10 = .string (itB bk) := hT 10 (by decide)
          have t11 : ∃ b : Nat, vs 11 = .slice (some ⟨b, 0, none⟩) 5 5 ∧ W.heap[b]? = some (.cells #[.string dPart, .string key, .string pk, .string (itB lv), .string (itB bk)] 9 (0, 0)) := hT 11 (by decide)
          obtain ⟨b17, e17, k17⟩ := t11
          simp only [e17] at hK
          have K17 := Lib.hid k17
          clear k17
          simp only [t1, t2, t3, t4, t5, t6, t7, t8, t9, t10] at hK
          have H := Lib.hid hK
          clear hK hT
          go_simp
          refine (CL.out _ _ (strs_blk (ws := partW ⟨key, pk, lv, bk⟩) K17.out rfl)).mono ?_
          rintro e w6 ⟨rfl, b6⟩
          exact H.out _ _ b6 rfl (fun h => by cases h) trivial
        refine Rg.cons 13 14 rfl (Rg.plain rfl ?_) ?_
        · intro vs W n hn hI hG hT hF K hK
          simp only [Rg.putsD, List.getD_cons_zero, List.getD_cons_succ, Act.put, List.setIfInBounds_toArray, List.set_cons_zero, List.set_cons_succ] at hK ⊢
          clear hn
          clear hF hI
          have t1 : vs 1 = .pointer (some ⟨gp, 0, none⟩) := hT 1 (by decide)
          have t2 : vs 2 = .string key := hT 2 (by decide)
          have t3 : vs 3 = .pointer (some ⟨gp, 1, none⟩) := hT 3 (by decide)
          have t4 : vs 4 = .string pk := hT 4 (by decide)
          have t5 : vs 5 = .pointer (some ⟨gp, 2, none⟩) := hT 5 (by decide)
          have t6 : vs 6 = .int .i64 lv := hT 6 (by decide)
          have t7 : vs 7 = .string (itB lv) := hT 7 (by decide)
          have t8 : vs 8 = .pointer (some ⟨gp, 3, none⟩) := hT 8 (by decide)
          have t9 : vs 9 = .int .i64 bk := hT 9 (by decide)
          have t10 : vs 10 = .string (itB bk) := hT 10 (by decide)
          have t11 : ∃ b : Nat, vs 11 = .slice (some ⟨b, 0, none⟩) 5 5 ∧ W.heap[b]? = some (.cells #[.string dPart, .string key, .string pk, .string (itB lv), .string (itB bk)] 9 (0, 0)) := hT 11 (by decide)
          have t12 : vs 12 = .string (lineB (partW ⟨key, pk, lv, bk⟩)) := hT 12 (by decide)
          simp only [t1, t2, t3, t4, t5, t6, t7, t8, t9, t10, t12] at hK
          have H := Lib.hid hK
          clear hK hT
          go_simp
          exact H.out _ _ ((Below.refl _ _).alloc (Nat.le_refl _) _) (show ∃ b : Nat, _ = _ ∧ _ = _ from ⟨_, rfl, blk_new W _ rfl⟩) (fun _ => ⟨W.heap.size, rfl, Nat.le_refl _, by simp⟩) trivial
        exact Rg.nil
      · intro vs W hG hI hT hF
        have t0 : vs 0 = .slice A6 k c6 := hT 0 (by decide)
        have t1 : vs 1 = .pointer (some ⟨gp, 0, none⟩) := hT 1 (by decide)
        have t2 : vs 2 = .string key := hT 2 (by decide)
        have t3 : vs 3 = .pointer (some ⟨gp, 1, none⟩) := hT 3 (by decide)
        have t4 : vs 4 = .string pk := hT 4 (by decide)
        have t5 : vs 5 = .pointer (some ⟨gp, 2, none⟩) := hT 5 (by decide)
        have t6 : vs 6 = .int .i64 lv := hT 6 (by decide)
        have t7 : vs 7 = .string (itB lv) := hT 7 (by decide)
        have t8 : vs 8 = .pointer (some ⟨gp, 3, none⟩) := hT 8 (by decide)
        have t9 : vs 9 = .int .i64 bk := hT 9 (by decide)
        have t10 : vs 10 = .string (itB bk) := hT 10 (by decide)
        have t11 : ∃ b : Nat, vs 11 = .slice (some ⟨b, 0, none⟩) 5 5 ∧ W.heap[b]? = some (.cells #[.string dPart, .string key, .string pk, .string (itB lv), .string (itB bk)] 9 (0, 0)) := hT 11 (by decide)
        have t12 : vs 12 = .string (lineB (partW ⟨key, pk, lv, bk⟩)) := hT 12 (by decide)
        have t13 : ∃ b : Nat, vs 13 = .slice (some ⟨b, 0, none⟩) 1 1 ∧ W.heap[b]? = some (.cells #[.string (lineB (partW ⟨key, pk, lv, bk⟩))] 9 (0, 0)) := hT 13 (by decide)
        simp only [List.length_cons, List.length_nil, Nat.reduceAdd, List.range, List.range.loop, List.drop_succ_cons, List.drop_zero, Rg.putsD, List.getD_cons_zero, List.getD_cons_succ, Act.put, List.setIfInBounds_toArray, List.set_cons_zero, List.set_cons_succ, t0, t1, t2, t3, t4, t5, t6, t7, t8, t9, t10, t12]
        clear hT t0 t1 t2 t3 t4 t5 t6 t7 t8 t9 t10 t12
        obtain ⟨bq, e19, k19⟩ := t13
        have H7 : Hid (CT w (.slice (some ⟨g, 0, none⟩) l.length cp) (.slice Aa al.length ca) W ∧ W.ownsRow (w.heap.size + 1) 9 1 (.slice A6 k c6) k ((catL (l.take k) []).map Value.string) ∧ W.heap[bq]? = some (.cells #[.string (lineB (partW ⟨key, pk, lv, bk⟩))] 9 (0, 0))) :=
          ⟨H6.out.1.ct.below ((Below.refl _ _).drew.ext hG), own_below (w := wx.drew) H6.out.2.drew hG, k19⟩
        have E19 := Lib.hid e19
        have hWs : w.heap.size + 1 ≤ W.heap.size := lt_of_blk H7.out.1.k0
        clear hF hI hG e19 k19 t11 H6 hxl
        simp only [E19.out]
        obtain ⟨i0, hi, hz0, hz1', hz2⟩ := info_parts str_infoT
        have HI := Lib.hid (And.intro hi (And.intro hz0 (And.intro hz1' hz2)))
        clear hi hz0 hz1' hz2
        refine wpList_append_own _ rfl _ _ 42 rfl (w.heap.size + 1) 9 i0 _ 1 16 Tryz.underlying42 HI.out.1 HI.out.2.1 HI.out.2.2.1 HI.out.2.2.2 rfl (by omega) _ k ((catL (l.take k) []).map Value.string) rfl H7.out.2.1 ⟨bq, 0, none⟩ 1 1 [.string (lineB (partW ⟨key, pk, lv, bk⟩))] rfl rfl ?c1 (by intro u hu; simp at hu; subst hu; rfl) ?c2 ?c3 hWs ?_
        case c1 =>
          intro j u hu
          rw [addr_new, cell_of_blk H7.out.2.2]
          simpa using hu
        case c2 => unfold maxLen; omega
        case c3 => omega
        intro v' w8 hown' hg' _
        have HF8 : Hid (CT w (.slice (some ⟨g, 0, none⟩) l.length cp) (.slice Aa al.length ca) w8 ∧ w8.ownsRow (w.heap.size + 1) 9 1 v' (k + 1) ((catL (l.take (k + 1)) []).map Value.string)) := by
          refine ⟨⟨H7.out.1.bel.grown hg' (by omega) (fun j hj => by have := own_row H7.out.2.1 j hj; omega), (hg'.block w.heap.size (by omega) (fun e => by have := own_row H7.out.2.1 _ e.symm; omega)).trans H7.out.1.k0⟩, ?_⟩
          rw [HN.out, List.map_append]
          exact hown'
        have hz8 := HF8.out.1.bel.size
        clear hown' hg' H7 HN
        go_wp2_with fail
        go_roundw
        case rel => exact ⟨k + 1, by omega, by go_num, hz8, HF8⟩
        case measure => simp [intOf]; omega
    · obtain rfl : k = l.length := by omega
      obtain ⟨c0, c1, _, _⟩ := blk2 HS.out.1.k0
      have hgl := lt_of_blk HS.out.1.k0
      go_wp2_with fail
      clear c0 c1 hgl
      have HS1 : Hid (CT w (.slice Ap l.length cp) (.slice Aa al.length ca) wr ∧ wr.ownsRow (w.heap.size + 1) 9 1 (.slice A6 l.length c6) (l.length + 0) ((catL l (al.take 0)).map Value.string)) := by
        refine ⟨HS.out.1, ?_⟩
        have h := HS.out.2
        rw [List.take_length] at h
        exact h
      clear HS
      go_loopw [5, 42] (fun v5 kk wr => ∃ k : Nat, k ≤ al.length ∧ kk = .int .i64 k ∧ w.heap.size ≤ wr.heap.size ∧ Hid (CT w (.slice Ap l.length cp) (.slice Aa al.length ca) wr ∧ wr.ownsRow (w.heap.size + 1) 9 1 v5 (l.length + k) ((catL l (al.take k)).map Value.string))) (fun _ kk _ => al.length - (intOf kk).toNat)
      case atStart => exact ⟨0, by omega, rfl, hwz, HS1⟩
      case round =>
        obtain ⟨k, hk, rfl, hwz, HS⟩ := hrel
        clear HS1
        obtain ⟨A6, c6, rfl, hc6, _⟩ := own_slice' HS.out.2
        by_cases hlt : k < al.length
        · have HN := Lib.hid (catL_alt l al hlt)
          have HSZ := Lib.hid (altLine_size (HP.out.2 al[k] (List.getElem_mem hlt)))
          obtain ⟨A', c', e, hr⟩ := HR2.out.below HS.out.1.bel
          cases e
          rcases hr with rfl | ⟨g, rfl, hrow⟩
          · simp at hlt
          obtain ⟨q0, q1, q2⟩ := row_al hrow hlt
          have hg1 : g < wr.heap.size := hrow.1
          clear hrow
          generalize al[k] = a at *
          obtain ⟨par, by_, both⟩ := a
          dsimp only at q0 q1 q2
          have CL := Lib.hid (fun (v : Value) (u : World) (h : StrsAt v (altW ⟨par, by_, both⟩) u) => line_any (altW ⟨par, by_, both⟩) h (by simp [altW]) (Nat.le_trans (line_len HSZ.out) (by omega)))
          have H6 : Hid (CF w (.slice Ap l.length cp) (.slice (some ⟨g, 0, none⟩) al.length ca) wr.heap.size #[.string par, .string by_, .bool both] 51 (wr.alloc (.cells #[.string par, .string by_, .bool both] 51)) ∧ (wr.alloc (.cells #[.string par, .string by_, .bool both] 51)).ownsRow (w.heap.size + 1) 9 1 (.slice A6 (l.length + k) c6) (l.length + k) ((catL l (al.take k)).map Value.string)) :=
            ⟨⟨HS.out.1.below ((Below.refl _ _).alloc (Nat.le_refl _) _), blk_new wr _ rfl⟩, World.ownsRow.alloc HS.out.2 _⟩
          have i1 : (0 : Int) ≤ (k : Int) := by omega
          have i2 : (k : Int) < (al.length : Int) := by omega
          clear HS
          go_upto_region 13 with (fail)
          generalize wr.alloc (.cells #[.string par, .string by_, .bool both] 51) = wx at *
          generalize wr.heap.size = gp at *
          clear q0 q1 q2 hg1
          obtain ⟨p0, p1, p2⟩ := blk3 H6.out.1.kp
          have hpl := lt_of_blk H6.out.1.kp
          have hgw : w.heap.size + 1 ≤ wx.heap.size := lt_of_blk H6.out.1.ct.k0
          have HWY : Hid (∀ b, (if b = true then dBoth else dUse) = wayB b) := by intro b; cases b <;> rfl
          cases both
          all_goals
            go_wp2_with fail
            refine (CL.out _ _ (strs_blk (ws := altW _) (blk_new wx _ rfl) rfl)).mono ?_
            rintro e w6 ⟨rfl, b6⟩
            have H7 : Hid (CT w (.slice Ap l.length cp) (.slice (some ⟨g, 0, none⟩) al.length ca) w6 ∧ w6.ownsRow (w.heap.size + 1) 9 1 (.slice A6 (l.length + k) c6) (l.length + k) ((catL l (al.take k)).map Value.string)) :=
              ⟨H6.out.1.ct.below (((Below.refl _ _).alloc (Nat.le_refl _) _).then_below b6 (by simp)), own_below (World.ownsRow.alloc H6.out.2 _) b6⟩
            have hWs : w.heap.size + 1 ≤ w6.heap.size := lt_of_blk H7.out.1.k0
            clear b6 p0 p1 p2 hpl
            obtain ⟨i0, hi, hz0, hz1', hz2⟩ := info_parts str_infoT
            have HI := Lib.hid (And.intro hi (And.intro hz0 (And.intro hz1' hz2)))
            clear hi hz0 hz1' hz2
            generalize lineB (altW _) = LN at *
            go_wp2_with (at_builtin; refine hold ?_)
            refine loose ?_
            refine wpList_append_own _ rfl _ _ 42 rfl (w.heap.size + 1) 9 i0 _ 1 16 Tryz.underlying42 HI.out.1 HI.out.2.1 HI.out.2.2.1 HI.out.2.2.2 rfl (by omega) _ (l.length + k) ((catL l (al.take k)).map Value.string) rfl (H7.out.2.alloc _) ⟨w6.heap.size, 0, none⟩ 1 1 [.string LN] rfl rfl (fun j u hu => by rw [addr_new, cell_of_blk (blk_new w6 _ rfl)]; simpa using hu) (by intro u hu; simp at hu; subst hu; rfl) (by unfold maxLen; omega) (by omega) (by simp; omega) ?_
            intro v' w8 hown' hg' _
            have HF8 : Hid (CT w (.slice Ap l.length cp) (.slice (some ⟨g, 0, none⟩) al.length ca) w8 ∧ w8.ownsRow (w.heap.size + 1) 9 1 v' (l.length + (k + 1)) ((catL l (al.take (k + 1))).map Value.string)) := by
              have hb := H7.out.1.below ((Below.refl _ _).alloc (Nat.le_refl _) (.cells #[.string LN] 9))
              refine ⟨⟨hb.bel.grown hg' (by simp; omega) (fun j hj => by have := own_row H7.out.2 j hj; omega), (hg'.block w.heap.size (by simp; omega) (fun e => by have := own_row H7.out.2 _ e.symm; omega)).trans hb.k0⟩, ?_⟩
              rw [HN.out, List.map_append]
              exact hown'
            have hz8 := HF8.out.1.bel.size
            clear hown' hg' H7 HN
            go_wp2_with fail
            go_roundw
            case rel => exact ⟨k + 1, by omega, by go_num, hz8, HF8⟩
            case measure => simp [intOf]; omega
        · obtain rfl : k = al.length := by omega
          have HS9 := HS.out.2
          rw [List.take_length] at HS9
          have hts := catB_size HP.out.1 HP.out.2
          have CT9 := Lib.hid (text_any (catL l al) (strs_own HS9 (by simp [catL])) (by simp [catL]; omega) (by
            have h1 := hts
            unfold catB at h1
            rw [← bt_size, bt_joinB] at h1
            exact Nat.le_trans h1 (by omega)))
          have hts2 : ¬ 200000 < (joinB (catL l al) dS).size := Nat.not_lt.mpr (Nat.le_trans hts (by omega))
          rw [if_neg hts2, if_neg hts2] at CT9
          rw [show joinB (catL l al) dS = catB l al from rfl] at CT9
          have HB := Lib.hid HS.out.1.bel
          clear HS HS9 hts hts2
          go_wp2_with fail
          refine CT9.out.mono ?_
          rintro e w9 ⟨rfl, b9⟩
          have HB9 := Lib.hid (HB.out.then_below b9 HB.out.size)
          clear b9
          go_wp2_with fail
          refine bodyPost_ret (v := .tuple #[.string (catB l al), .int .i64 0]) (by unfold results; simp only [Tryz.results7]; go_simp) rfl ⟨by rw [HRS.out], HB9.out⟩
end Go.Proofs.YtiooimfkobjpkaaGreatDoor
