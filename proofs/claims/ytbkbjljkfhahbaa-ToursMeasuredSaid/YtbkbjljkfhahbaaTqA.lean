/-
  The length of a tour: the program's, and the reference's.
-/
import Derived.Test.YtbkbjljkfhahbaaTqM
import Derived.Test.YtbkbjljkfhahbaaRg
namespace Go.Proofs.Ytbkbjljkfhahbaa
open Go.RowKit
set_option linter.unusedSimpArgs false
set_option linter.unusedVariables false

theorem lenFrom_drop (s : Int × Int) (l : List (Int × Int)) (o : List Int) (a : Int × Int) {k : Nat} (hk : k < o.length) : lenFrom s l a (o.drop k) = apart a (ptAt l o[k]) + lenFrom s l (ptAt l o[k]) (o.drop (k + 1)) := by
  rw [drop_at o hk]; rfl
theorem lenFrom_end (s : Int × Int) (l : List (Int × Int)) (o : List Int) (a : Int × Int) : lenFrom s l a (o.drop o.length) = apart a s := by
  rw [List.drop_length]; rfl

set_option maxRecDepth 100000 in
set_option maxHeartbeats 8000000 in
theorem length_any (s : Int × Int) (l : List (Int × Int)) (o : List Int) (hs : okPt s = true) (hl : ∀ p ∈ l, okPt p = true) (hln : l.length ≤ 1000) (hol : o.length ≤ 1000) (ho : ∀ k ∈ o, 0 ≤ k ∧ k < (l.length : Int)) {pv ov : Value} (w : World) (h1 : Reads encP pv l w) (h2 : Reads encN ov o w) :
    Calls Try.prog 33 #[.agg #[.int .i64 s.1, .int .i64 s.2], pv, ov] w fun e w' => e = .returned (.int .i64 (lenOf s l o)) ∧ Below w.heap.size w w' := by
  have HR := Lib.hid (And.intro h1 h2)
  have HL := Lib.hid (And.intro hl ho)
  have HSP := Lib.hid hs
  have CD := Lib.hid (fun a b ha hb W => distance_any a b ha hb W)
  obtain ⟨Ap, cp, rfl, _⟩ := h1
  obtain ⟨Ao, co, rfl, _⟩ := h2
  clear hl ho hs
  obtain ⟨LN, hLN⟩ : ∃ L, lenOf s l o = L := ⟨_, rfl⟩
  have HLN : Hid (lenFrom s l s o = LN) := hLN
  rw [hLN]
  clear hLN
  obtain ⟨s1, s2⟩ := s
  dsimp only
  have H0 : Hid (Below w.heap.size w (w.alloc (.cells #[.int .i64 s1, .int .i64 s2] 27)) ∧ (w.alloc (.cells #[.int .i64 s1, .int .i64 s2] 27)).heap[w.heap.size]? = some (.cells #[.int .i64 s1, .int .i64 s2] 27 (0, 0))) :=
    ⟨(Below.refl _ _).alloc (Nat.le_refl _) _, blk_new w _ rfl⟩
  go_enter Try.func33, Try.ntmps33
  go_upto_region 1 with (fail)
  generalize w.alloc (.cells #[.int .i64 s1, .int .i64 s2] 27) = wx at *
  have hxl := lt_of_blk H0.out.2
  have hzx := H0.out.1.size
  refine Rg.rgL (fun a b => Below a.heap.size a b)
    [(fun vs u => vs 0 = .agg #[.int .i64 s1, .int .i64 s2]), (fun vs u => ∃ b : Nat, vs 1 = .pointer (some ⟨b, 0, none⟩) ∧ u.heap[b]? = some (.cells #[.int .i64 0, .int .i64 0] 27 (0, 0))), (fun vs u => vs 2 = .int .i64 0)]
    [[], [], [1]] [some 11, some 8, some 7, none] [1] (fun _ _ => True) [[], [], [1], [0, 1, 2]]
    (by kernel_rfl) (by decide) (by kernel_rfl) (by kernel_rfl) (by kernel_rfl) (by kernel_rfl) (by kernel_rfl) (fun _ => Below.refl _ _) (fun _ _ _ h k => h.ext k) (fun _ _ h => h.size) ?_ trivial ?_ ?_
  · intro t ht vs w w' h hE
    simp only [List.mem_cons, List.not_mem_nil, or_false] at ht
    rcases ht with rfl | rfl | rfl
    · exact h
    · obtain ⟨b, e, k⟩ := h
      exact ⟨b, e, blk_below hE k⟩
    · exact h
  ·
    refine Rg.cons 0 1 rfl (Rg.plain rfl ?_) ?_
    · intro vs W n hn hI hG hT hF K hK
      simp only [Rg.putsD, List.getD_cons_zero, List.getD_cons_succ, Act.put, List.setIfInBounds_toArray, List.set_cons_zero, List.set_cons_succ] at hK ⊢
      clear hn
      clear hF hI
      obtain ⟨c0, c1, _, _⟩ := blk2 (blk_below hG H0.out.2)
      have H := Lib.hid hK
      clear hK hT
      go_simp
      exact H.out _ _ (Below.refl _ _) rfl (fun h => by cases h) trivial
    refine Rg.cons 1 2 rfl (Rg.plain rfl ?_) ?_
    · intro vs W n hn hI hG hT hF K hK
      simp only [Rg.putsD, List.getD_cons_zero, List.getD_cons_succ, Act.put, List.setIfInBounds_toArray, List.set_cons_zero, List.set_cons_succ] at hK ⊢
      clear hn
      clear hF hI
      have H := Lib.hid hK
      clear hK hT
      go_simp
      exact H.out _ _ ((Below.refl _ _).alloc (Nat.le_refl _) _) (show ∃ b : Nat, _ = _ ∧ _ = _ from ⟨_, rfl, blk_new W _ rfl⟩) (fun _ => ⟨W.heap.size, rfl, Nat.le_refl _, by simp⟩) trivial
    refine Rg.cons 2 3 rfl (Rg.plain rfl ?_) ?_
    · intro vs W n hn hI hG hT hF K hK
      simp only [Rg.putsD, List.getD_cons_zero, List.getD_cons_succ, Act.put, List.setIfInBounds_toArray, List.set_cons_zero, List.set_cons_succ] at hK ⊢
      clear hn
      clear hF hI
      have t1 : ∃ b : Nat, vs 1 = .pointer (some ⟨b, 0, none⟩) ∧ W.heap[b]? = some (.cells #[.int .i64 0, .int .i64 0] 27 (0, 0)) := hT 1 (by decide)
      have H := Lib.hid hK
      clear hK hT
      go_simp
      exact H.out _ _ (Below.refl _ _) rfl (fun h => by cases h) trivial
    exact Rg.nil
  · intro vs W hG hI hT hF
    have t0 : vs 0 = .agg #[.int .i64 s1, .int .i64 s2] := hT 0 (by decide)
    have t1 : ∃ b : Nat, vs 1 = .pointer (some ⟨b, 0, none⟩) ∧ W.heap[b]? = some (.cells #[.int .i64 0, .int .i64 0] 27 (0, 0)) := hT 1 (by decide)
    have t2 : vs 2 = .int .i64 0 := hT 2 (by decide)
    simp only [List.length_cons, List.length_nil, Nat.reduceAdd, List.range, List.range.loop, List.drop_succ_cons, List.drop_zero, Rg.putsD, List.getD_cons_zero, List.getD_cons_succ, Act.put, List.setIfInBounds_toArray, List.set_cons_zero, List.set_cons_succ, t0, t2]
    clear hT t0 t2
    obtain ⟨b, e1, k1⟩ := t1
    obtain ⟨_, q1, l1, _⟩ := hF.1 1 (by decide) (by decide)
    simp only [e1, Rg.blockOf, Option.some.injEq] at q1
    subst q1
    simp only [e1]
    obtain ⟨c0, c1, f0, f1⟩ := blk2 k1
    have hbl := lt_of_blk k1
    have l2 : wx.heap.size ≤ b := l1
    have hbn : w.heap.size < b := by omega
    have H1 : Hid (Below w.heap.size w W ∧ W.heap[w.heap.size]? = some (.cells #[.int .i64 s1, .int .i64 s2] 27 (0, 0)) ∧ W.heap[b]? = some (.cells #[.int .i64 0, .int .i64 0] 27 (0, 0))) := ⟨H0.out.1.drew.then_below hG hzx, blk_below hG H0.out.2, k1⟩
    clear e1 k1 hF hG hI H0 l1
    go_upto_region 2 with (fail)
    have H2 : Hid (Below w.heap.size w ((W.setCell ⟨b, 0, none⟩ (.int .i64 s1)).setCell ⟨b, 1, none⟩ (.int .i64 s2)) ∧ ((W.setCell ⟨b, 0, none⟩ (.int .i64 s1)).setCell ⟨b, 1, none⟩ (.int .i64 s2)).heap[w.heap.size]? = some (.cells #[.int .i64 s1, .int .i64 s2] 27 (0, 0)) ∧ ((W.setCell ⟨b, 0, none⟩ (.int .i64 s1)).setCell ⟨b, 1, none⟩ (.int .i64 s2)).heap[b]? = some (.cells #[.int .i64 s1, .int .i64 s2] 27 (0, 0))) :=
      ⟨(H1.out.1.setCell (by show _ ≤ b; omega) _).setCell (by show _ ≤ b; omega) _, blk_far (blk_far H1.out.2.1 (by show _ ≠ b; omega) _) (by show _ ≠ b; omega) _, blk_set (blk_set H1.out.2.2 _) _⟩
    generalize (W.setCell ⟨b, 0, none⟩ (.int .i64 s1)).setCell ⟨b, 1, none⟩ (.int .i64 s2) = w2 at *
    clear c0 c1 f0 f1 hbl l2 H1
    have hz2 := H2.out.1.size
    go_wp2_with fail
    go_loopw [7, 14] (fun v7 kk wr => ∃ (k : Nat) (T a1 a2 : Int), k ≤ o.length ∧ kk = .int .i64 k ∧ v7 = .int .i64 T ∧ 0 ≤ T ∧ T ≤ (k : Int) * 1000000 ∧ w.heap.size ≤ wr.heap.size ∧ Hid (okPt (a1, a2) = true ∧ T + lenFrom (s1, s2) l (a1, a2) (o.drop k) = LN) ∧ Hid (Below w.heap.size w wr ∧ wr.heap[w.heap.size]? = some (.cells #[.int .i64 s1, .int .i64 s2] 27 (0, 0)) ∧ wr.heap[b]? = some (.cells #[.int .i64 a1, .int .i64 a2] 27 (0, 0)))) (fun _ kk _ => o.length - (intOf kk).toNat)
    case atStart => exact ⟨0, 0, s1, s2, by omega, rfl, rfl, by omega, by omega, hz2, ⟨HSP.out, by rw [List.drop_zero, Int.zero_add]; exact HLN.out⟩, H2⟩
    case round =>
      obtain ⟨k, T, a1, a2, hk, rfl, rfl, hT0, hT1, hwz, HE, HS⟩ := hrel
      have hk1000 : k ≤ 1000 := by omega
      by_cases hlt : k < o.length
      · obtain ⟨Ao', co', eo, hro⟩ := HR.out.2.below HS.out.1
        cases eo
        rcases hro with rfl | ⟨go, rfl, hrow⟩
        · simp at hlt
        have q0 := row_n hrow hlt
        have hgo := hrow.1
        have hrg := HL.out.2 o[k] (List.getElem_mem hlt)
        have HD := Lib.hid (lenFrom_drop (s1, s2) l o (a1, a2) hlt)
        obtain ⟨j, hj⟩ := Int.eq_ofNat_of_zero_le hrg.1
        rw [hj] at q0 HD
        have hjl : j < l.length := by omega
        have HPO := Lib.hid (ptAt_ok HL.out.1 (j : Int))
        rw [ptAt_nat l hjl] at HD HPO
        obtain ⟨Ap', cp', ep, hrp⟩ := HR.out.1.below HS.out.1
        cases ep
        rcases hrp with rfl | ⟨gp, rfl, hrowp⟩
        · simp at hjl
        obtain ⟨r0, r1⟩ := row_pt hrowp hjl
        have hgp := hrowp.1
        have HP9 := Lib.hid hj
        clear hrow hrowp hrg hj
        generalize l[j] = p at *
        obtain ⟨x, y⟩ := p
        dsimp only at r0 r1
        have CD1 := Lib.hid (fun W => CD.out (a1, a2) (x, y) HE.out.1 HPO.out W)
        have hap := apart_bd HE.out.1 HPO.out
        obtain ⟨hap0, hap1⟩ := hap
        dsimp only at CD1
        generalize apart (a1, a2) (x, y) = ap at *
        have i1 : (0 : Int) ≤ (k : Int) := by omega
        have i2 : (k : Int) < (o.length : Int) := by omega
        have i3 : (0 : Int) ≤ (j : Int) := by omega
        have i4 : (j : Int) < (l.length : Int) := by omega
        go_upto_region 5 with (fail)
        refine Rg.rgL (fun a b => Below a.heap.size a b)
          [(fun vs u => vs 0 = .int .i64 T), (fun vs u => vs 1 = .agg #[.int .i64 a1, .int .i64 a2]), (fun vs u => vs 2 = .slice (some ⟨gp, 0, none⟩) l.length cp), (fun vs u => vs 3 = .int .i64 j), (fun vs u => vs 4 = .pointer (some ⟨gp, j * 2, none⟩)), (fun vs u => vs 5 = .agg #[.int .i64 x, .int .i64 y]), (fun vs u => vs 6 = .int .i64 ap)]
          [[], [], [], [], [2, 3], [2, 3, 4], [1, 2, 3, 4, 5]] [some 18, some 19, some 20, some 21, some 22, some 23, some 24, some 25, some 7] [] (fun _ _ => True) [[], [], [], [], [2, 3], [2, 3, 4], [1, 2, 3, 4, 5], [0, 1, 2, 3, 4, 5, 6], [0, 1, 2, 3, 4, 5, 6, 7]]
          (by kernel_rfl) (by decide) (by kernel_rfl) (by kernel_rfl) (by kernel_rfl) (by kernel_rfl) (by kernel_rfl) (fun _ => Below.refl _ _) (fun _ _ _ h k => h.ext k) (fun _ _ h => h.size) ?_ trivial ?_ ?_
        · intro t ht vs w w' h hE
          simp only [List.mem_cons, List.not_mem_nil, or_false] at ht
          rcases ht with rfl | rfl | rfl | rfl | rfl | rfl | rfl
          · exact h
          · exact h
          · exact h
          · exact h
          · exact h
          · exact h
          · exact h
        ·
          refine Rg.cons 0 1 rfl (Rg.plain rfl ?_) ?_
          · intro vs W n hn hI hG hT hF K hK
            simp only [Rg.putsD, List.getD_cons_zero, List.getD_cons_succ, Act.put, List.setIfInBounds_toArray, List.set_cons_zero, List.set_cons_succ] at hK ⊢
            clear hn
            clear hF hI
            have H := Lib.hid hK
            clear hK hT
            go_simp
            exact H.out _ _ (Below.refl _ _) rfl (fun h => by cases h) trivial
          refine Rg.cons 1 2 rfl (Rg.plain rfl ?_) ?_
          · intro vs W n hn hI hG hT hF K hK
            simp only [Rg.putsD, List.getD_cons_zero, List.getD_cons_succ, Act.put, List.setIfInBounds_toArray, List.set_cons_zero, List.set_cons_succ] at hK ⊢
            clear hn
            clear hF hI
            obtain ⟨c0, c1, _, _⟩ := blk2 (blk_below hG HS.out.2.2)
            have H := Lib.hid hK
            clear hK hT
            go_simp
            exact H.out _ _ (Below.refl _ _) rfl (fun h => by cases h) trivial
          refine Rg.cons 2 3 rfl (Rg.plain rfl ?_) ?_
          · intro vs W n hn hI hG hT hF K hK
            simp only [Rg.putsD, List.getD_cons_zero, List.getD_cons_succ, Act.put, List.setIfInBounds_toArray, List.set_cons_zero, List.set_cons_succ] at hK ⊢
            clear hn
            clear hF hI
            have H := Lib.hid hK
            clear hK hT
            go_simp
            exact H.out _ _ (Below.refl _ _) rfl (fun h => by cases h) trivial
          refine Rg.cons 3 4 rfl (Rg.plain rfl ?_) ?_
          · intro vs W n hn hI hG hT hF K hK
            simp only [Rg.putsD, List.getD_cons_zero, List.getD_cons_succ, Act.put, List.setIfInBounds_toArray, List.set_cons_zero, List.set_cons_succ] at hK ⊢
            clear hn
            clear hF hI
            have H := Lib.hid hK
            clear hK hT
            go_simp
            exact H.out _ _ (Below.refl _ _) rfl (fun h => by cases h) trivial
          refine Rg.cons 4 5 rfl (Rg.plain rfl ?_) ?_
          · intro vs W n hn hI hG hT hF K hK
            simp only [Rg.putsD, List.getD_cons_zero, List.getD_cons_succ, Act.put, List.setIfInBounds_toArray, List.set_cons_zero, List.set_cons_succ] at hK ⊢
            clear hn
            clear hF hI
            have t2 : vs 2 = .slice (some ⟨gp, 0, none⟩) l.length cp := hT 2 (by decide)
            have t3 : vs 3 = .int .i64 j := hT 3 (by decide)
            simp only [t2, t3] at hK
            have H := Lib.hid hK
            clear hK hT
            go_simp
            exact H.out _ _ (Below.refl _ _) rfl (fun h => by cases h) trivial
          refine Rg.cons 5 6 rfl (Rg.plain rfl ?_) ?_
          · intro vs W n hn hI hG hT hF K hK
            simp only [Rg.putsD, List.getD_cons_zero, List.getD_cons_succ, Act.put, List.setIfInBounds_toArray, List.set_cons_zero, List.set_cons_succ] at hK ⊢
            clear hn
            clear hF hI
            have t2 : vs 2 = .slice (some ⟨gp, 0, none⟩) l.length cp := hT 2 (by decide)
            have t3 : vs 3 = .int .i64 j := hT 3 (by decide)
            have t4 : vs 4 = .pointer (some ⟨gp, j * 2, none⟩) := hT 4 (by decide)
            have c0 := (hG.cell (p := ⟨gp, j * 2, none⟩) hgp).trans r0
            have c1 := (hG.cell (p := ⟨gp, j * 2 + 1, none⟩) hgp).trans r1
            simp only [t2, t3, t4] at hK
            have H := Lib.hid hK
            clear hK hT
            go_simp
            exact H.out _ _ (Below.refl _ _) rfl (fun h => by cases h) trivial
          refine Rg.cons 6 7 rfl (Rg.plain rfl ?_) ?_
          · intro vs W n hn hI hG hT hF K hK
            simp only [Rg.putsD, List.getD_cons_zero, List.getD_cons_succ, Act.put, List.setIfInBounds_toArray, List.set_cons_zero, List.set_cons_succ] at hK ⊢
            clear hn
            clear hF hI
            have t1 : vs 1 = .agg #[.int .i64 a1, .int .i64 a2] := hT 1 (by decide)
            have t2 : vs 2 = .slice (some ⟨gp, 0, none⟩) l.length cp := hT 2 (by decide)
            have t3 : vs 3 = .int .i64 j := hT 3 (by decide)
            have t4 : vs 4 = .pointer (some ⟨gp, j * 2, none⟩) := hT 4 (by decide)
            have t5 : vs 5 = .agg #[.int .i64 x, .int .i64 y] := hT 5 (by decide)
            have HG := Lib.hid hG
            clear hG
            simp only [t1, t2, t3, t4, t5] at hK
            have H := Lib.hid hK
            clear hK hT
            go_simp
            refine (CD1.out _).mono ?_
            rintro e w6 ⟨rfl, b6⟩
            exact H.out _ _ b6 rfl (fun h => by cases h) trivial
          exact Rg.nil
        · intro vs W hG hI hT hF
          have t0 : vs 0 = .int .i64 T := hT 0 (by decide)
          have t1 : vs 1 = .agg #[.int .i64 a1, .int .i64 a2] := hT 1 (by decide)
          have t2 : vs 2 = .slice (some ⟨gp, 0, none⟩) l.length cp := hT 2 (by decide)
          have t3 : vs 3 = .int .i64 j := hT 3 (by decide)
          have t4 : vs 4 = .pointer (some ⟨gp, j * 2, none⟩) := hT 4 (by decide)
          have t5 : vs 5 = .agg #[.int .i64 x, .int .i64 y] := hT 5 (by decide)
          have t6 : vs 6 = .int .i64 ap := hT 6 (by decide)
          simp only [List.length_cons, List.length_nil, Nat.reduceAdd, List.range, List.range.loop, List.drop_succ_cons, List.drop_zero, Rg.putsD, List.getD_cons_zero, List.getD_cons_succ, Act.put, List.setIfInBounds_toArray, List.set_cons_zero, List.set_cons_succ, t0, t1, t2, t3, t4, t5, t6]
          clear hT t0 t1 t2 t3 t4 t5 t6
          have H7 : Hid (Below w.heap.size w W ∧ W.heap[w.heap.size]? = some (.cells #[.int .i64 s1, .int .i64 s2] 27 (0, 0)) ∧ W.heap[b]? = some (.cells #[.int .i64 a1, .int .i64 a2] 27 (0, 0))) := ⟨HS.out.1.drew.then_below hG hwz, blk_below hG HS.out.2.1, blk_below hG HS.out.2.2⟩
          have c0 := (hG.cell (p := ⟨gp, j * 2, none⟩) hgp).trans r0
          have c1 := (hG.cell (p := ⟨gp, j * 2 + 1, none⟩) hgp).trans r1
          have hgpw : gp < W.heap.size := Nat.lt_of_lt_of_le hgp hG.size
          have hWz := H7.out.1.size
          obtain ⟨_, _, f0, f1⟩ := blk2 H7.out.2.2
          have hbl := lt_of_blk H7.out.2.2
          clear hF hI hG r0 r1 q0 CD1
          go_wp2_with fail
          have H8 : Hid (Below w.heap.size w ((W.setCell ⟨b, 0, none⟩ (.int .i64 x)).setCell ⟨b, 1, none⟩ (.int .i64 y)) ∧ ((W.setCell ⟨b, 0, none⟩ (.int .i64 x)).setCell ⟨b, 1, none⟩ (.int .i64 y)).heap[w.heap.size]? = some (.cells #[.int .i64 s1, .int .i64 s2] 27 (0, 0)) ∧ ((W.setCell ⟨b, 0, none⟩ (.int .i64 x)).setCell ⟨b, 1, none⟩ (.int .i64 y)).heap[b]? = some (.cells #[.int .i64 x, .int .i64 y] 27 (0, 0))) :=
            ⟨(H7.out.1.setCell (by show _ ≤ b; omega) _).setCell (by show _ ≤ b; omega) _, blk_far (blk_far H7.out.2.1 (by show _ ≠ b; omega) _) (by show _ ≠ b; omega) _, blk_set (blk_set H7.out.2.2 _) _⟩
          generalize (W.setCell ⟨b, 0, none⟩ (.int .i64 x)).setCell ⟨b, 1, none⟩ (.int .i64 y) = w9 at *
          have hz9 := H8.out.1.size
          have HE2 : Hid (okPt (x, y) = true ∧ T + ap + lenFrom (s1, s2) l (x, y) (o.drop (k + 1)) = LN) := ⟨HPO.out, by have h1 := HE.out.2; have h2 := HD.out; rw [h2] at h1; omega⟩
          clear c0 c1 f0 f1 hbl H7
          go_roundw
          case rel => exact ⟨k + 1, T + ap, x, y, by omega, by go_num, rfl, by omega, by push_cast; omega, hz9, HE2, H8⟩
          case measure => simp [intOf]; omega
      · obtain rfl : k = o.length := by omega
        have HF : Hid (T + apart (a1, a2) (s1, s2) = LN) := by have h := HE.out.2; rw [lenFrom_end] at h; exact h
        obtain ⟨hap0, hap1⟩ := apart_bd HE.out.1 HSP.out
        have CD1 := Lib.hid (fun W => CD.out (a1, a2) (s1, s2) HE.out.1 HSP.out W)
        dsimp only at CD1
        generalize apart (a1, a2) (s1, s2) = ap at *
        obtain ⟨c0, c1, _, _⟩ := blk2 HS.out.2.2
        obtain ⟨d0, d1, _, _⟩ := blk2 HS.out.2.1
        have hbl := lt_of_blk HS.out.2.2
        have hbl2 := lt_of_blk HS.out.2.1
        go_wp2_with fail
        refine (CD1.out _).mono ?_
        rintro e w6 ⟨rfl, b6⟩
        have HB := Lib.hid (HS.out.1.then_below b6 HS.out.1.size)
        clear b6 c0 c1 d0 d1 CD1
        go_wp2_with fail
        go_ret
        exact ⟨ret_int HF.out, HB.out⟩

set_option maxRecDepth 100000 in
set_option maxHeartbeats 8000000 in
theorem lengthOf_any (s : Int × Int) (l : List (Int × Int)) (o : List Int) (hs : okPt s = true) (hl : ∀ p ∈ l, okPt p = true) (hln : l.length ≤ 1000) (hol : o.length ≤ 1000) (ho : ∀ k ∈ o, 0 ≤ k ∧ k < (l.length : Int)) {pv ov : Value} (w : World) (h1 : Reads encP pv l w) (h2 : Reads encN ov o w) :
    Calls Try.prog 15 #[.agg #[.int .i64 s.1, .int .i64 s.2], pv, ov] w fun e w' => e = .returned (.int .i64 (lenOf s l o)) ∧ Below w.heap.size w w' := by
  have HR := Lib.hid (And.intro h1 h2)
  have HL := Lib.hid (And.intro hl ho)
  have HSP := Lib.hid hs
  have CD := Lib.hid (fun a b ha hb W => apart_any a b ha hb W)
  obtain ⟨Ap, cp, rfl, _⟩ := h1
  obtain ⟨Ao, co, rfl, _⟩ := h2
  clear hl ho hs
  obtain ⟨LN, hLN⟩ : ∃ L, lenOf s l o = L := ⟨_, rfl⟩
  have HLN : Hid (lenFrom s l s o = LN) := hLN
  rw [hLN]
  clear hLN
  obtain ⟨s1, s2⟩ := s
  dsimp only
  have H0 : Hid (Below w.heap.size w (w.alloc (.cells #[.int .i64 s1, .int .i64 s2] 27)) ∧ (w.alloc (.cells #[.int .i64 s1, .int .i64 s2] 27)).heap[w.heap.size]? = some (.cells #[.int .i64 s1, .int .i64 s2] 27 (0, 0))) :=
    ⟨(Below.refl _ _).alloc (Nat.le_refl _) _, blk_new w _ rfl⟩
  go_enter Try.func15, Try.ntmps15
  go_upto_region 2 with (fail)
  have H2 : Hid (Below w.heap.size w ((w.alloc (.cells #[.int .i64 s1, .int .i64 s2] 27)).alloc (.cells #[.int .i64 s1, .int .i64 s2] 27)) ∧ ((w.alloc (.cells #[.int .i64 s1, .int .i64 s2] 27)).alloc (.cells #[.int .i64 s1, .int .i64 s2] 27)).heap[w.heap.size]? = some (.cells #[.int .i64 s1, .int .i64 s2] 27 (0, 0)) ∧ ((w.alloc (.cells #[.int .i64 s1, .int .i64 s2] 27)).alloc (.cells #[.int .i64 s1, .int .i64 s2] 27)).heap[w.heap.size + 1]? = some (.cells #[.int .i64 s1, .int .i64 s2] 27 (0, 0))) :=
    ⟨H0.out.1.alloc H0.out.1.size _, blk_alloc H0.out.2 _, blk_new _ _ (by simp)⟩
  generalize (w.alloc (.cells #[.int .i64 s1, .int .i64 s2] 27)).alloc (.cells #[.int .i64 s1, .int .i64 s2] 27) = w2 at *
  obtain ⟨b, hb⟩ : ∃ b, w.heap.size + 1 = b := ⟨_, rfl⟩
  rw [hb] at H2
  simp only [hb]
  have hbn : w.heap.size < b := by omega
  clear hb H0
  have hz2 := H2.out.1.size
  go_wp2_with fail
  go_loopw [8, 14] (fun v7 kk wr => ∃ (k : Nat) (T a1 a2 : Int), k ≤ o.length ∧ kk = .int .i64 k ∧ v7 = .int .i64 T ∧ 0 ≤ T ∧ T ≤ (k : Int) * 1000000 ∧ w.heap.size ≤ wr.heap.size ∧ Hid (okPt (a1, a2) = true ∧ T + lenFrom (s1, s2) l (a1, a2) (o.drop k) = LN) ∧ Hid (Below w.heap.size w wr ∧ wr.heap[w.heap.size]? = some (.cells #[.int .i64 s1, .int .i64 s2] 27 (0, 0)) ∧ wr.heap[b]? = some (.cells #[.int .i64 a1, .int .i64 a2] 27 (0, 0)))) (fun _ kk _ => o.length - (intOf kk).toNat)
  case atStart => exact ⟨0, 0, s1, s2, by omega, rfl, rfl, by omega, by omega, hz2, ⟨HSP.out, by rw [List.drop_zero, Int.zero_add]; exact HLN.out⟩, H2⟩
  case round =>
    obtain ⟨k, T, a1, a2, hk, rfl, rfl, hT0, hT1, hwz, HE, HS⟩ := hrel
    have hk1000 : k ≤ 1000 := by omega
    by_cases hlt : k < o.length
    · obtain ⟨Ao', co', eo, hro⟩ := HR.out.2.below HS.out.1
      cases eo
      rcases hro with rfl | ⟨go, rfl, hrow⟩
      · simp at hlt
      have q0 := row_n hrow hlt
      have hgo := hrow.1
      have hrg := HL.out.2 o[k] (List.getElem_mem hlt)
      have HD := Lib.hid (lenFrom_drop (s1, s2) l o (a1, a2) hlt)
      obtain ⟨j, hj⟩ := Int.eq_ofNat_of_zero_le hrg.1
      rw [hj] at q0 HD
      have hjl : j < l.length := by omega
      have HPO := Lib.hid (ptAt_ok HL.out.1 (j : Int))
      rw [ptAt_nat l hjl] at HD HPO
      obtain ⟨Ap', cp', ep, hrp⟩ := HR.out.1.below HS.out.1
      cases ep
      rcases hrp with rfl | ⟨gp, rfl, hrowp⟩
      · simp at hjl
      obtain ⟨r0, r1⟩ := row_pt hrowp hjl
      have hgp := hrowp.1
      have HP9 := Lib.hid hj
      clear hrow hrowp hrg hj
      generalize l[j] = p at *
      obtain ⟨x, y⟩ := p
      dsimp only at r0 r1
      have CD1 := Lib.hid (fun W => CD.out (a1, a2) (x, y) HE.out.1 HPO.out W)
      have hap := apart_bd HE.out.1 HPO.out
      obtain ⟨hap0, hap1⟩ := hap
      dsimp only at CD1
      generalize apart (a1, a2) (x, y) = ap at *
      have i1 : (0 : Int) ≤ (k : Int) := by omega
      have i2 : (k : Int) < (o.length : Int) := by omega
      have i3 : (0 : Int) ≤ (j : Int) := by omega
      have i4 : (j : Int) < (l.length : Int) := by omega
      go_upto_region 5 with (fail)
      refine Rg.rgL (fun a b => Below a.heap.size a b)
        [(fun vs u => vs 0 = .int .i64 T), (fun vs u => vs 1 = .agg #[.int .i64 a1, .int .i64 a2]), (fun vs u => vs 2 = .slice (some ⟨gp, 0, none⟩) l.length cp), (fun vs u => vs 3 = .int .i64 j), (fun vs u => vs 4 = .pointer (some ⟨gp, j * 2, none⟩)), (fun vs u => vs 5 = .agg #[.int .i64 x, .int .i64 y]), (fun vs u => vs 6 = .int .i64 ap)]
        [[], [], [], [], [2, 3], [2, 3, 4], [1, 2, 3, 4, 5]] [some 18, some 19, some 20, some 21, some 22, some 23, some 24, some 25, some 8] [] (fun _ _ => True) [[], [], [], [], [2, 3], [2, 3, 4], [1, 2, 3, 4, 5], [0, 1, 2, 3, 4, 5, 6], [0, 1, 2, 3, 4, 5, 6, 7]]
        (by kernel_rfl) (by decide) (by kernel_rfl) (by kernel_rfl) (by kernel_rfl) (by kernel_rfl) (by kernel_rfl) (fun _ => Below.refl _ _) (fun _ _ _ h k => h.ext k) (fun _ _ h => h.size) ?_ trivial ?_ ?_
      · intro t ht vs w w' h hE
        simp only [List.mem_cons, List.not_mem_nil, or_false] at ht
        rcases ht with rfl | rfl | rfl | rfl | rfl | rfl | rfl
        · exact h
        · exact h
        · exact h
        · exact h
        · exact h
        · exact h
        · exact h
      ·
        refine Rg.cons 0 1 rfl (Rg.plain rfl ?_) ?_
        · intro vs W n hn hI hG hT hF K hK
          simp only [Rg.putsD, List.getD_cons_zero, List.getD_cons_succ, Act.put, List.setIfInBounds_toArray, List.set_cons_zero, List.set_cons_succ] at hK ⊢
          clear hn
          clear hF hI
          have H := Lib.hid hK
          clear hK hT
          go_simp
          exact H.out _ _ (Below.refl _ _) rfl (fun h => by cases h) trivial
        refine Rg.cons 1 2 rfl (Rg.plain rfl ?_) ?_
        · intro vs W n hn hI hG hT hF K hK
          simp only [Rg.putsD, List.getD_cons_zero, List.getD_cons_succ, Act.put, List.setIfInBounds_toArray, List.set_cons_zero, List.set_cons_succ] at hK ⊢
          clear hn
          clear hF hI
          obtain ⟨c0, c1, _, _⟩ := blk2 (blk_below hG HS.out.2.2)
          have H := Lib.hid hK
          clear hK hT
          go_simp
          exact H.out _ _ (Below.refl _ _) rfl (fun h => by cases h) trivial
        refine Rg.cons 2 3 rfl (Rg.plain rfl ?_) ?_
        · intro vs W n hn hI hG hT hF K hK
          simp only [Rg.putsD, List.getD_cons_zero, List.getD_cons_succ, Act.put, List.setIfInBounds_toArray, List.set_cons_zero, List.set_cons_succ] at hK ⊢
          clear hn
          clear hF hI
          have H := Lib.hid hK
          clear hK hT
          go_simp
          exact H.out _ _ (Below.refl _ _) rfl (fun h => by cases h) trivial
        refine Rg.cons 3 4 rfl (Rg.plain rfl ?_) ?_
        · intro vs W n hn hI hG hT hF K hK
          simp only [Rg.putsD, List.getD_cons_zero, List.getD_cons_succ, Act.put, List.setIfInBounds_toArray, List.set_cons_zero, List.set_cons_succ] at hK ⊢
          clear hn
          clear hF hI
          have H := Lib.hid hK
          clear hK hT
          go_simp
          exact H.out _ _ (Below.refl _ _) rfl (fun h => by cases h) trivial
        refine Rg.cons 4 5 rfl (Rg.plain rfl ?_) ?_
        · intro vs W n hn hI hG hT hF K hK
          simp only [Rg.putsD, List.getD_cons_zero, List.getD_cons_succ, Act.put, List.setIfInBounds_toArray, List.set_cons_zero, List.set_cons_succ] at hK ⊢
          clear hn
          clear hF hI
          have t2 : vs 2 = .slice (some ⟨gp, 0, none⟩) l.length cp := hT 2 (by decide)
          have t3 : vs 3 = .int .i64 j := hT 3 (by decide)
          simp only [t2, t3] at hK
          have H := Lib.hid hK
          clear hK hT
          go_simp
          exact H.out _ _ (Below.refl _ _) rfl (fun h => by cases h) trivial
        refine Rg.cons 5 6 rfl (Rg.plain rfl ?_) ?_
        · intro vs W n hn hI hG hT hF K hK
          simp only [Rg.putsD, List.getD_cons_zero, List.getD_cons_succ, Act.put, List.setIfInBounds_toArray, List.set_cons_zero, List.set_cons_succ] at hK ⊢
          clear hn
          clear hF hI
          have t2 : vs 2 = .slice (some ⟨gp, 0, none⟩) l.length cp := hT 2 (by decide)
          have t3 : vs 3 = .int .i64 j := hT 3 (by decide)
          have t4 : vs 4 = .pointer (some ⟨gp, j * 2, none⟩) := hT 4 (by decide)
          have c0 := (hG.cell (p := ⟨gp, j * 2, none⟩) hgp).trans r0
          have c1 := (hG.cell (p := ⟨gp, j * 2 + 1, none⟩) hgp).trans r1
          simp only [t2, t3, t4] at hK
          have H := Lib.hid hK
          clear hK hT
          go_simp
          exact H.out _ _ (Below.refl _ _) rfl (fun h => by cases h) trivial
        refine Rg.cons 6 7 rfl (Rg.plain rfl ?_) ?_
        · intro vs W n hn hI hG hT hF K hK
          simp only [Rg.putsD, List.getD_cons_zero, List.getD_cons_succ, Act.put, List.setIfInBounds_toArray, List.set_cons_zero, List.set_cons_succ] at hK ⊢
          clear hn
          clear hF hI
          have t1 : vs 1 = .agg #[.int .i64 a1, .int .i64 a2] := hT 1 (by decide)
          have t2 : vs 2 = .slice (some ⟨gp, 0, none⟩) l.length cp := hT 2 (by decide)
          have t3 : vs 3 = .int .i64 j := hT 3 (by decide)
          have t4 : vs 4 = .pointer (some ⟨gp, j * 2, none⟩) := hT 4 (by decide)
          have t5 : vs 5 = .agg #[.int .i64 x, .int .i64 y] := hT 5 (by decide)
          have HG := Lib.hid hG
          clear hG
          simp only [t1, t2, t3, t4, t5] at hK
          have H := Lib.hid hK
          clear hK hT
          go_simp
          refine (CD1.out _).mono ?_
          rintro e w6 ⟨rfl, b6⟩
          exact H.out _ _ b6 rfl (fun h => by cases h) trivial
        exact Rg.nil
      · intro vs W hG hI hT hF
        have t0 : vs 0 = .int .i64 T := hT 0 (by decide)
        have t1 : vs 1 = .agg #[.int .i64 a1, .int .i64 a2] := hT 1 (by decide)
        have t2 : vs 2 = .slice (some ⟨gp, 0, none⟩) l.length cp := hT 2 (by decide)
        have t3 : vs 3 = .int .i64 j := hT 3 (by decide)
        have t4 : vs 4 = .pointer (some ⟨gp, j * 2, none⟩) := hT 4 (by decide)
        have t5 : vs 5 = .agg #[.int .i64 x, .int .i64 y] := hT 5 (by decide)
        have t6 : vs 6 = .int .i64 ap := hT 6 (by decide)
        simp only [List.length_cons, List.length_nil, Nat.reduceAdd, List.range, List.range.loop, List.drop_succ_cons, List.drop_zero, Rg.putsD, List.getD_cons_zero, List.getD_cons_succ, Act.put, List.setIfInBounds_toArray, List.set_cons_zero, List.set_cons_succ, t0, t1, t2, t3, t4, t5, t6]
        clear hT t0 t1 t2 t3 t4 t5 t6
        have H7 : Hid (Below w.heap.size w W ∧ W.heap[w.heap.size]? = some (.cells #[.int .i64 s1, .int .i64 s2] 27 (0, 0)) ∧ W.heap[b]? = some (.cells #[.int .i64 a1, .int .i64 a2] 27 (0, 0))) := ⟨HS.out.1.drew.then_below hG hwz, blk_below hG HS.out.2.1, blk_below hG HS.out.2.2⟩
        have c0 := (hG.cell (p := ⟨gp, j * 2, none⟩) hgp).trans r0
        have c1 := (hG.cell (p := ⟨gp, j * 2 + 1, none⟩) hgp).trans r1
        have hgpw : gp < W.heap.size := Nat.lt_of_lt_of_le hgp hG.size
        have hWz := H7.out.1.size
        obtain ⟨_, _, f0, f1⟩ := blk2 H7.out.2.2
        have hbl := lt_of_blk H7.out.2.2
        clear hF hI hG r0 r1 q0 CD1
        go_wp2_with fail
        have H8 : Hid (Below w.heap.size w ((W.setCell ⟨b, 0, none⟩ (.int .i64 x)).setCell ⟨b, 1, none⟩ (.int .i64 y)) ∧ ((W.setCell ⟨b, 0, none⟩ (.int .i64 x)).setCell ⟨b, 1, none⟩ (.int .i64 y)).heap[w.heap.size]? = some (.cells #[.int .i64 s1, .int .i64 s2] 27 (0, 0)) ∧ ((W.setCell ⟨b, 0, none⟩ (.int .i64 x)).setCell ⟨b, 1, none⟩ (.int .i64 y)).heap[b]? = some (.cells #[.int .i64 x, .int .i64 y] 27 (0, 0))) :=
          ⟨(H7.out.1.setCell (by show _ ≤ b; omega) _).setCell (by show _ ≤ b; omega) _, blk_far (blk_far H7.out.2.1 (by show _ ≠ b; omega) _) (by show _ ≠ b; omega) _, blk_set (blk_set H7.out.2.2 _) _⟩
        generalize (W.setCell ⟨b, 0, none⟩ (.int .i64 x)).setCell ⟨b, 1, none⟩ (.int .i64 y) = w9 at *
        have hz9 := H8.out.1.size
        have HE2 : Hid (okPt (x, y) = true ∧ T + ap + lenFrom (s1, s2) l (x, y) (o.drop (k + 1)) = LN) := ⟨HPO.out, by have h1 := HE.out.2; have h2 := HD.out; rw [h2] at h1; omega⟩
        clear c0 c1 f0 f1 hbl H7
        go_roundw
        case rel => exact ⟨k + 1, T + ap, x, y, by omega, by go_num, rfl, by omega, by push_cast; omega, hz9, HE2, H8⟩
        case measure => simp [intOf]; omega
    · obtain rfl : k = o.length := by omega
      have HF : Hid (T + apart (a1, a2) (s1, s2) = LN) := by have h := HE.out.2; rw [lenFrom_end] at h; exact h
      obtain ⟨hap0, hap1⟩ := apart_bd HE.out.1 HSP.out
      have CD1 := Lib.hid (fun W => CD.out (a1, a2) (s1, s2) HE.out.1 HSP.out W)
      dsimp only at CD1
      generalize apart (a1, a2) (s1, s2) = ap at *
      obtain ⟨c0, c1, _, _⟩ := blk2 HS.out.2.2
      obtain ⟨d0, d1, _, _⟩ := blk2 HS.out.2.1
      have hbl := lt_of_blk HS.out.2.2
      have hbl2 := lt_of_blk HS.out.2.1
      go_wp2_with fail
      refine (CD1.out _).mono ?_
      rintro e w6 ⟨rfl, b6⟩
      have HB := Lib.hid (HS.out.1.then_below b6 HS.out.1.size)
      clear b6 c0 c1 d0 d1 CD1
      go_wp2_with fail
      go_ret
      exact ⟨ret_int HF.out, HB.out⟩
end Go.Proofs.Ytbkbjljkfhahbaa
