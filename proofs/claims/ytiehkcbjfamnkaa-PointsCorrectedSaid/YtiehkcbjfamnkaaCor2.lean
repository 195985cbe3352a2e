/-
  The walk of Stretch where the fiducials are right, and of the reference's CorrectedBy.
-/
import Derived.Test.YtiehkcbjfamnkaaCor
namespace Go.Proofs.Ytiehkcbjfamnkaa
open Go.RowKit

/-- The square of the stretch. -/
def strV (n0 n1 m0 m1 : Int × Int) : Value := low ((m1.1 - m0.1) * (m1.1 - m0.1) + (m1.2 - m0.2) * (m1.2 - m0.2)) ((n1.1 - n0.1) * (n1.1 - n0.1) + (n1.2 - n0.2) * (n1.2 - n0.2))

set_option maxRecDepth 100000 in
set_option maxHeartbeats 4000000 in
theorem stretch_ok (n0 n1 m0 m1 : Int × Int) (hf : fidErr n0 n1 m0 m1 [] = 0) (w : World) :
    Calls Try.prog 48 #[two n0 n1, two m0 m1] w fun e w' =>
      e = .returned (.tuple #[strV n0 n1 m0 m1, .int .i64 0]) ∧ Below w.heap.size w w' := by
  obtain ⟨h0, h1, h2, h3, _, hne, hme⟩ := fid_ok hf
  have cf := fun (W : World) => checkFid_any n0 n1 m0 m1 none 0 [] (by simp) W (.inl ⟨rfl, rfl, rfl⟩)
  rw [hf] at cf
  have tn := sq_bd2 h0 h1 hne
  have tm := sq_bd2 h2 h3 hme
  have cb := fun W => minus_any n1.1 n1.2 n0.1 n0.2 W h1.1 h1.2 h0.1 h0.2
  have ca := fun W => minus_any m1.1 m1.2 m0.1 m0.2 W h3.1 h3.2 h2.1 h2.2
  have hbx : -1000000 ≤ n1.1 - n0.1 ∧ n1.1 - n0.1 ≤ 1000000 := by have := h0.1; have := h1.1; omega
  have hby : -1000000 ≤ n1.2 - n0.2 ∧ n1.2 - n0.2 ≤ 1000000 := by have := h0.2; have := h1.2; omega
  have hax : -1000000 ≤ m1.1 - m0.1 ∧ m1.1 - m0.1 ≤ 1000000 := by have := h2.1; have := h3.1; omega
  have hay : -1000000 ≤ m1.2 - m0.2 ∧ m1.2 - m0.2 ≤ 1000000 := by have := h2.2; have := h3.2; omega
  unfold strV
  generalize n1.1 - n0.1 = bx at *
  generalize n1.2 - n0.2 = by_ at *
  generalize m1.1 - m0.1 = ax at *
  generalize m1.2 - m0.2 = ay at *
  have csb := fun W => square_any bx by_ W (sq_bd hbx.1 hbx.2) (sq_bd hby.1 hby.2)
  have csa := fun W => square_any ax ay W (sq_bd hax.1 hax.2) (sq_bd hay.1 hay.2)
  generalize bx * bx + by_ * by_ = sn at *
  generalize ax * ax + ay * ay = sm at *
  have cl := fun W => lowest_any sm sn W (by omega) (by omega) tn.1 (by omega)
  have CF := Lib.hid cf
  have CB := Lib.hid cb
  have CA := Lib.hid ca
  have CSA := Lib.hid csa
  have CSB := Lib.hid csb
  have CL := Lib.hid cl
  clear cb ca cf csa csb cl hbx hby hax hay h0 h1 h2 h3 tn tm hne hme hf
  obtain ⟨n0x, n0y⟩ := n0; obtain ⟨n1x, n1y⟩ := n1; obtain ⟨m0x, m0y⟩ := m0; obtain ⟨m1x, m1y⟩ := m1
  unfold two at *
  simp only at *
  go_enter Try.func48, Try.ntmps48
  go_wp2_with fail
  refine (CF.out _).mono ?_
  rintro e w1 ⟨rfl, b1⟩
  have k2 := blk_below b1 (blk_alloc (blk_alloc (blk_new w _ rfl) _) _)
  have k3 := blk_below b1 (blk_alloc (blk_new (g := w.heap.size + 1) (w.alloc _) _ (by simp)) _)
  have k4 := blk_below b1 (blk_new (g := w.heap.size + 1 + 1) ((w.alloc _).alloc _) _ (by simp))
  have hb := ((((Below.refl w.heap.size w).alloc (Nat.le_refl _) _).alloc (by simp) _).alloc (by simp; omega) _).ext b1
  have hl4 := lt_of_blk k4
  have K2 := Lib.hid k2
  have K3 := Lib.hid k3
  have K4 := Lib.hid k4
  have HB := Lib.hid hb
  clear k2 k3 k4 hb b1
  go_upto_region 4 with (fail)
  go_cut [7, 8] (fun s7 s8 wc => ∃ b7 b8 : Nat, s7 = .pointer (some ⟨b7, 0, none⟩) ∧ s8 = .pointer (some ⟨b8, 0, none⟩) ∧ Hid (PtB wc b7 bx by_ ∧ PtB wc b8 ax ay ∧ wc.heap[w.heap.size + 1 + 1]? = some (.cells #[.int .i64 0, .int .i64 0] 101 (0, 0)) ∧ Below w.heap.size w wc))
  case first =>
    refine Rg.rgL (fun a b => Below a.heap.size a b)
      [(fun vs u => vs 0 = .pointer (some ⟨w.heap.size, 2, none⟩)), (fun vs u => vs 1 = .agg #[.int .i64 n1x, .int .i64 n1y]), (fun vs u => vs 2 = .pointer (some ⟨w.heap.size, 0, none⟩)), (fun vs u => vs 3 = .agg #[.int .i64 n0x, .int .i64 n0y]), (fun vs u => vs 4 = .agg #[.int .i64 bx, .int .i64 by_]), (fun vs u => vs 5 = .pointer (some ⟨w.heap.size + 1, 2, none⟩)), (fun vs u => vs 6 = .agg #[.int .i64 m1x, .int .i64 m1y]), (fun vs u => vs 7 = .pointer (some ⟨w.heap.size + 1, 0, none⟩)), (fun vs u => vs 8 = .agg #[.int .i64 m0x, .int .i64 m0y]), (fun vs u => vs 9 = .agg #[.int .i64 ax, .int .i64 ay]), (fun vs u => ∃ b : Nat, vs 10 = .pointer (some ⟨b, 0, none⟩) ∧ u.heap[b]? = some (.cells #[.int .i64 0, .int .i64 0] 95 (0, 0))), (fun vs u => ∃ b : Nat, vs 11 = .pointer (some ⟨b, 0, none⟩) ∧ u.heap[b]? = some (.cells #[.int .i64 0, .int .i64 0] 95 (0, 0)))]
      [[], [0], [], [2], [0, 1, 2, 3], [], [5], [], [7], [0, 1, 2, 3, 4, 5, 6, 7, 8], [], []] [some 16, some 17, some 18, some 19, some 20, some 21, some 22, some 23, some 24, some 25, some 7, some 8, none, none] [10, 11] (fun _ _ => True) [[], [0], [], [2], [0, 1, 2, 3], [], [5], [], [7], [0, 1, 2, 3, 4, 5, 6, 7, 8], [], [], [0, 1, 2, 3, 4, 5, 6, 7, 8, 9, 10, 11], [0, 1, 2, 3, 4, 5, 6, 7, 8, 9, 10, 11, 12]]
      (by kernel_rfl) (by decide) (by kernel_rfl) (by kernel_rfl) (by kernel_rfl) (by kernel_rfl) (by kernel_rfl) (fun _ => Below.refl _ _) (fun _ _ _ h k => h.ext k) (fun _ _ h => h.size) ?_ trivial ?_ ?_
    · intro t ht vs w w' h hE
      simp only [List.mem_cons, List.not_mem_nil, or_false] at ht
      rcases ht with rfl | rfl | rfl | rfl | rfl | rfl | rfl | rfl | rfl | rfl | rfl | rfl
      · exact h
      · exact h
      · exact h
      · exact h
      · exact h
      · exact h
      · exact h
      · exact h
      · exact h
      · exact h
      · obtain ⟨b, e, k⟩ := h
        exact ⟨b, e, blk_below hE k⟩
      · obtain ⟨b, e, k⟩ := h
        exact ⟨b, e, blk_below hE k⟩
    ·
      refine Rg.cons 0 1 rfl (Rg.plain rfl ?_) ?_
      · intro vs W n hn hI hG hT hF K hK
        simp only [Rg.putsD, List.getD_cons_zero, List.getD_cons_succ, Act.put, List.setIfInBounds_toArray, List.set_cons_zero, List.set_cons_succ] at hK ⊢
        clear hn
        clear hF hI
        have H := Lib.hid hK
        clear hK hT
        go_simp
        exact H.out _ _ (Below.refl _ _) rfl (fun h => by cases h) trivial
      refine Rg.cons 1 2 rfl (Rg.plain rfl ?_) ?_
      · intro vs W n hn hI hG hT hF K hK
        simp only [Rg.putsD, List.getD_cons_zero, List.getD_cons_succ, Act.put, List.setIfInBounds_toArray, List.set_cons_zero, List.set_cons_succ] at hK ⊢
        clear hn
        clear hF hI
        have t0 : vs 0 = .pointer (some ⟨w.heap.size, 2, none⟩) := hT 0 (by decide)
        obtain ⟨c0, c1, c2, c3⟩ := blk4 (blk_below hG K2.out)
        simp only [t0] at hK
        have H := Lib.hid hK
        clear hK hT
        go_simp
        exact H.out _ _ (Below.refl _ _) rfl (fun h => by cases h) trivial
      refine Rg.cons 2 3 rfl (Rg.plain rfl ?_) ?_
      · intro vs W n hn hI hG hT hF K hK
        simp only [Rg.putsD, List.getD_cons_zero, List.getD_cons_succ, Act.put, List.setIfInBounds_toArray, List.set_cons_zero, List.set_cons_succ] at hK ⊢
        clear hn
        clear hF hI
        have H := Lib.hid hK
        clear hK hT
        go_simp
        exact H.out _ _ (Below.refl _ _) rfl (fun h => by cases h) trivial
      refine Rg.cons 3 4 rfl (Rg.plain rfl ?_) ?_
      · intro vs W n hn hI hG hT hF K hK
        simp only [Rg.putsD, List.getD_cons_zero, List.getD_cons_succ, Act.put, List.setIfInBounds_toArray, List.set_cons_zero, List.set_cons_succ] at hK ⊢
        clear hn
        clear hF hI
        have t2 : vs 2 = .pointer (some ⟨w.heap.size, 0, none⟩) := hT 2 (by decide)
        obtain ⟨c0, c1, c2, c3⟩ := blk4 (blk_below hG K2.out)
        simp only [t2] at hK
        have H := Lib.hid hK
        clear hK hT
        go_simp
        exact H.out _ _ (Below.refl _ _) rfl (fun h => by cases h) trivial
      refine Rg.cons 4 5 rfl (Rg.plain rfl ?_) ?_
      · intro vs W n hn hI hG hT hF K hK
        simp only [Rg.putsD, List.getD_cons_zero, List.getD_cons_succ, Act.put, List.setIfInBounds_toArray, List.set_cons_zero, List.set_cons_succ] at hK ⊢
        clear hn
        clear hF hI
        have t0 : vs 0 = .pointer (some ⟨w.heap.size, 2, none⟩) := hT 0 (by decide)
        have t1 : vs 1 = .agg #[.int .i64 n1x, .int .i64 n1y] := hT 1 (by decide)
        have t2 : vs 2 = .pointer (some ⟨w.heap.size, 0, none⟩) := hT 2 (by decide)
        have t3 : vs 3 = .agg #[.int .i64 n0x, .int .i64 n0y] := hT 3 (by decide)
        simp only [t0, t1, t2, t3] at hK
        have H := Lib.hid hK
        clear hK hT
        go_simp
        refine (CB.out _).mono ?_
        rintro e w1 ⟨rfl, b1⟩
        exact H.out _ _ b1 rfl (fun h => by cases h) trivial
      refine Rg.cons 5 6 rfl (Rg.plain rfl ?_) ?_
      · intro vs W n hn hI hG hT hF K hK
        simp only [Rg.putsD, List.getD_cons_zero, List.getD_cons_succ, Act.put, List.setIfInBounds_toArray, List.set_cons_zero, List.set_cons_succ] at hK ⊢
        clear hn
        clear hF hI
        have H := Lib.hid hK
        clear hK hT
        go_simp
        exact H.out _ _ (Below.refl _ _) rfl (fun h => by cases h) trivial
      refine Rg.cons 6 7 rfl (Rg.plain rfl ?_) ?_
      · intro vs W n hn hI hG hT hF K hK
        simp only [Rg.putsD, List.getD_cons_zero, List.getD_cons_succ, Act.put, List.setIfInBounds_toArray, List.set_cons_zero, List.set_cons_succ] at hK ⊢
        clear hn
        clear hF hI
        have t5 : vs 5 = .pointer (some ⟨w.heap.size + 1, 2, none⟩) := hT 5 (by decide)
        obtain ⟨c0, c1, c2, c3⟩ := blk4 (blk_below hG K3.out)
        simp only [t5] at hK
        have H := Lib.hid hK
        clear hK hT
        go_simp
        exact H.out _ _ (Below.refl _ _) rfl (fun h => by cases h) trivial
      refine Rg.cons 7 8 rfl (Rg.plain rfl ?_) ?_
      · intro vs W n hn hI hG hT hF K hK
        simp only [Rg.putsD, List.getD_cons_zero, List.getD_cons_succ, Act.put, List.setIfInBounds_toArray, List.set_cons_zero, List.set_cons_succ] at hK ⊢
        clear hn
        clear hF hI
        have H := Lib.hid hK
        clear hK hT
        go_simp
        exact H.out _ _ (Below.refl _ _) rfl (fun h => by cases h) trivial
      refine Rg.cons 8 9 rfl (Rg.plain rfl ?_) ?_
      · intro vs W n hn hI hG hT hF K hK
        simp only [Rg.putsD, List.getD_cons_zero, List.getD_cons_succ, Act.put, List.setIfInBounds_toArray, List.set_cons_zero, List.set_cons_succ] at hK ⊢
        clear hn
        clear hF hI
        have t7 : vs 7 = .pointer (some ⟨w.heap.size + 1, 0, none⟩) := hT 7 (by decide)
        obtain ⟨c0, c1, c2, c3⟩ := blk4 (blk_below hG K3.out)
        simp only [t7] at hK
        have H := Lib.hid hK
        clear hK hT
        go_simp
        exact H.out _ _ (Below.refl _ _) rfl (fun h => by cases h) trivial
      refine Rg.cons 9 10 rfl (Rg.plain rfl ?_) ?_
      · intro vs W n hn hI hG hT hF K hK
        simp only [Rg.putsD, List.getD_cons_zero, List.getD_cons_succ, Act.put, List.setIfInBounds_toArray, List.set_cons_zero, List.set_cons_succ] at hK ⊢
        clear hn
        clear hF hI
        have t0 : vs 0 = .pointer (some ⟨w.heap.size, 2, none⟩) := hT 0 (by decide)
        have t1 : vs 1 = .agg #[.int .i64 n1x, .int .i64 n1y] := hT 1 (by decide)
        have t2 : vs 2 = .pointer (some ⟨w.heap.size, 0, none⟩) := hT 2 (by decide)
        have t3 : vs 3 = .agg #[.int .i64 n0x, .int .i64 n0y] := hT 3 (by decide)
        have t4 : vs 4 = .agg #[.int .i64 bx, .int .i64 by_] := hT 4 (by decide)
        have t5 : vs 5 = .pointer (some ⟨w.heap.size + 1, 2, none⟩) := hT 5 (by decide)
        have t6 : vs 6 = .agg #[.int .i64 m1x, .int .i64 m1y] := hT 6 (by decide)
        have t7 : vs 7 = .pointer (some ⟨w.heap.size + 1, 0, none⟩) := hT 7 (by decide)
        have t8 : vs 8 = .agg #[.int .i64 m0x, .int .i64 m0y] := hT 8 (by decide)
        simp only [t0, t1, t2, t3, t4, t5, t6, t7, t8] at hK
        have H := Lib.hid hK
        clear hK hT
        go_simp
        refine (CA.out _).mono ?_
        rintro e w1 ⟨rfl, b1⟩
        exact H.out _ _ b1 rfl (fun h => by cases h) trivial
      refine Rg.cons 10 11 rfl (Rg.plain rfl ?_) ?_
      · intro vs W n hn hI hG hT hF K hK
        simp only [Rg.putsD, List.getD_cons_zero, List.getD_cons_succ, Act.put, List.setIfInBounds_toArray, List.set_cons_zero, List.set_cons_succ] at hK ⊢
        clear hn
        clear hF hI
        have H := Lib.hid hK
        clear hK hT
        go_simp
        exact H.out _ _ ((Below.refl _ _).alloc (Nat.le_refl _) _) (show ∃ b : Nat, _ = _ ∧ _ = _ from ⟨_, rfl, blk_new W _ rfl⟩) (fun _ => ⟨W.heap.size, rfl, Nat.le_refl _, by simp⟩) trivial
      refine Rg.cons 11 12 rfl (Rg.plain rfl ?_) ?_
      · intro vs W n hn hI hG hT hF K hK
        simp only [Rg.putsD, List.getD_cons_zero, List.getD_cons_succ, Act.put, List.setIfInBounds_toArray, List.set_cons_zero, List.set_cons_succ] at hK ⊢
        clear hn
        clear hF hI
        have H := Lib.hid hK
        clear hK hT
        go_simp
        exact H.out _ _ ((Below.refl _ _).alloc (Nat.le_refl _) _) (show ∃ b : Nat, _ = _ ∧ _ = _ from ⟨_, rfl, blk_new W _ rfl⟩) (fun _ => ⟨W.heap.size, rfl, Nat.le_refl _, by simp⟩) trivial
      exact Rg.nil
    · intro vs W hG hI hT hF
      have t0 : vs 0 = .pointer (some ⟨w.heap.size, 2, none⟩) := hT 0 (by decide)
      have t1 : vs 1 = .agg #[.int .i64 n1x, .int .i64 n1y] := hT 1 (by decide)
      have t2 : vs 2 = .pointer (some ⟨w.heap.size, 0, none⟩) := hT 2 (by decide)
      have t3 : vs 3 = .agg #[.int .i64 n0x, .int .i64 n0y] := hT 3 (by decide)
      have t4 : vs 4 = .agg #[.int .i64 bx, .int .i64 by_] := hT 4 (by decide)
      have t5 : vs 5 = .pointer (some ⟨w.heap.size + 1, 2, none⟩) := hT 5 (by decide)
      have t6 : vs 6 = .agg #[.int .i64 m1x, .int .i64 m1y] := hT 6 (by decide)
      have t7 : vs 7 = .pointer (some ⟨w.heap.size + 1, 0, none⟩) := hT 7 (by decide)
      have t8 : vs 8 = .agg #[.int .i64 m0x, .int .i64 m0y] := hT 8 (by decide)
      have t9 : vs 9 = .agg #[.int .i64 ax, .int .i64 ay] := hT 9 (by decide)
      have t10 : ∃ b : Nat, vs 10 = .pointer (some ⟨b, 0, none⟩) ∧ W.heap[b]? = some (.cells #[.int .i64 0, .int .i64 0] 95 (0, 0)) := hT 10 (by decide)
      have t11 : ∃ b : Nat, vs 11 = .pointer (some ⟨b, 0, none⟩) ∧ W.heap[b]? = some (.cells #[.int .i64 0, .int .i64 0] 95 (0, 0)) := hT 11 (by decide)
      simp only [List.length_cons, List.length_nil, Nat.reduceAdd, List.range, List.range.loop, List.drop_succ_cons, List.drop_zero, Rg.putsD, List.getD_cons_zero, List.getD_cons_succ, Act.put, List.setIfInBounds_toArray, List.set_cons_zero, List.set_cons_succ, t0, t1, t2, t3, t4, t5, t6, t7, t8, t9]
      clear hT t0 t1 t2 t3 t4 t5 t6 t7 t8 t9
      have k4 := blk_below hG K4.out
      have hb := HB.out.drew.ext hG
      obtain ⟨b7, e7, k7⟩ := t10
      obtain ⟨b8, e8, k8⟩ := t11
      have hne := hF.2 10 (by decide) 11 (by decide) (by decide) (by decide) (by decide)
      obtain ⟨_, q7, l7, _⟩ := hF.1 10 (by decide) (by decide)
      obtain ⟨_, q8, l8, _⟩ := hF.1 11 (by decide) (by decide)
      simp only [e7, e8, Rg.blockOf, ne_eq, Option.some.injEq] at hne q7 q8
      subst q7 q8
      simp only [e7, e8]
      obtain ⟨c0, c1, f0, f1⟩ := blk2 k7
      obtain ⟨d0, d1, g0, g1⟩ := blk2 k8
      have K7 := Lib.hid k7
      have K8 := Lib.hid k8
      have KK := Lib.hid k4
      have HBB := Lib.hid hb
      clear e7 e8 k7 k8 k4 hF hG hI hb
      go_wp2_with fail
      go_meet
      refine ⟨b7, b8, rfl, rfl, blk_far (blk_far (blk_set (blk_set K7.out _) _) ?_ _) ?_ _, blk_set (blk_set (blk_far (blk_far K8.out ?_ _) ?_ _) _) _,
        blk_far (blk_far (blk_far (blk_far KK.out ?_ _) ?_ _) ?_ _) ?_ _, (((HBB.out.setCell ?_ _).setCell ?_ _).setCell ?_ _).setCell ?_ _⟩ <;> simp only <;> omega
  case rest =>
    obtain ⟨b7, b8, rfl, rfl, HC⟩ := hcut
    go_wp2_with fail
    refine Rg.rgL (fun a b => Below a.heap.size a b)
      [(fun vs u => vs 0 = .agg #[.int .i64 ax, .int .i64 ay]), (fun vs u => vs 1 = .int .i64 sm), (fun vs u => vs 2 = .agg #[.int .i64 bx, .int .i64 by_])]
      [[], [0], []] [some 26, some 27, some 28, some 29, some 30, none, some 5] [] (fun _ _ => True) [[], [0], [], [0, 1, 2], [0, 1, 2, 3], [0, 1, 2, 3, 4], [0, 1, 2, 3, 4, 5]]
      (by kernel_rfl) (by decide) (by kernel_rfl) (by kernel_rfl) (by kernel_rfl) (by kernel_rfl) (by kernel_rfl) (fun _ => Below.refl _ _) (fun _ _ _ h k => h.ext k) (fun _ _ h => h.size) ?_ trivial ?_ ?_
    · intro t ht vs w w' h hE
      simp only [List.mem_cons, List.not_mem_nil, or_false] at ht
      rcases ht with rfl | rfl | rfl
      · exact h
      · exact h
      · exact h
    ·
      refine Rg.cons 0 1 rfl (Rg.plain rfl ?_) ?_
      · intro vs W n hn hI hG hT hF K hK
        simp only [Rg.putsD, List.getD_cons_zero, List.getD_cons_succ, Act.put, List.setIfInBounds_toArray, List.set_cons_zero, List.set_cons_succ] at hK ⊢
        clear hn
        clear hF hI
        obtain ⟨c0, c1, _, _⟩ := blk2 (blk_below hG HC.out.2.1)
        have H := Lib.hid hK
        clear hK hT
        go_simp
        exact H.out _ _ (Below.refl _ _) rfl (fun h => by cases h) trivial
      refine Rg.cons 1 2 rfl (Rg.plain rfl ?_) ?_
      · intro vs W n hn hI hG hT hF K hK
        simp only [Rg.putsD, List.getD_cons_zero, List.getD_cons_succ, Act.put, List.setIfInBounds_toArray, List.set_cons_zero, List.set_cons_succ] at hK ⊢
        clear hn
        clear hF hI
        have t0 : vs 0 = .agg #[.int .i64 ax, .int .i64 ay] := hT 0 (by decide)
        simp only [t0] at hK
        have H := Lib.hid hK
        clear hK hT
        go_simp
        refine (CSA.out _).mono ?_
        rintro e w1 ⟨rfl, b1⟩
        exact H.out _ _ b1 rfl (fun h => by cases h) trivial
      refine Rg.cons 2 3 rfl (Rg.plain rfl ?_) ?_
      · intro vs W n hn hI hG hT hF K hK
        simp only [Rg.putsD, List.getD_cons_zero, List.getD_cons_succ, Act.put, List.setIfInBounds_toArray, List.set_cons_zero, List.set_cons_succ] at hK ⊢
        clear hn
        clear hF hI
        obtain ⟨c0, c1, _, _⟩ := blk2 (blk_below hG HC.out.1)
        have H := Lib.hid hK
        clear hK hT
        go_simp
        exact H.out _ _ (Below.refl _ _) rfl (fun h => by cases h) trivial
      exact Rg.nil
    · intro vs W hG hI hT hF
      have t0 : vs 0 = .agg #[.int .i64 ax, .int .i64 ay] := hT 0 (by decide)
      have t1 : vs 1 = .int .i64 sm := hT 1 (by decide)
      have t2 : vs 2 = .agg #[.int .i64 bx, .int .i64 by_] := hT 2 (by decide)
      simp only [List.length_cons, List.length_nil, Nat.reduceAdd, List.range, List.range.loop, List.drop_succ_cons, List.drop_zero, Rg.putsD, List.getD_cons_zero, List.getD_cons_succ, Act.put, List.setIfInBounds_toArray, List.set_cons_zero, List.set_cons_succ, t0, t1, t2]
      clear hT t0 t1 t2
      have k4 := blk_below hG HC.out.2.2.1
      have hb := HC.out.2.2.2.drew.ext hG
      have KK := Lib.hid k4
      have HBB := Lib.hid hb
      clear hF hG hI hb k4
      go_wp2_with fail
      refine (CSB.out _).mono ?_
      rintro e w2 ⟨rfl, b2⟩
      go_wp2_with fail
      refine (CL.out _).mono ?_
      rintro e w3 ⟨rfl, b3⟩
      obtain ⟨c0, c1, f0, f1⟩ := blk2 (blk_below b3 (blk_below b2 KK.out))
      have HX := Lib.hid ((HBB.out.ext b2).ext b3)
      clear b2 b3
      unfold low
      go_wp2_with fail
      refine bodyPost_ret (v := .tuple #[low sm sn, .int .i64 0]) (by unfold results low; simp only [Try.results48]; go_simp) rfl ⟨rfl, ?_⟩
      exact (HX.out.setCell (by simp; omega) _).setCell (by simp; omega) _

set_option maxRecDepth 100000 in
set_option maxHeartbeats 8000000 in
theorem correctedBy_any (n0 n1 m0 m1 p : Int × Int) (hf : fidErr n0 n1 m0 m1 [p] = 0) (w : World) :
    Calls Try.prog 50 #[two n0 n1, two m0 m1, .agg #[.int .i64 p.1, .int .i64 p.2]] w fun e w' =>
      e = .returned (.agg #[.int .i64 (corX n0 n1 m0 m1 p), .int .i64 (corY n0 n1 m0 m1 p)]) ∧ Below w.heap.size w w' := by
  obtain ⟨h0, h1, h2, h3, hp, hne, _⟩ := fid_ok hf
  have hp := hp p (by simp)
  obtain ⟨tr, ti⟩ := turn_bd h0 h1 h2 h3
  have tq := sq_bd2 h0 h1 hne
  unfold corX corY
  have hbx : -1000000 ≤ n1.1 - n0.1 ∧ n1.1 - n0.1 ≤ 1000000 := by have := h0.1; have := h1.1; omega
  have hby : -1000000 ≤ n1.2 - n0.2 ∧ n1.2 - n0.2 ≤ 1000000 := by have := h0.2; have := h1.2; omega
  have hax : -1000000 ≤ m1.1 - m0.1 ∧ m1.1 - m0.1 ≤ 1000000 := by have := h2.1; have := h3.1; omega
  have hay : -1000000 ≤ m1.2 - m0.2 ∧ m1.2 - m0.2 ≤ 1000000 := by have := h2.2; have := h3.2; omega
  have hdx : -1000000 ≤ p.1 - n0.1 ∧ p.1 - n0.1 ≤ 1000000 := by have := hp.1; have := h0.1; omega
  have hdy : -1000000 ≤ p.2 - n0.2 ∧ p.2 - n0.2 ≤ 1000000 := by have := hp.2; have := h0.2; omega
  have w1 := IntWalk.i64_in (n1.1 - n0.1) (by omega)
  have w2 := IntWalk.i64_in (n1.2 - n0.2) (by omega)
  have w3 := IntWalk.i64_in (m1.1 - m0.1) (by omega)
  have w4 := IntWalk.i64_in (m1.2 - m0.2) (by omega)
  have w5 := IntWalk.i64_in (p.1 - n0.1) (by omega)
  have w6 := IntWalk.i64_in (p.2 - n0.2) (by omega)
  generalize ebx : n1.1 - n0.1 = bx at *
  generalize eby : n1.2 - n0.2 = by_ at *
  generalize eax : m1.1 - m0.1 = ax at *
  generalize eay : m1.2 - m0.2 = ay at *
  generalize edx : p.1 - n0.1 = dx at *
  generalize edy : p.2 - n0.2 = dy at *
  have q1 := mul_bd hax.1 hax.2 hbx.1 hbx.2
  have q2 := mul_bd hay.1 hay.2 hby.1 hby.2
  have q3 := mul_bd hay.1 hay.2 hbx.1 hbx.2
  have q4 := mul_bd hax.1 hax.2 hby.1 hby.2
  have q5 := sq_bd hbx.1 hbx.2
  have q6 := sq_bd hby.1 hby.2
  rw [Int.mul_neg, Int.sub_neg] at tr
  rw [Int.mul_neg] at ti
  have hE1 : ax * bx - ay * -by_ = ax * bx + ay * by_ := by rw [Int.mul_neg]; omega
  have hE2 : ax * -by_ + ay * bx = ay * bx - ax * by_ := by rw [Int.mul_neg]; omega
  rw [hE1, hE2]
  have ti' : -2000000000000 ≤ ay * bx - ax * by_ ∧ ay * bx - ax * by_ ≤ 2000000000000 := by omega
  generalize ere : ax * bx + ay * by_ = re at *
  generalize eim : ay * bx - ax * by_ = im at *
  generalize esq : bx * bx + by_ * by_ = sq at *
  have r1 := mul_bd hdx.1 hdx.2 tr.1 tr.2
  have r2 := mul_bd hdy.1 hdy.2 ti'.1 ti'.2
  have r3 := mul_bd hdx.1 hdx.2 ti'.1 ti'.2
  have r4 := mul_bd hdy.1 hdy.2 tr.1 tr.2
  rw [Int.mul_comm re dx, Int.mul_comm im dy, Int.mul_comm re dy, Int.mul_comm im dx, Int.add_comm (dy * re)]
  have v1 := IntWalk.i64_in (dx * re) (by omega)
  have v2 := IntWalk.i64_in (dy * im) (by omega)
  have v3 := IntWalk.i64_in (dx * im) (by omega)
  have v4 := IntWalk.i64_in (dy * re) (by omega)
  have v5 := IntWalk.i64_in (dx * re - dy * im) (by omega)
  have v6 := IntWalk.i64_in (dx * im + dy * re) (by omega)
  have hfx : -4000000000000000000 ≤ dx * re - dy * im ∧ dx * re - dy * im ≤ 4000000000000000000 := by omega
  have hfy : -4000000000000000000 ≤ dx * im + dy * re ∧ dx * im + dy * re ≤ 4000000000000000000 := by omega
  generalize efx : dx * re - dy * im = fx at *
  generalize efy : dx * im + dy * re = fy at *
  have cx := fun (a : Addr) (W : World) hc => cby_any fx sq a W hc tq.1 tq.2 hfx.1 hfx.2
  have cy := fun (a : Addr) (W : World) hc => cby_any fy sq a W hc tq.1 tq.2 hfy.1 hfy.2
  have nx := near_bd tq.1 hfx.1 hfx.2
  have ny := near_bd tq.1 hfy.1 hfy.2
  generalize near fx sq = X at *
  generalize near fy sq = Y at *
  have v7 := IntWalk.i64_in (m0.1 + X) (by have := h2.1; omega)
  have v8 := IntWalk.i64_in (m0.2 + Y) (by have := h2.2; omega)
  have CX := Lib.hid cx
  have CY := Lib.hid cy
  have V := Lib.hid (And.intro v1 (And.intro v2 (And.intro v3 (And.intro v4 (And.intro v5 (And.intro v6 (And.intro v7 v8)))))))
  have EF := Lib.hid (And.intro efx efy)
  clear cx cy nx ny r1 r2 r3 r4 hfx hfy tq tr ti' hE1 hE2 hne hf hp v1 v2 v3 v4 v5 v6 v7 v8 efx efy hdx hdy h0 h1 h2 h3
  obtain ⟨n0x, n0y⟩ := n0; obtain ⟨n1x, n1y⟩ := n1; obtain ⟨m0x, m0y⟩ := m0; obtain ⟨m1x, m1y⟩ := m1; obtain ⟨px, py⟩ := p
  unfold two at *
  simp only at *
  obtain ⟨_, _⟩ := hbx; obtain ⟨_, _⟩ := hby; obtain ⟨_, _⟩ := hax; obtain ⟨_, _⟩ := hay
  obtain ⟨_, _⟩ := q1; obtain ⟨_, _⟩ := q2; obtain ⟨_, _⟩ := q3; obtain ⟨_, _⟩ := q4; obtain ⟨_, _⟩ := q5; obtain ⟨_, _⟩ := q6; clear ti
  go_enter Try.func50, Try.ntmps50
  go_wp2_with fail
  go_quiet (fail)
  go_wp2_with fail
  go_quiet (fail)
  go_wp2_with fail
  go_quiet (fail)
  go_wp2_with fail
  clear w1 w2 w3 w4 w5 w6 ere eim esq ebx eby eax eay edx edy
  refine Rg.rgL (fun a b => Below a.heap.size a b)
    [(fun vs u => vs 0 = .pointer (some ⟨w.heap.size + 1, 0, none⟩)), (fun vs u => vs 1 = .pointer (some ⟨w.heap.size + 1, 0, none⟩)), (fun vs u => vs 2 = .int .i64 m0x), (fun vs u => vs 3 = .func (.func 88) #[] #[.pointer (some ⟨w.heap.size + 1 + 1 + 1 + 1, 0, none⟩)]), (fun vs u => vs 4 = .int .i64 dx), (fun vs u => vs 5 = .int .i64 re), (fun vs u => vs 6 = .int .i64 (dx * re)), (fun vs u => vs 7 = .int .i64 dy), (fun vs u => vs 8 = .int .i64 im), (fun vs u => vs 9 = .int .i64 (dy * im)), (fun vs u => vs 10 = .int .i64 fx), (fun vs u => vs 11 = .int .i64 X), (fun vs u => vs 12 = .int .i64 (m0x + X)), (fun vs u => vs 13 = .pointer (some ⟨w.heap.size + 1, 0, none⟩)), (fun vs u => vs 14 = .pointer (some ⟨w.heap.size + 1, 1, none⟩)), (fun vs u => vs 15 = .int .i64 m0y), (fun vs u => vs 16 = .func (.func 88) #[] #[.pointer (some ⟨w.heap.size + 1 + 1 + 1 + 1, 0, none⟩)]), (fun vs u => vs 17 = .int .i64 dx), (fun vs u => vs 18 = .int .i64 im), (fun vs u => vs 19 = .int .i64 (dx * im)), (fun vs u => vs 20 = .int .i64 dy), (fun vs u => vs 21 = .int .i64 re), (fun vs u => vs 22 = .int .i64 (dy * re)), (fun vs u => vs 23 = .int .i64 fy), (fun vs u => vs 24 = .int .i64 Y), (fun vs u => vs 25 = .int .i64 (m0y + Y))]
    [[], [0], [0, 1], [], [], [], [4, 5], [], [], [7, 8], [4, 5, 6, 7, 8, 9], [3, 4, 5, 6, 7, 8, 9, 10], [0, 1, 2, 3, 4, 5, 6, 7, 8, 9, 10, 11], [], [13], [13, 14], [], [], [], [17, 18], [], [], [20, 21], [17, 18, 19, 20, 21, 22], [3, 4, 5, 6, 7, 8, 9, 10, 11, 16, 17, 18, 19, 20, 21, 22, 23], [3, 4, 5, 6, 7, 8, 9, 10, 11, 13, 14, 15, 16, 17, 18, 19, 20, 21, 22, 23, 24]] [some 79, some 80, some 81, some 82, some 83, some 84, some 85, some 86, some 87, some 88, some 89, some 90, some 91, some 92, some 93, some 94, some 95, some 96, some 97, some 98, some 99, some 100, some 101, some 102, some 103, some 104, some 105, none] [] (fun _ _ => True) [[], [0], [0, 1], [], [], [], [4, 5], [], [], [7, 8], [4, 5, 6, 7, 8, 9], [3, 4, 5, 6, 7, 8, 9, 10], [0, 1, 2, 3, 4, 5, 6, 7, 8, 9, 10, 11], [], [13], [13, 14], [], [], [], [17, 18], [], [], [20, 21], [17, 18, 19, 20, 21, 22], [3, 4, 5, 6, 7, 8, 9, 10, 11, 16, 17, 18, 19, 20, 21, 22, 23], [3, 4, 5, 6, 7, 8, 9, 10, 11, 13, 14, 15, 16, 17, 18, 19, 20, 21, 22, 23, 24], [0, 1, 2, 3, 4, 5, 6, 7, 8, 9, 10, 11, 12, 13, 14, 15, 16, 17, 18, 19, 20, 21, 22, 23, 24, 25], [0, 1, 2, 3, 4, 5, 6, 7, 8, 9, 10, 11, 12, 13, 14, 15, 16, 17, 18, 19, 20, 21, 22, 23, 24, 25, 26]]
    (by kernel_rfl) (by decide) (by kernel_rfl) (by kernel_rfl) (by kernel_rfl) (by kernel_rfl) (by kernel_rfl) (fun _ => Below.refl _ _) (fun _ _ _ h k => h.ext k) (fun _ _ h => h.size) ?_ trivial ?_ ?_
  · intro t ht vs w w' h hE
    simp only [List.mem_cons, List.not_mem_nil, or_false] at ht
    rcases ht with rfl | rfl | rfl | rfl | rfl | rfl | rfl | rfl | rfl | rfl | rfl | rfl | rfl | rfl | rfl | rfl | rfl | rfl | rfl | rfl | rfl | rfl | rfl | rfl | rfl | rfl
    · exact h
    · exact h
    · exact h
    · exact h
    · exact h
    · exact h
    · exact h
    · exact h
    · exact h
    · exact h
    · exact h
    · exact h
    · exact h
    · exact h
    · exact h
    · exact h
    · exact h
    · exact h
    · exact h
    · exact h
    · exact h
    · exact h
    · exact h
    · exact h
    · exact h
    · exact h
  ·
    refine Rg.cons 0 1 rfl (Rg.plain rfl ?_) ?_
    · intro vs W n hn hI hG hT hF K hK
      simp only [Rg.putsD, List.getD_cons_zero, List.getD_cons_succ, Act.put, List.setIfInBounds_toArray, List.set_cons_zero, List.set_cons_succ] at hK ⊢
      clear hn
      clear hF hI
      have H := Lib.hid hK
      clear hK hT
      go_simp
      exact H.out _ _ (Below.refl _ _) rfl (fun h => by cases h) trivial
    refine Rg.cons 1 2 rfl (Rg.plain rfl ?_) ?_
    · intro vs W n hn hI hG hT hF K hK
      simp only [Rg.putsD, List.getD_cons_zero, List.getD_cons_succ, Act.put, List.setIfInBounds_toArray, List.set_cons_zero, List.set_cons_succ] at hK ⊢
      clear hn
      clear hF hI
      have t0 : vs 0 = .pointer (some ⟨w.heap.size + 1, 0, none⟩) := hT 0 (by decide)
      simp only [t0] at hK
      have H := Lib.hid hK
      clear hK hT
      go_simp
      exact H.out _ _ (Below.refl _ _) rfl (fun h => by cases h) trivial
    refine Rg.cons 2 3 rfl (Rg.plain rfl ?_) ?_
    · intro vs W n hn hI hG hT hF K hK
      simp only [Rg.putsD, List.getD_cons_zero, List.getD_cons_succ, Act.put, List.setIfInBounds_toArray, List.set_cons_zero, List.set_cons_succ] at hK ⊢
      clear hn
      clear hF hI
      have t0 : vs 0 = .pointer (some ⟨w.heap.size + 1, 0, none⟩) := hT 0 (by decide)
      have t1 : vs 1 = .pointer (some ⟨w.heap.size + 1, 0, none⟩) := hT 1 (by decide)
      obtain ⟨c0, c1, _, _⟩ := blk4 (blk_below hG (blk_alloc (blk_alloc (blk_alloc (blk_new (g := w.heap.size + 1) (w.alloc _) _ (by simp)) _) _) _))
      simp only [t0, t1] at hK
      have H := Lib.hid hK
      clear hK hT
      go_simp
      exact H.out _ _ (Below.refl _ _) rfl (fun h => by cases h) trivial
    refine Rg.cons 3 4 rfl (Rg.plain rfl ?_) ?_
    · intro vs W n hn hI hG hT hF K hK
      simp only [Rg.putsD, List.getD_cons_zero, List.getD_cons_succ, Act.put, List.setIfInBounds_toArray, List.set_cons_zero, List.set_cons_succ] at hK ⊢
      clear hn
      clear hF hI
      have H := Lib.hid hK
      clear hK hT
      go_simp
      exact H.out _ _ (Below.refl _ _) rfl (fun h => by cases h) trivial
    refine Rg.cons 4 5 rfl (Rg.plain rfl ?_) ?_
    · intro vs W n hn hI hG hT hF K hK
      simp only [Rg.putsD, List.getD_cons_zero, List.getD_cons_succ, Act.put, List.setIfInBounds_toArray, List.set_cons_zero, List.set_cons_succ] at hK ⊢
      clear hn
      clear hF hI
      have H := Lib.hid hK
      clear hK hT
      go_simp
      exact H.out _ _ (Below.refl _ _) rfl (fun h => by cases h) trivial
    refine Rg.cons 5 6 rfl (Rg.plain rfl ?_) ?_
    · intro vs W n hn hI hG hT hF K hK
      simp only [Rg.putsD, List.getD_cons_zero, List.getD_cons_succ, Act.put, List.setIfInBounds_toArray, List.set_cons_zero, List.set_cons_succ] at hK ⊢
      clear hn
      clear hF hI
      have H := Lib.hid hK
      clear hK hT
      go_simp
      exact H.out _ _ (Below.refl _ _) rfl (fun h => by cases h) trivial
    refine Rg.cons 6 7 rfl (Rg.plain rfl ?_) ?_
    · intro vs W n hn hI hG hT hF K hK
      simp only [Rg.putsD, List.getD_cons_zero, List.getD_cons_succ, Act.put, List.setIfInBounds_toArray, List.set_cons_zero, List.set_cons_succ] at hK ⊢
      clear hn
      clear hF hI
      have t4 : vs 4 = .int .i64 dx := hT 4 (by decide)
      have t5 : vs 5 = .int .i64 re := hT 5 (by decide)
      have e := V.out.1
      simp only [t4, t5] at hK
      have H := Lib.hid hK
      clear hK hT
      go_simp
      exact H.out _ _ (Below.refl _ _) rfl (fun h => by cases h) trivial
    refine Rg.cons 7 8 rfl (Rg.plain rfl ?_) ?_
    · intro vs W n hn hI hG hT hF K hK
      simp only [Rg.putsD, List.getD_cons_zero, List.getD_cons_succ, Act.put, List.setIfInBounds_toArray, List.set_cons_zero, List.set_cons_succ] at hK ⊢
      clear hn
      clear hF hI
      have H := Lib.hid hK
      clear hK hT
      go_simp
      exact H.out _ _ (Below.refl _ _) rfl (fun h => by cases h) trivial
    refine Rg.cons 8 9 rfl (Rg.plain rfl ?_) ?_
    · intro vs W n hn hI hG hT hF K hK
      simp only [Rg.putsD, List.getD_cons_zero, List.getD_cons_succ, Act.put, List.setIfInBounds_toArray, List.set_cons_zero, List.set_cons_succ] at hK ⊢
      clear hn
      clear hF hI
      have H := Lib.hid hK
      clear hK hT
      go_simp
      exact H.out _ _ (Below.refl _ _) rfl (fun h => by cases h) trivial
    refine Rg.cons 9 10 rfl (Rg.plain rfl ?_) ?_
    · intro vs W n hn hI hG hT hF K hK
      simp only [Rg.putsD, List.getD_cons_zero, List.getD_cons_succ, Act.put, List.setIfInBounds_toArray, List.set_cons_zero, List.set_cons_succ] at hK ⊢
      clear hn
      clear hF hI
      have t7 : vs 7 = .int .i64 dy := hT 7 (by decide)
      have t8 : vs 8 = .int .i64 im := hT 8 (by decide)
      have e := V.out.2.1
      simp only [t7, t8] at hK
      have H := Lib.hid hK
      clear hK hT
      go_simp
      exact H.out _ _ (Below.refl _ _) rfl (fun h => by cases h) trivial
    refine Rg.cons 10 11 rfl (Rg.plain rfl ?_) ?_
    · intro vs W n hn hI hG hT hF K hK
      simp only [Rg.putsD, List.getD_cons_zero, List.getD_cons_succ, Act.put, List.setIfInBounds_toArray, List.set_cons_zero, List.set_cons_succ] at hK ⊢
      clear hn
      clear hF hI
      have t4 : vs 4 = .int .i64 dx := hT 4 (by decide)
      have t5 : vs 5 = .int .i64 re := hT 5 (by decide)
      have t6 : vs 6 = .int .i64 (dx * re) := hT 6 (by decide)
      have t7 : vs 7 = .int .i64 dy := hT 7 (by decide)
      have t8 : vs 8 = .int .i64 im := hT 8 (by decide)
      have t9 : vs 9 = .int .i64 (dy * im) := hT 9 (by decide)
      have e := EF.out.1
      have e2 := V.out.2.2.2.2.1
      simp only [t4, t5, t6, t7, t8, t9] at hK
      have H := Lib.hid hK
      clear hK hT
      go_simp
      exact H.out _ _ (Below.refl _ _) rfl (fun h => by cases h) trivial
    refine Rg.cons 11 12 rfl (Rg.plain rfl ?_) ?_
    · intro vs W n hn hI hG hT hF K hK
      simp only [Rg.putsD, List.getD_cons_zero, List.getD_cons_succ, Act.put, List.setIfInBounds_toArray, List.set_cons_zero, List.set_cons_succ] at hK ⊢
      clear hn
      clear hF hI
      have t3 : vs 3 = .func (.func 88) #[] #[.pointer (some ⟨w.heap.size + 1 + 1 + 1 + 1, 0, none⟩)] := hT 3 (by decide)
      have t4 : vs 4 = .int .i64 dx := hT 4 (by decide)
      have t5 : vs 5 = .int .i64 re := hT 5 (by decide)
      have t6 : vs 6 = .int .i64 (dx * re) := hT 6 (by decide)
      have t7 : vs 7 = .int .i64 dy := hT 7 (by decide)
      have t8 : vs 8 = .int .i64 im := hT 8 (by decide)
      have t9 : vs 9 = .int .i64 (dy * im) := hT 9 (by decide)
      have t10 : vs 10 = .int .i64 fx := hT 10 (by decide)
      simp only [t3, t4, t5, t6, t7, t8, t9, t10] at hK
      have H := Lib.hid hK
      clear hK hT
      go_simp
      refine (CX.out _ _ ?_).mono ?_
      · rw [cell_of_blk (blk_below hG (blk_new (g := w.heap.size + 1 + 1 + 1 + 1) _ _ (by simp)))]; rfl
      rintro e w1 ⟨rfl, rfl⟩
      exact H.out _ _ (Below.refl _ _) rfl (fun h => by cases h) trivial
    refine Rg.cons 12 13 rfl (Rg.plain rfl ?_) ?_
    · intro vs W n hn hI hG hT hF K hK
      simp only [Rg.putsD, List.getD_cons_zero, List.getD_cons_succ, Act.put, List.setIfInBounds_toArray, List.set_cons_zero, List.set_cons_succ] at hK ⊢
      clear hn
      clear hF hI
      have t0 : vs 0 = .pointer (some ⟨w.heap.size + 1, 0, none⟩) := hT 0 (by decide)
      have t1 : vs 1 = .pointer (some ⟨w.heap.size + 1, 0, none⟩) := hT 1 (by decide)
      have t2 : vs 2 = .int .i64 m0x := hT 2 (by decide)
      have t3 : vs 3 = .func (.func 88) #[] #[.pointer (some ⟨w.heap.size + 1 + 1 + 1 + 1, 0, none⟩)] := hT 3 (by decide)
      have t4 : vs 4 = .int .i64 dx := hT 4 (by decide)
      have t5 : vs 5 = .int .i64 re := hT 5 (by decide)
      have t6 : vs 6 = .int .i64 (dx * re) := hT 6 (by decide)
      have t7 : vs 7 = .int .i64 dy := hT 7 (by decide)
      have t8 : vs 8 = .int .i64 im := hT 8 (by decide)
      have t9 : vs 9 = .int .i64 (dy * im) := hT 9 (by decide)
      have t10 : vs 10 = .int .i64 fx := hT 10 (by decide)
      have t11 : vs 11 = .int .i64 X := hT 11 (by decide)
      have e := V.out.2.2.2.2.2.2.1
      simp only [t0, t1, t2, t3, t4, t5, t6, t7, t8, t9, t10, t11] at hK
      have H := Lib.hid hK
      clear hK hT
      go_simp
      exact H.out _ _ (Below.refl _ _) rfl (fun h => by cases h) trivial
    refine Rg.cons 13 14 rfl (Rg.plain rfl ?_) ?_
    · intro vs W n hn hI hG hT hF K hK
      simp only [Rg.putsD, List.getD_cons_zero, List.getD_cons_succ, Act.put, List.setIfInBounds_toArray, List.set_cons_zero, List.set_cons_succ] at hK ⊢
      clear hn
      clear hF hI
      have H := Lib.hid hK
      clear hK hT
      go_simp
      exact H.out _ _ (Below.refl _ _) rfl (fun h => by cases h) trivial
    refine Rg.cons 14 15 rfl (Rg.plain rfl ?_) ?_
    · intro vs W n hn hI hG hT hF K hK
      simp only [Rg.putsD, List.getD_cons_zero, List.getD_cons_succ, Act.put, List.setIfInBounds_toArray, List.set_cons_zero, List.set_cons_succ] at hK ⊢
      clear hn
      clear hF hI
      have t13 : vs 13 = .pointer (some ⟨w.heap.size + 1, 0, none⟩) := hT 13 (by decide)
      simp only [t13] at hK
      have H := Lib.hid hK
      clear hK hT
      go_simp
      exact H.out _ _ (Below.refl _ _) rfl (fun h => by cases h) trivial
    refine Rg.cons 15 16 rfl (Rg.plain rfl ?_) ?_
    · intro vs W n hn hI hG hT hF K hK
      simp only [Rg.putsD, List.getD_cons_zero, List.getD_cons_succ, Act.put, List.setIfInBounds_toArray, List.set_cons_zero, List.set_cons_succ] at hK ⊢
      clear hn
      clear hF hI
      have t13 : vs 13 = .pointer (some ⟨w.heap.size + 1, 0, none⟩) := hT 13 (by decide)
      have t14 : vs 14 = .pointer (some ⟨w.heap.size + 1, 1, none⟩) := hT 14 (by decide)
      obtain ⟨c0, c1, _, _⟩ := blk4 (blk_below hG (blk_alloc (blk_alloc (blk_alloc (blk_new (g := w.heap.size + 1) (w.alloc _) _ (by simp)) _) _) _))
      simp only [t13, t14] at hK
      have H := Lib.hid hK
      clear hK hT
      go_simp
      exact H.out _ _ (Below.refl _ _) rfl (fun h => by cases h) trivial
    refine Rg.cons 16 17 rfl (Rg.plain rfl ?_) ?_
    · intro vs W n hn hI hG hT hF K hK
      simp only [Rg.putsD, List.getD_cons_zero, List.getD_cons_succ, Act.put, List.setIfInBounds_toArray, List.set_cons_zero, List.set_cons_succ] at hK ⊢
      clear hn
      clear hF hI
      have H := Lib.hid hK
      clear hK hT
      go_simp
      exact H.out _ _ (Below.refl _ _) rfl (fun h => by cases h) trivial
    refine Rg.cons 17 18 rfl (Rg.plain rfl ?_) ?_
    · intro vs W n hn hI hG hT hF K hK
      simp only [Rg.putsD, List.getD_cons_zero, List.getD_cons_succ, Act.put, List.setIfInBounds_toArray, List.set_cons_zero, List.set_cons_succ] at hK ⊢
      clear hn
      clear hF hI
      have H := Lib.hid hK
      clear hK hT
      go_simp
      exact H.out _ _ (Below.refl _ _) rfl (fun h => by cases h) trivial
    refine Rg.cons 18 19 rfl (Rg.plain rfl ?_) ?_
    · intro vs W n hn hI hG hT hF K hK
      simp only [Rg.putsD, List.getD_cons_zero, List.getD_cons_succ, Act.put, List.setIfInBounds_toArray, List.set_cons_zero, List.set_cons_succ] at hK ⊢
      clear hn
      clear hF hI
      have H := Lib.hid hK
      clear hK hT
      go_simp
      exact H.out _ _ (Below.refl _ _) rfl (fun h => by cases h) trivial
    refine Rg.cons 19 20 rfl (Rg.plain rfl ?_) ?_
    · intro vs W n hn hI hG hT hF K hK
      simp only [Rg.putsD, List.getD_cons_zero, List.getD_cons_succ, Act.put, List.setIfInBounds_toArray, List.set_cons_zero, List.set_cons_succ] at hK ⊢
      clear hn
      clear hF hI
      have t17 : vs 17 = .int .i64 dx := hT 17 (by decide)
      have t18 : vs 18 = .int .i64 im := hT 18 (by decide)
      have e := V.out.2.2.1
      simp only [t17, t18] at hK
      have H := Lib.hid hK
      clear hK hT
      go_simp
      exact H.out _ _ (Below.refl _ _) rfl (fun h => by cases h) trivial
    refine Rg.cons 20 21 rfl (Rg.plain rfl ?_) ?_
    · intro vs W n hn hI hG hT hF K hK
      simp only [Rg.putsD, List.getD_cons_zero, List.getD_cons_succ, Act.put, List.setIfInBounds_toArray, List.set_cons_zero, List.set_cons_succ] at hK ⊢
      clear hn
      clear hF hI
      have H := Lib.hid hK
      clear hK hT
      go_simp
      exact H.out _ _ (Below.refl _ _) rfl (fun h => by cases h) trivial
    refine Rg.cons 21 22 rfl (Rg.plain rfl ?_) ?_
    · intro vs W n hn hI hG hT hF K hK
      simp only [Rg.putsD, List.getD_cons_zero, List.getD_cons_succ, Act.put, List.setIfInBounds_toArray, List.set_cons_zero, List.set_cons_succ] at hK ⊢
      clear hn
      clear hF hI
      have H := Lib.hid hK
      clear hK hT
      go_simp
      exact H.out _ _ (Below.refl _ _) rfl (fun h => by cases h) trivial
    refine Rg.cons 22 23 rfl (Rg.plain rfl ?_) ?_
    · intro vs W n hn hI hG hT hF K hK
      simp only [Rg.putsD, List.getD_cons_zero, List.getD_cons_succ, Act.put, List.setIfInBounds_toArray, List.set_cons_zero, List.set_cons_succ] at hK ⊢
      clear hn
      clear hF hI
      have t20 : vs 20 = .int .i64 dy := hT 20 (by decide)
      have t21 : vs 21 = .int .i64 re := hT 21 (by decide)
      have e := V.out.2.2.2.1
      simp only [t20, t21] at hK
      have H := Lib.hid hK
      clear hK hT
      go_simp
      exact H.out _ _ (Below.refl _ _) rfl (fun h => by cases h) trivial
    refine Rg.cons 23 24 rfl (Rg.plain rfl ?_) ?_
    · intro vs W n hn hI hG hT hF K hK
      simp only [Rg.putsD, List.getD_cons_zero, List.getD_cons_succ, Act.put, List.setIfInBounds_toArray, List.set_cons_zero, List.set_cons_succ] at hK ⊢
      clear hn
      clear hF hI
      have t17 : vs 17 = .int .i64 dx := hT 17 (by decide)
      have t18 : vs 18 = .int .i64 im := hT 18 (by decide)
      have t19 : vs 19 = .int .i64 (dx * im) := hT 19 (by decide)
      have t20 : vs 20 = .int .i64 dy := hT 20 (by decide)
      have t21 : vs 21 = .int .i64 re := hT 21 (by decide)
      have t22 : vs 22 = .int .i64 (dy * re) := hT 22 (by decide)
      have e := EF.out.2
      have e2 := V.out.2.2.2.2.2.1
      simp only [t17, t18, t19, t20, t21, t22] at hK
      have H := Lib.hid hK
      clear hK hT
      go_simp
      exact H.out _ _ (Below.refl _ _) rfl (fun h => by cases h) trivial
    refine Rg.cons 24 25 rfl (Rg.plain rfl ?_) ?_
    · intro vs W n hn hI hG hT hF K hK
      simp only [Rg.putsD, List.getD_cons_zero, List.getD_cons_succ, Act.put, List.setIfInBounds_toArray, List.set_cons_zero, List.set_cons_succ] at hK ⊢
      clear hn
      clear hF hI
      have t3 : vs 3 = .func (.func 88) #[] #[.pointer (some ⟨w.heap.size + 1 + 1 + 1 + 1, 0, none⟩)] := hT 3 (by decide)
      have t4 : vs 4 = .int .i64 dx := hT 4 (by decide)
      have t5 : vs 5 = .int .i64 re := hT 5 (by decide)
      have t6 : vs 6 = .int .i64 (dx * re) := hT 6 (by decide)
      have t7 : vs 7 = .int .i64 dy := hT 7 (by decide)
      have t8 : vs 8 = .int .i64 im := hT 8 (by decide)
      have t9 : vs 9 = .int .i64 (dy * im) := hT 9 (by decide)
      have t10 : vs 10 = .int .i64 fx := hT 10 (by decide)
      have t11 : vs 11 = .int .i64 X := hT 11 (by decide)
      have t16 : vs 16 = .func (.func 88) #[] #[.pointer (some ⟨w.heap.size + 1 + 1 + 1 + 1, 0, none⟩)] := hT 16 (by decide)
      have t17 : vs 17 = .int .i64 dx := hT 17 (by decide)
      have t18 : vs 18 = .int .i64 im := hT 18 (by decide)
      have t19 : vs 19 = .int .i64 (dx * im) := hT 19 (by decide)
      have t20 : vs 20 = .int .i64 dy := hT 20 (by decide)
      have t21 : vs 21 = .int .i64 re := hT 21 (by decide)
      have t22 : vs 22 = .int .i64 (dy * re) := hT 22 (by decide)
      have t23 : vs 23 = .int .i64 fy := hT 23 (by decide)
      simp only [t3, t4, t5, t6, t7, t8, t9, t10, t11, t16, t17, t18, t19, t20, t21, t22, t23] at hK
      have H := Lib.hid hK
      clear hK hT
      go_simp
      refine (CY.out _ _ ?_).mono ?_
      · rw [cell_of_blk (blk_below hG (blk_new (g := w.heap.size + 1 + 1 + 1 + 1) _ _ (by simp)))]; rfl
      rintro e w1 ⟨rfl, rfl⟩
      exact H.out _ _ (Below.refl _ _) rfl (fun h => by cases h) trivial
    refine Rg.cons 25 26 rfl (Rg.plain rfl ?_) ?_
    · intro vs W n hn hI hG hT hF K hK
      simp only [Rg.putsD, List.getD_cons_zero, List.getD_cons_succ, Act.put, List.setIfInBounds_toArray, List.set_cons_zero, List.set_cons_succ] at hK ⊢
      clear hn
      clear hF hI
      have t3 : vs 3 = .func (.func 88) #[] #[.pointer (some ⟨w.heap.size + 1 + 1 + 1 + 1, 0, none⟩)] := hT 3 (by decide)
      have t4 : vs 4 = .int .i64 dx := hT 4 (by decide)
      have t5 : vs 5 = .int .i64 re := hT 5 (by decide)
      have t6 : vs 6 = .int .i64 (dx * re) := hT 6 (by decide)
      have t7 : vs 7 = .int .i64 dy := hT 7 (by decide)
      have t8 : vs 8 = .int .i64 im := hT 8 (by decide)
      have t9 : vs 9 = .int .i64 (dy * im) := hT 9 (by decide)
      have t10 : vs 10 = .int .i64 fx := hT 10 (by decide)
      have t11 : vs 11 = .int .i64 X := hT 11 (by decide)
      have t13 : vs 13 = .pointer (some ⟨w.heap.size + 1, 0, none⟩) := hT 13 (by decide)
      have t14 : vs 14 = .pointer (some ⟨w.heap.size + 1, 1, none⟩) := hT 14 (by decide)
      have t15 : vs 15 = .int .i64 m0y := hT 15 (by decide)
      have t16 : vs 16 = .func (.func 88) #[] #[.pointer (some ⟨w.heap.size + 1 + 1 + 1 + 1, 0, none⟩)] := hT 16 (by decide)
      have t17 : vs 17 = .int .i64 dx := hT 17 (by decide)
      have t18 : vs 18 = .int .i64 im := hT 18 (by decide)
      have t19 : vs 19 = .int .i64 (dx * im) := hT 19 (by decide)
      have t20 : vs 20 = .int .i64 dy := hT 20 (by decide)
      have t21 : vs 21 = .int .i64 re := hT 21 (by decide)
      have t22 : vs 22 = .int .i64 (dy * re) := hT 22 (by decide)
      have t23 : vs 23 = .int .i64 fy := hT 23 (by decide)
      have t24 : vs 24 = .int .i64 Y := hT 24 (by decide)
      have e := V.out.2.2.2.2.2.2.2
      simp only [t3, t4, t5, t6, t7, t8, t9, t10, t11, t13, t14, t15, t16, t17, t18, t19, t20, t21, t22, t23, t24] at hK
      have H := Lib.hid hK
      clear hK hT
      go_simp
      exact H.out _ _ (Below.refl _ _) rfl (fun h => by cases h) trivial
    exact Rg.nil
  · intro vs W hG hI hT hF
    have t0 : vs 0 = .pointer (some ⟨w.heap.size + 1, 0, none⟩) := hT 0 (by decide)
    have t1 : vs 1 = .pointer (some ⟨w.heap.size + 1, 0, none⟩) := hT 1 (by decide)
    have t2 : vs 2 = .int .i64 m0x := hT 2 (by decide)
    have t3 : vs 3 = .func (.func 88) #[] #[.pointer (some ⟨w.heap.size + 1 + 1 + 1 + 1, 0, none⟩)] := hT 3 (by decide)
    have t4 : vs 4 = .int .i64 dx := hT 4 (by decide)
    have t5 : vs 5 = .int .i64 re := hT 5 (by decide)
    have t6 : vs 6 = .int .i64 (dx * re) := hT 6 (by decide)
    have t7 : vs 7 = .int .i64 dy := hT 7 (by decide)
    have t8 : vs 8 = .int .i64 im := hT 8 (by decide)
    have t9 : vs 9 = .int .i64 (dy * im) := hT 9 (by decide)
    have t10 : vs 10 = .int .i64 fx := hT 10 (by decide)
    have t11 : vs 11 = .int .i64 X := hT 11 (by decide)
    have t12 : vs 12 = .int .i64 (m0x + X) := hT 12 (by decide)
    have t13 : vs 13 = .pointer (some ⟨w.heap.size + 1, 0, none⟩) := hT 13 (by decide)
    have t14 : vs 14 = .pointer (some ⟨w.heap.size + 1, 1, none⟩) := hT 14 (by decide)
    have t15 : vs 15 = .int .i64 m0y := hT 15 (by decide)
    have t16 : vs 16 = .func (.func 88) #[] #[.pointer (some ⟨w.heap.size + 1 + 1 + 1 + 1, 0, none⟩)] := hT 16 (by decide)
    have t17 : vs 17 = .int .i64 dx := hT 17 (by decide)
    have t18 : vs 18 = .int .i64 im := hT 18 (by decide)
    have t19 : vs 19 = .int .i64 (dx * im) := hT 19 (by decide)
    have t20 : vs 20 = .int .i64 dy := hT 20 (by decide)
    have t21 : vs 21 = .int .i64 re := hT 21 (by decide)
    have t22 : vs 22 = .int .i64 (dy * re) := hT 22 (by decide)
    have t23 : vs 23 = .int .i64 fy := hT 23 (by decide)
    have t24 : vs 24 = .int .i64 Y := hT 24 (by decide)
    have t25 : vs 25 = .int .i64 (m0y + Y) := hT 25 (by decide)
    simp only [List.length_cons, List.length_nil, Nat.reduceAdd, List.range, List.range.loop, List.drop_succ_cons, List.drop_zero, Rg.putsD, List.getD_cons_zero, List.getD_cons_succ, Act.put, List.setIfInBounds_toArray, List.set_cons_zero, List.set_cons_succ, t0, t1, t2, t3, t4, t5, t6, t7, t8, t9, t10, t11, t12, t13, t14, t15, t16, t17, t18, t19, t20, t21, t22, t23, t24, t25]
    clear hT t0 t1 t2 t3 t4 t5 t6 t7 t8 t9 t10 t11 t12 t13 t14 t15 t16 t17 t18 t19 t20 t21 t22 t23 t24 t25
    have k6 := blk_below hG (blk_alloc (blk_new (g := w.heap.size + 1 + 1 + 1) (((w.alloc _).alloc _).alloc _) _ (by simp)) _)
    obtain ⟨c0, c1, f0, f1⟩ := blk2 k6
    have HB := Lib.hid ((((((((Below.refl w.heap.size w).alloc (Nat.le_refl _) _).alloc (by simp) _).alloc (by simp; omega) _).alloc (by simp; omega) _).drawN _).alloc (by simp; omega) _).drawN _ |>.drew.ext hG)
    clear hG hF hI k6
    go_wp2_with fail
    refine bodyPost_ret (v := .agg #[.int .i64 (m0x + X), .int .i64 (m0y + Y)]) (by unfold results; simp only [Try.results50]; go_simp) rfl ⟨rfl, ?_⟩
    exact (HB.out.setCell (by simp; omega) _).setCell (by simp; omega) _
end Go.Proofs.Ytiehkcbjfamnkaa
